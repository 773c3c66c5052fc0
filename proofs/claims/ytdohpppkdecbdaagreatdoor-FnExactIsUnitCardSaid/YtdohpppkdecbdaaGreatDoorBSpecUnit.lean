/-
  spec's IsUnit.
-/
import Derived.Test.YtdohpppkdecbdaaGreatDoorBMethMath
namespace Go.Proofs.YtdohpppkdecbdaaGreatDoor.Data
open Go.RowKit Go.Sort
open Strs Tree
theorem plainC_fit (c : C) (h : FitRow 3 (plainMs c.methods)) : FitL (env 4) (plainC c) :=
  FitL.cons _ _ _ _ (Fit.str _) (FitL.cons _ _ _ _ (Fit.str _) (FitL.cons _ _ _ _ (Fit.row _ _ _ rfl (strs_fit _)) (FitL.cons _ _ _ _ (Fit.row _ _ _ rfl h) FitL.nil)))
theorem plainMs_fit (ms : List M) : FitRow 3 (plainMs ms) := by
  induction ms with
  | nil => exact FitRow.nil 3
  | cons m ms ih => rw [plainMs]; exact FitRow.cons 3 _ _ _ rfl (plainM_fit m) ih
theorem plainCs_fit (cs : List C) : FitRow 4 (plainCs cs) := by
  induction cs with
  | nil => exact FitRow.nil 4
  | cons c cs ih => rw [plainCs]; exact FitRow.cons 4 _ _ _ rfl (plainC_fit c (plainMs_fit _)) ih
theorem plainU_fit (u : U) : FitL (env 5) (plainU u) := FitL.cons _ _ _ _ (Fit.row _ _ _ rfl (plainCs_fit _)) (plainM_fit _)
theorem plainM_len (m : M) : (plainM m).length = 5 := rfl
theorem plainC_len (c : C) : (plainC c).length = 4 := rfl
theorem meths_at : ∀ (ms : List M) (ds : List D), erases ds = plainMs ms → ∀ i (h : i < ms.length), ∃ A x B, ds = A ++ (x ++ B) ∧ A.length = i * 5 ∧ erases x = plainM ms[i] := by
  intro ms
  induction ms with
  | nil => intro ds _ i h; simp at h
  | cons m ms ih =>
    intro ds h i hi
    rw [plainMs] at h
    obtain ⟨x, y, rfl, h1, h2⟩ := erases_split h
    cases i with
    | zero => exact ⟨[], x, y, rfl, by simp, h1⟩
    | succ i =>
      obtain ⟨A, x', B, rfl, h3, h4⟩ := ih y h2 i (by simpa using hi)
      refine ⟨x ++ A, x', B, by rw [List.append_assoc], ?_, h4⟩
      have : x.length = 5 := by
        have := congrArg List.length h1
        rw [erases_len, plainM_len] at this
        exact this
      rw [List.length_append, this, h3, Nat.succ_mul]
      omega
theorem classes_at : ∀ (cs : List C) (ds : List D), erases ds = plainCs cs → ∀ i (h : i < cs.length), ∃ A x B, ds = A ++ (x ++ B) ∧ A.length = i * 4 ∧ erases x = plainC cs[i] := by
  intro cs
  induction cs with
  | nil => intro ds _ i h; simp at h
  | cons m ms ih =>
    intro ds h i hi
    rw [plainCs] at h
    obtain ⟨x, y, rfl, h1, h2⟩ := erases_split h
    cases i with
    | zero => exact ⟨[], x, y, rfl, by simp, h1⟩
    | succ i =>
      obtain ⟨A, x', B, rfl, h3, h4⟩ := ih y h2 i (by simpa using hi)
      refine ⟨x ++ A, x', B, by rw [List.append_assoc], ?_, h4⟩
      have : x.length = 4 := by
        have := congrArg List.length h1
        rw [erases_len, plainC_len] at this
        exact this
      rw [List.length_append, this, h3, Nat.succ_mul]
      omega
theorem plainMs_inj : ∀ (a b : List M), plainMs a = plainMs b → a = b := by
  intro a
  induction a with
  | nil =>
    intro b h
    cases b with
    | nil => rfl
    | cons x xs => have := congrArg List.length h; rw [plainMs_len, plainMs_len] at this; simp at this
  | cons m ms ih =>
    intro b h
    cases b with
    | nil => have := congrArg List.length h; rw [plainMs_len, plainMs_len] at this; simp at this
    | cons x xs =>
      rw [plainMs, plainMs] at h
      have h1 := List.append_inj h (by rw [plainM_len, plainM_len])
      rw [plainM_inj _ _ h1.1, ih xs h1.2]
theorem class_form {ds : List D} {c : C} (h : erases ds = plainC c) : ∃ (t2 t3 : Nat) (v2 v3 : Value) (d3 : List D), ds = [.str c.name, .str c.parent, .row t2 1 v2 (strs c.fields), .row t3 5 v3 d3] ∧ erases d3 = plainMs c.methods := by
  obtain ⟨c', t2, t3, v2, v3, d3, rfl, h3, hf, h5⟩ := class_get (ds := ds) (h ▸ plainC_fit c (plainMs_fit _))
  have e := h5.symm.trans h
  obtain ⟨a1, a2, a3, a4⟩ := c'
  obtain ⟨b1, b2, b3, b4⟩ := c
  simp only [plainC, List.cons.injEq, P.str.injEq, P.row.injEq, true_and, and_true] at e
  obtain ⟨rfl, rfl, e3, e4⟩ := e
  obtain rfl := str_inj _ _ e3
  obtain rfl := plainMs_inj _ _ e4
  exact ⟨t2, t3, v2, v3, d3, rfl, h3⟩
def mainText : ByteArray := ⟨#[109, 97, 105, 110]⟩
def classOk (c : C) : Bool := Tok.isName c.name && Tok.isName c.parent && decide (c.fields.length ≤ 4) && decide (c.methods.length ≤ 12) && c.fields.all Tok.isName && c.methods.all methodOk
def unitOk (u : U) : Bool := decide (u.classes.length ≤ 8) && decide (u.main.sel = mainText) && !u.main.cls && decide (u.main.params.length = 0) && isExpr (bodyE u.main) && u.classes.all classOk
theorem unit_form {ds : List D} {u : U} (h : erases ds = plainU u) : ∃ t0 v0 d0 ms, ds = .row t0 4 v0 d0 :: ms ∧ erases d0 = plainCs u.classes ∧ erases ms = plainM u.main := by
  have hf : FitL (env 5) (erases ds) := h ▸ plainU_fit u
  obtain ⟨t0, v0, d0, e0, rfl, f0, h0⟩ := fitL_row (k := 4) rfl hf
  rw [erases, erase, plainU] at h
  simp only [List.cons.injEq, P.row.injEq, true_and] at h
  exact ⟨t0, v0, d0, e0, rfl, h.1, h.2⟩
structure St (w : World) (us : List D) (g : Nat) (cs : List D) (wr : World) : Prop where
  below : Below w.heap.size w wr
  u : Cells w.heap.size us wr
  c : Cells g cs wr
theorem St.step {w wr w' : World} {us cs : List D} {g : Nat} (h : St w us g cs wr) (hb : Below wr.heap.size wr w') : St w us g cs w' := ⟨h.below.trans (hb.mono h.below.size), h.u.step hb, h.c.step hb⟩
theorem plainMs_weight : ∀ (ms : List M) (i : Nat) (h : i < ms.length), Data.weights (plainM ms[i]) ≤ Data.weights (plainMs ms) := by
  intro ms
  induction ms with
  | nil => intro i h; simp at h
  | cons m ms ih =>
    intro i h
    rw [plainMs, Data.weights_append]
    cases i with
    | zero => show Data.weights (plainM m) ≤ _; omega
    | succ i => have := ih i (by simpa using h); show Data.weights (plainM (ms[i]'(by simpa using h))) ≤ _; omega
theorem plainCs_weight : ∀ (cs : List C) (i : Nat) (h : i < cs.length), Data.weights (plainC cs[i]) ≤ Data.weights (plainCs cs) := by
  intro ms
  induction ms with
  | nil => intro i h; simp at h
  | cons m ms ih =>
    intro i h
    rw [plainCs, Data.weights_append]
    cases i with
    | zero => show Data.weights (plainC m) ≤ _; omega
    | succ i => have := ih i (by simpa using h); show Data.weights (plainC (ms[i]'(by simpa using h))) ≤ _; omega
theorem plainC_weight (c : C) : Data.weights (plainC c) = c.name.size + (c.parent.size + ((c.fields.length + lens c.fields) + (c.methods.length + Data.weights (plainMs c.methods)))) := by
  simp only [plainC, Data.weights, Data.weight, strP]
  rw [List.length_map, strs_weights, plainMs_len, Nat.mul_div_cancel _ (by decide), Nat.div_one]
  omega
theorem plainU_weight (u : U) : Data.weights (plainU u) = (u.classes.length + Data.weights (plainCs u.classes)) + Data.weights (plainM u.main) := by
  rw [plainU, Data.weights, Data.weight, plainCs_len, Nat.mul_div_cancel _ (by decide)]
theorem all_take {α : Type} (p : α → Bool) (l : List α) (i : Nat) (h : i < l.length) (h1 : (l.take i).all p = true) (h2 : p l[i] = true) : (l.take (i + 1)).all p = true := by
  rw [List.take_succ_eq_append_getElem h, List.all_append, h1, Bool.true_and, List.all_cons, h2]
  rfl
theorem all_no {α : Type} (p : α → Bool) (l : List α) (i : Nat) (h : i < l.length) (h2 : p l[i] = false) : l.all p = false := by
  rw [← Bool.not_eq_true, List.all_eq_true]
  intro e
  have := e l[i] (List.getElem_mem h)
  rw [h2] at this
  cases this
set_option maxRecDepth 10000 in
set_option maxHeartbeats 8000000 in
theorem is_unit2 {lo : Nat} {w : World} {u : U} {ds : List D} (he : erases ds = plainU u) (hh : Holdss lo w ds) (hs : Semis ds) (hw : Data.weights (erases ds) ≤ 1048576) :
    Calls Tryz.prog 5 #[agg ds] w fun r w' => r = .returned (.bool (unitOk u)) ∧ Below w.heap.size w w' := by
  rw [he, plainU_weight, plainM_weight] at hw
  obtain ⟨t0, v0, d0, ms, rfl, h0, h1⟩ := unit_form he
  rw [Holdss] at hh
  rw [Semis] at hs
  obtain ⟨v2, v3, v4, hag, hm⟩ := meth_at2 h1 hh.2 hs.2
  have hg0 := hh.1
  rw [Holds] at hg0
  obtain ⟨⟨a0, n0, c0, rfl, -, hl0, hn0, hc0, hcell⟩, hcs⟩ := hg0
  have hs0 := hs.1
  have hsts := semi_classes hs0 h0
  clear hs0 hs hh he
  have hlen := congrArg List.length h0
  rw [erases_len, plainCs_len] at hlen
  obtain rfl : n0 = u.classes.length := by omega
  have hagg : agg (.row t0 4 (.slice a0 u.classes.length c0) d0 :: ms) = .agg #[.slice a0 u.classes.length c0, .string u.main.sel, .bool u.main.cls, v2, v3, v4] := by
    have e : vals ms = [.string u.main.sel, .bool u.main.cls, v2, v3, v4] := by
      unfold agg at hag
      have := Value.agg.inj hag
      exact congrArg Array.toList this
    show Value.agg (Value.slice a0 u.classes.length c0 :: vals ms).toArray = _
    rw [e]
  rw [hagg]
  obtain ⟨cs, m⟩ := u
  simp only at *
  clear hagg hag h1 hl0 hlen
  obtain ⟨pa, pc, hp2, -⟩ := id hm.params
  have HV : Hid (unitOk ⟨cs, m⟩ = (decide (cs.length ≤ 8) && decide (m.sel = mainText) && !m.cls && decide (m.params.length = 0) && isExpr (bodyE m) && cs.all classOk)) := Lib.hid rfl
  generalize unitOk ⟨cs, m⟩ = R at *
  subst hp2
  have HM := Lib.hid hm
  clear hm
  by_cases hn8 : (cs.length : Int) ≤ 8
  case neg =>
    have hR : R = false := by rw [HV.out, decide_eq_false (by omega)]; rfl
    subst hR
    clear HV HM hcs hsts h0
    go_enter Tryz.func5, Tryz.ntmps5
    go_wp2_with fail
    go_ret
    exact ⟨rfl, (Below.refl _ _).alloc (Nat.le_refl _) _⟩
  by_cases hsel : m.sel = mainText
  case neg =>
    have hR : R = false := by rw [HV.out, decide_eq_false hsel]; simp
    subst hR
    have hse : ¬ m.sel.toList = [109, 97, 105, 110] := fun e => hsel (by
      apply ByteArray.ext
      apply Array.ext'
      rw [← ByteArray.toList_eq, e]
      rfl)
    clear HV HM hcs hsts h0 hsel
    go_enter Tryz.func5, Tryz.ntmps5
    go_wp2_with fail
    go_ret
    exact ⟨rfl, (Below.refl _ _).alloc (Nat.le_refl _) _⟩
  have hse : m.sel.toList = [109, 97, 105, 110] := by rw [hsel]; rw [ByteArray.toList_eq]; rfl
  have HSEL := Lib.hid hsel
  clear hsel
  generalize hcls : m.cls = mc at *
  have HCL := Lib.hid hcls
  clear hcls
  cases mc with
  | true =>
    have hR : R = false := by rw [HV.out]; simp
    subst hR
    clear HV HM hcs hsts h0
    go_enter Tryz.func5, Tryz.ntmps5
    go_wp2_with fail
    go_ret
    exact ⟨rfl, (Below.refl _ _).alloc (Nat.le_refl _) _⟩
  | false =>
  by_cases hnp : m.params.length = 0
  case neg =>
    have hR : R = false := by rw [HV.out, decide_eq_false hnp]; simp
    subst hR
    generalize m.params.length = np at *
    clear HV HM hcs hsts h0
    go_enter Tryz.func5, Tryz.ntmps5
    go_wp2_with fail
    go_ret
    exact ⟨rfl, (Below.refl _ _).alloc (Nat.le_refl _) _⟩
  have hlm : m.params.length + m.temps.length ≤ 4398046511104 := by
    have h1 := bodyE_weight m
    rw [List.length_append] at h1
    omega
  have KB : ∀ w', Below w.heap.size w w' → Hid (Calls Tryz.prog 12 #[.agg #[.string m.sel, .bool false, .slice pa 0 pc, v3, v4]] w' fun r w'' => ∃ vn vk, r = .returned (.agg #[.int .i64 8, .string ⟨#[]⟩, .int .i64 0, vn, vk]) ∧ NodeAt 0 w'' (bodyE m) vn vk ∧ Below w'.heap.size w' w'') := fun w' hb => Lib.hid (by
    have h := body_any (HM.out.below hb) hlm
    rw [HCL.out, hnp] at h
    exact h)
  have KE : ∀ w' vn vk, NodeAt 0 w' (bodyE m) vn vk → Hid (Calls Tryz.prog 11 #[.agg #[.int .i64 8, .string ⟨#[]⟩, .int .i64 0, vn, vk]] w' fun r w'' => r = .returned (.bool (isExpr (bodyE m))) ∧ Below w'.heap.size w' w'') := fun w' vn vk hn => Lib.hid (by
    have h := SpecRight.is_expr (lo := 0) (e := bodyE m) (w := w') ⟨vn, vk, rfl, hn⟩ (by omega)
    have e : (bodyE m).num = 0 := by show (m.params.length : Int) = 0; rw [hnp]; rfl
    rw [e] at h
    exact h)
  have HVX : Hid (R = (isExpr (bodyE m) && cs.all classOk)) := Lib.hid (by
    rw [HV.out, decide_eq_true (show cs.length ≤ 8 by omega), decide_eq_true HSEL.out, decide_eq_true hnp]
    simp)
  rw [hnp]
  have HW : Hid (cs.length + Data.weights (plainCs cs) ≤ 1048576) := Lib.hid (by omega)
  clear HV HM HSEL HCL hnp hlm hw
  generalize isExpr (bodyE m) = X at *
  generalize bodyE m = BE at *
  have H0 := Lib.hid h0
  have HCS := Lib.hid hcs
  have HST := Lib.hid hsts
  have HCELL := Lib.hid hcell
  clear h0 hcs hsts hcell
  unfold maxLen at hc0
  have hb0 : Below w.heap.size w (w.alloc (.cells #[.slice a0 cs.length c0, .string m.sel, .bool false, .slice pa 0 pc, v3, v4] 36)) := (Below.refl _ _).alloc (Nat.le_refl _) _
  have hu0 : Cells w.heap.size [.row 0 4 (.slice a0 cs.length c0) [], .str m.sel, .bool false, .row 0 1 (.slice pa 0 pc) [], .row 0 1 v3 [], .row 0 5 v4 []] (w.alloc (.cells #[.slice a0 cs.length c0, .string m.sel, .bool false, .slice pa 0 pc, v3, v4] 36)) := cells_new w [.row 0 4 (.slice a0 cs.length c0) [], .str m.sel, .bool false, .row 0 1 (.slice pa 0 pc) [], .row 0 1 v3 [], .row 0 5 v4 []] _
  have HB0 := Lib.hid hb0
  have HU0 := Lib.hid hu0
  clear hb0 hu0
  generalize hN : cs.length = N at *
  have HN := Lib.hid hN
  clear hN
  go_enter Tryz.func5, Tryz.ntmps5
  go_wp2_with fail
  refine (KB _ HB0.out).out.mono ?_
  rintro e w1 ⟨vn, vk, rfl, hn, hb1⟩
  have KE2 := Lib.hid (KE w1 vn vk hn).out
  have HB1 := Lib.hid (HB0.out.trans (hb1.mono HB0.out.size))
  have HU1 := Lib.hid (HU0.out.step hb1)
  clear hb1 hn KB KE HB0 HU0
  go_wp2_with fail
  refine KE2.out.mono ?_
  rintro e w2 ⟨rfl, hb2⟩
  have HB2 := Lib.hid (HB1.out.trans (hb2.mono HB1.out.size))
  have HU2 := Lib.hid (HU1.out.step hb2)
  clear hb2 KE2 HB1 HU1
  cases X with
  | false =>
    have hR : R = false := by rw [HVX.out]; rfl
    subst hR
    clear HVX
    go_wp2_with fail
    go_ret
    exact ⟨rfl, HB2.out⟩
  | true =>
  have HVA : Hid (R = cs.all classOk) := Lib.hid (by rw [HVX.out]; rfl)
  clear HVX
  go_wp2_with fail
  go_loopw [3] (fun j wr => ∃ i : Nat, i ≤ N ∧ j = .int .i64 i ∧ (cs.take i).all classOk = true ∧ Below w.heap.size w wr ∧ Cells w.heap.size [.row 0 4 (.slice a0 N c0) [], .str m.sel, .bool false, .row 0 1 (.slice pa 0 pc) [], .row 0 1 v3 [], .row 0 5 v4 []] wr) (fun j _ => N - (intOf j).toNat)
  case atStart => exact ⟨0, Nat.zero_le _, rfl, rfl, HB2.out, HU2.out⟩
  case round =>
    clear HB2 HU2
    obtain ⟨i, hi, rfl, hall, hbw, hub⟩ := hrel
    have HALL := Lib.hid hall
    have HBW := Lib.hid hbw
    have HUB := Lib.hid hub
    have u0 := hub.at 0 (.row 0 4 (.slice a0 N c0) []) rfl
    simp only [val] at u0
    clear hall hbw hub
    by_cases hlt : i < N
    case neg =>
      have hiN : i = N := by omega
      have hR : R = true := by
        rw [HVA.out]
        have := HALL.out
        rw [hiN, ← HN.out, List.take_length] at this
        exact this
      subst hR
      clear hiN HVA
      go_wp2_with fail
      go_ret
      exact ⟨rfl, HBW.out⟩
    have hil : i < cs.length := by rw [HN.out]; exact hlt
    obtain ⟨b, o, ha, -, hcell⟩ := HCELL.out (by omega)
    subst ha
    obtain ⟨A, x, B', hd, hal, hx⟩ := classes_at cs d0 H0.out i hil
    have hxh : Holdss lo w x := (Holdss.append.1 (Holdss.append.1 (hd ▸ HCS.out)).2).1
    have hxs : Semis x := (Semis.append.1 (Semis.append.1 (hd ▸ HST.out)).2).1
    have hwc : Data.weights (plainC cs[i]) ≤ 1048576 := by have := plainCs_weight cs i hil; have := HW.out; omega
    rw [plainC_weight] at hwc
    obtain ⟨t2, t3, f2, f3, dm, hxf, hm3⟩ := class_form hx
    have HRF : Hid (classOk cs[i] = false → R = false) := Lib.hid fun h => by rw [HVA.out]; exact all_no _ _ _ hil h
    have HRT : Hid (classOk cs[i] = true → (cs.take (i + 1)).all classOk = true) := Lib.hid fun h => all_take _ _ _ hil HALL.out h
    subst hxf
    simp only [Holdss, and_true] at hxh
    obtain ⟨g0, g1, g2, g3⟩ := hxh
    rw [semis_iff] at hxs
    have hs2 := semi_texts (hxs (.row t2 1 f2 (strs cs[i].fields)) (by simp))
    have hs3 := semi_methods (hxs (.row t3 5 f3 dm) (by simp)) hm3
    have htx := strs_texts g2
    rw [Holds] at g3
    obtain ⟨⟨ma, mn, mc, rfl, -, hml, hmn, hmc, hmcell⟩, hmh⟩ := g3
    have hmlen := congrArg List.length hm3
    rw [erases_len, plainMs_len] at hmlen
    obtain rfl : mn = cs[i].methods.length := by omega
    have e0 := cell_keep HBW.out (row_at0 hcell hd hal (.str cs[i].name) rfl)
    have e1 := cell_keep HBW.out (row_at hcell hd hal 1 (.str cs[i].parent) rfl)
    have e2 := cell_keep HBW.out (row_at hcell hd hal 2 (.row t2 1 f2 (strs cs[i].fields)) rfl)
    have e3 := cell_keep HBW.out (row_at hcell hd hal 3 (.row t3 5 (.slice ma cs[i].methods.length mc) dm) rfl)
    simp only [val] at e0 e1 e2 e3
    clear hcell hd hal hx hml hxs HALL HN
    generalize cs[i] = cc at *
    obtain ⟨fa, fc, rfl, hfm, -, hfcell⟩ := id htx
    have hsz0 : cc.name.size ≤ 1048576 := by omega
    have hsz1 : cc.parent.size ≤ 1048576 := by omega
    have KN0 := fun w' => Lib.hid (SpecName.isname_any cc.name w' hsz0)
    have KN1 := fun w' => Lib.hid (SpecName.isname_any cc.parent w' hsz1)
    have HF : Hid (∀ k x, cc.fields[k]? = some x → ∃ b o, fa = some ⟨b, o, none⟩ ∧ w.cell? ⟨b, o + k, none⟩ = some (.string x) ∧ x.size ≤ 1048576) := Lib.hid fun k x hx => by
      obtain ⟨h, rfl⟩ := List.getElem?_eq_some_iff.1 hx
      obtain ⟨b, o, e, -, hc⟩ := hfcell (by omega)
      exact ⟨b, o, e, hc k h, by have := len_kid cc.fields k h; omega⟩
    have HMM : Hid (∀ k mm, cc.methods[k]? = some mm → ∃ b o v2 v3 v4, ma = some ⟨b, o, none⟩ ∧ (∀ wr', Below w.heap.size w wr' → wr'.cell? ⟨b, o + k * 5, none⟩ = some (.string mm.sel) ∧ wr'.cell? ⟨b, o + k * 5 + 1, none⟩ = some (.bool mm.cls) ∧ wr'.cell? ⟨b, o + k * 5 + 2, none⟩ = some v2 ∧ wr'.cell? ⟨b, o + k * 5 + 3, none⟩ = some v3 ∧ wr'.cell? ⟨b, o + k * 5 + 4, none⟩ = some v4) ∧ (∀ wr', Below w.heap.size w wr' → Hid (Calls Tryz.prog 14 #[.agg #[.string mm.sel, .bool mm.cls, v2, v3, v4]] wr' fun r w' => r = .returned (.bool (methodOk mm)) ∧ Below wr'.heap.size wr' w'))) := Lib.hid fun k mm hmk => by
      obtain ⟨h, rfl⟩ := List.getElem?_eq_some_iff.1 hmk
      obtain ⟨b, o, e, -, hc⟩ := hmcell (by omega)
      obtain ⟨A, x, B', hd, hal, hx⟩ := meths_at cc.methods dm hm3 k h
      have hxh : Holdss lo w x := (Holdss.append.1 (Holdss.append.1 (hd ▸ hmh)).2).1
      have hxs : Semis x := (Semis.append.1 (Semis.append.1 (hd ▸ hs3)).2).1
      obtain ⟨v2, v3, v4, hag, hma⟩ := meth_at2 hx hxh hxs
      obtain ⟨t2, t3, t4, w2, w3, w4, d4, hxf, -⟩ := meth_form hx
      have hvv : v2 = w2 ∧ v3 = w3 ∧ v4 = w4 := by
        rw [hxf] at hag
        have := congrArg Array.toList (Value.agg.inj hag)
        simp [vals, val] at this
        exact ⟨this.1.symm, this.2.1.symm, this.2.2.symm⟩
      obtain ⟨rfl, rfl, rfl⟩ := hvv
      have hwm := plainMs_weight cc.methods k h
      rw [plainM_weight] at hwm
      refine ⟨b, o, v2, v3, v4, e, fun wr' hb => ⟨?_, ?_, ?_, ?_, ?_⟩, fun wr' hb => Lib.hid (is_meth (hma.below hb) (by omega))⟩
      · exact cell_keep hb (row_at0 hc hd hal (.str cc.methods[k].sel) (by rw [hxf]; rfl))
      · exact cell_keep hb (row_at hc hd hal 1 (.bool cc.methods[k].cls) (by rw [hxf]; rfl))
      · exact cell_keep hb (row_at hc hd hal 2 (.row t2 1 v2 (strs cc.methods[k].params)) (by rw [hxf]; rfl))
      · exact cell_keep hb (row_at hc hd hal 3 (.row t3 1 v3 (strs cc.methods[k].temps)) (by rw [hxf]; rfl))
      · exact cell_keep hb (row_at hc hd hal 4 (.row t4 5 v4 d4) (by rw [hxf]; rfl))
    have HCO : Hid (classOk cc = (Tok.isName cc.name && Tok.isName cc.parent && decide (cc.fields.length ≤ 4) && decide (cc.methods.length ≤ 12) && cc.fields.all Tok.isName && cc.methods.all methodOk)) := Lib.hid rfl
    generalize classOk cc = Q at *
    have hbx : Below wr.heap.size wr (wr.alloc (.cells #[.string cc.name, .string cc.parent, .slice fa cc.fields.length fc, .slice ma cc.methods.length mc] 48)) := (Below.refl _ _).alloc (Nat.le_refl _) _
    have hcx : Cells wr.heap.size [.str cc.name, .str cc.parent, .row 0 1 (.slice fa cc.fields.length fc) [], .row 0 5 (.slice ma cc.methods.length mc) []] (wr.alloc (.cells #[.string cc.name, .string cc.parent, .slice fa cc.fields.length fc, .slice ma cc.methods.length mc] 48)) := cells_new wr [.str cc.name, .str cc.parent, .row 0 1 (.slice fa cc.fields.length fc) [], .row 0 5 (.slice ma cc.methods.length mc) []] _
    have HS0 : Hid (St w [.row 0 4 (.slice (some ⟨b, o, none⟩) N c0) [], .str m.sel, .bool false, .row 0 1 (.slice pa 0 pc) [], .row 0 1 v3 [], .row 0 5 v4 []] wr.heap.size [.str cc.name, .str cc.parent, .row 0 1 (.slice fa cc.fields.length fc) [], .row 0 5 (.slice ma cc.methods.length mc) []] (wr.alloc (.cells #[.string cc.name, .string cc.parent, .slice fa cc.fields.length fc, .slice ma cc.methods.length mc] 48))) := Lib.hid ⟨HBW.out.trans (hbx.mono HBW.out.size), HUB.out.step hbx, hcx⟩
    have hmf : cc.fields.length ≤ 1048576 := by omega
    have hmm : cc.methods.length ≤ 1048576 := by omega
    clear htx hs2 hs3 hm3 hmh hmcell hfcell hfm hmn hmc hmlen g0 g1 g2 hwc hbx hcx HBW HUB hsz0 hsz1
    generalize hNF : cc.fields.length = NF at *
    generalize hNM : cc.methods.length = NM at *
    have HNF := Lib.hid hNF
    have HNM := Lib.hid hNM
    clear hNF hNM
    go_wp2_with fail
    refine (KN0 _).out.mono ?_
    rintro e x1 ⟨rfl, hb1⟩
    have HS1 := Lib.hid (HS0.out.step hb1)
    clear hb1 HS0 KN0 e0 e1 e2 e3 u0
    generalize wr.heap.size = gc at *
    generalize Tok.isName cc.name = b1 at *
    cases b1 with
    | false =>
      have hR : R = false := HRF.out HCO.out
      subst hR
      clear HRF HRT HCO
      go_wp2_with fail
      go_ret
      exact ⟨rfl, HS1.out.below⟩
    | true =>
    have d1 := HS1.out.c.at 1 (.str cc.parent) rfl
    simp only [val] at d1
    go_wp2_with fail
    refine (KN1 _).out.mono ?_
    rintro e x2 ⟨rfl, hb2⟩
    have HS2 := Lib.hid (HS1.out.step hb2)
    clear hb2 HS1 KN1 d1
    generalize Tok.isName cc.parent = b2 at *
    cases b2 with
    | false =>
      have hR : R = false := HRF.out (by rw [HCO.out]; rfl)
      subst hR
      clear HRF HRT HCO
      go_wp2_with fail
      go_ret
      exact ⟨rfl, HS2.out.below⟩
    | true =>
    have d2 := HS2.out.c.at 2 (.row 0 1 (.slice fa NF fc) []) rfl
    have d3 := HS2.out.c.at 3 (.row 0 5 (.slice ma NM mc) []) rfl
    simp only [val] at d2 d3
    by_cases hf4 : (NF : Int) ≤ 4
    case neg =>
      have hR : R = false := HRF.out (by rw [HCO.out, decide_eq_false (by omega)]; rfl)
      subst hR
      clear HRF HRT HCO
      go_wp2_with fail
      go_ret
      exact ⟨rfl, HS2.out.below⟩
    by_cases hm12 : (NM : Int) ≤ 12
    case neg =>
      have hR : R = false := HRF.out (by rw [HCO.out, decide_eq_false (show ¬ NM ≤ 12 by omega)]; simp)
      subst hR
      clear HRF HRT HCO
      go_wp2_with fail
      go_ret
      exact ⟨rfl, HS2.out.below⟩
    have HCQ : Hid (Q = (cc.fields.all Tok.isName && cc.methods.all methodOk)) := Lib.hid (by rw [HCO.out, decide_eq_true (show NF ≤ 4 by omega), decide_eq_true (show NM ≤ 12 by omega)]; simp)
    clear HCO
    go_wp2_with fail
    clear d2 d3
    go_loopw [5] (fun j wq => ∃ k : Nat, k ≤ NF ∧ j = .int .i64 k ∧ (cc.fields.take k).all Tok.isName = true ∧ St w [.row 0 4 (.slice (some ⟨b, o, none⟩) N c0) [], .str m.sel, .bool false, .row 0 1 (.slice pa 0 pc) [], .row 0 1 v3 [], .row 0 5 v4 []] gc [.str cc.name, .str cc.parent, .row 0 1 (.slice fa NF fc) [], .row 0 5 (.slice ma NM mc) []] wq) (fun j _ => NF - (intOf j).toNat)
    case atStart => exact ⟨0, Nat.zero_le _, rfl, rfl, HS2.out⟩
    case round =>
      clear HS2
      obtain ⟨k, hk, rfl, hka, hst⟩ := hrel
      have HKA := Lib.hid hka
      have HS3 := Lib.hid hst
      have d2 := hst.c.at 2 (.row 0 1 (.slice fa NF fc) []) rfl
      simp only [val] at d2
      clear hka hst
      by_cases hkl : k < NF
      case pos =>
        have hkl2 : k < cc.fields.length := by rw [HNF.out]; exact hkl
        obtain ⟨b2, o2, hfa, hfc, hfs⟩ := HF.out k _ (List.getElem?_eq_getElem hkl2)
        subst hfa
        have hfc2 := cell_keep HS3.out.below hfc
        have KNK := fun w' => Lib.hid (SpecName.isname_any cc.fields[k] w' hfs)
        have HK1 : Hid (Tok.isName cc.fields[k] = false → Q = false) := Lib.hid fun h => by rw [HCQ.out, all_no _ _ _ hkl2 h]; rfl
        have HK2 : Hid (Tok.isName cc.fields[k] = true → (cc.fields.take (k + 1)).all Tok.isName = true) := Lib.hid fun h => all_take _ _ _ hkl2 HKA.out h
        clear hfc hfs HKA
        generalize cc.fields[k] = fk at *
        go_wp2_with fail
        refine (KNK _).out.mono ?_
        rintro e x4 ⟨rfl, hb4⟩
        have HS4 := Lib.hid (HS3.out.step hb4)
        clear hb4 HS3 KNK d2 hfc2
        generalize Tok.isName fk = b4 at *
        cases b4 with
        | false =>
          have hR : R = false := HRF.out (HK1.out rfl)
          subst hR
          clear HRF HRT HK1 HK2 HCQ
          go_wp2_with fail
          go_ret
          exact ⟨rfl, HS4.out.below⟩
        | true =>
          go_wp2_with fail
          go_roundw
          case rel => exact ⟨k + 1, by omega, by go_num, HK2.out trivial, HS4.out⟩
          case measure => simp [intOf]; omega
      case neg =>
        have hkN : k = NF := by omega
        have HQ2 : Hid (Q = cc.methods.all methodOk) := Lib.hid (by
          have h := HKA.out
          rw [hkN, ← HNF.out, List.take_length] at h
          rw [HCQ.out, h, Bool.true_and])
        clear hkN HCQ HKA
        go_wp2_with fail
        clear d2
        go_loopw [6] (fun j wq => ∃ q : Nat, q ≤ NM ∧ j = .int .i64 q ∧ (cc.methods.take q).all methodOk = true ∧ St w [.row 0 4 (.slice (some ⟨b, o, none⟩) N c0) [], .str m.sel, .bool false, .row 0 1 (.slice pa 0 pc) [], .row 0 1 v3 [], .row 0 5 v4 []] gc [.str cc.name, .str cc.parent, .row 0 1 (.slice fa NF fc) [], .row 0 5 (.slice ma NM mc) []] wq) (fun j _ => NM - (intOf j).toNat)
        case atStart => exact ⟨0, Nat.zero_le _, rfl, rfl, HS3.out⟩
        case round =>
          clear HS3
          obtain ⟨q, hq, rfl, hqa, hst⟩ := hrel
          have HQA := Lib.hid hqa
          have HS5 := Lib.hid hst
          have d3 := hst.c.at 3 (.row 0 5 (.slice ma NM mc) []) rfl
          simp only [val] at d3
          clear hqa hst
          by_cases hql : q < NM
          case pos =>
            have hql2 : q < cc.methods.length := by rw [HNM.out]; exact hql
            obtain ⟨b3, o3, y2, y3, y4, hma, hmc3, hmk⟩ := HMM.out q _ (List.getElem?_eq_getElem hql2)
            subst hma
            obtain ⟨z0, z1, z2, z3, z4⟩ := hmc3 _ HS5.out.below
            have KMQ := Lib.hid (hmk _ HS5.out.below).out
            have HK1 : Hid (methodOk cc.methods[q] = false → Q = false) := Lib.hid fun h => by rw [HQ2.out, all_no _ _ _ hql2 h]
            have HK2 : Hid (methodOk cc.methods[q] = true → (cc.methods.take (q + 1)).all methodOk = true) := Lib.hid fun h => all_take _ _ _ hql2 HQA.out h
            clear hmc3 hmk HQA
            generalize cc.methods[q] = mk at *
            go_wp2_with fail
            refine KMQ.out.mono ?_
            rintro e x6 ⟨rfl, hb6⟩
            have HS6 := Lib.hid (HS5.out.step hb6)
            clear hb6 HS5 KMQ d3 z0 z1 z2 z3 z4
            generalize methodOk mk = b6 at *
            cases b6 with
            | false =>
              have hR : R = false := HRF.out (HK1.out rfl)
              subst hR
              clear HRF HRT HK1 HK2 HQ2
              go_wp2_with fail
              go_ret
              exact ⟨rfl, HS6.out.below⟩
            | true =>
              go_wp2_with fail
              go_roundw
              case rel => exact ⟨q + 1, by omega, by go_num, HK2.out trivial, HS6.out⟩
              case measure => simp [intOf]; omega
          case neg =>
            have hqN : q = NM := by omega
            have hQ : Q = true := by
              have h := HQA.out
              rw [hqN, ← HNM.out, List.take_length] at h
              rw [HQ2.out, h]
            have HNX := Lib.hid (HRT.out hQ)
            clear hqN HQ2 HQA hQ
            go_wp2_with fail
            go_roundw
            case rel => exact ⟨i + 1, by omega, by go_num, HNX.out, HS5.out.below, HS5.out.u⟩
            case measure => simp [intOf]; omega
theorem is_unit {lo : Nat} {w : World} {u : U} {ds : List D} (he : erases ds = plainU u) (hh : Holdss lo w ds) (hs : Stricts ds) (hw : Data.weights (erases ds) ≤ 1048576) :
    Calls Tryz.prog 5 #[agg ds] w fun r w' => r = .returned (.bool (unitOk u)) ∧ Below w.heap.size w w' := is_unit2 he hh (Stricts.semis hs) hw
end Go.Proofs.YtdohpppkdecbdaaGreatDoor.Data
