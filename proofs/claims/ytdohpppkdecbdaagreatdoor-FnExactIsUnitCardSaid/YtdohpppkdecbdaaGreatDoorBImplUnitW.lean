/-
  impl's check of a unit; IsUnit.
-/
import Derived.Test.YtdohpppkdecbdaaGreatDoorBImplUnit
namespace Go.Proofs.YtdohpppkdecbdaaGreatDoor.ImplMeth
open Go.RowKit Go.Sort
open Strs Tree Soft TreeTo Go.Proofs.YtdohpppkdecbdaaGreatDoor.Data Errs
open ImplTok (Part)
theorem unitOk_is (u : U) : unitOk u = (decide (u.classes.length ≤ 8) && u.classes.all classOk && mainOk u.main) := by
  unfold unitOk mainOk
  cases decide (u.classes.length ≤ 8) <;> cases decide (u.main.sel = mainText) <;> cases u.main.cls <;> cases decide (u.main.params.length = 0) <;> cases isExpr (bodyE u.main) <;> cases u.classes.all classOk <;> rfl
theorem meth_own {w : World} {m : M} {ds : List D} (hd : erases ds = plainM m) (ho : Own 0 w ds) : ∃ v2 v3 v4, ds.map val = [.string m.sel, .bool m.cls, v2, v3, v4] ∧ MSt w m v2 v3 v4 := by
  obtain ⟨v2, v3, v4, hag, hm⟩ := meth_at hd ho.holds ho.strict
  obtain ⟨t2, t3, t4, w2, w3, w4, d4, rfl, h4⟩ := meth_form hd
  have hsoft : SoftKids 0 w m.body w4 := softkids_of h4 (row_iff.1 (Own.right (a := [.str m.sel, .bool m.cls, .row t2 1 w2 (strs m.params), .row t3 1 w3 (strs m.temps)]) (b := [.row t4 5 w4 d4]) ho))
  have hvv : v2 = w2 ∧ v3 = w3 ∧ v4 = w4 := by
    have := congrArg Array.toList (Value.agg.inj hag)
    simp [vals, val] at this
    exact ⟨this.1.symm, this.2.1.symm, this.2.2.symm⟩
  obtain ⟨rfl, rfl, rfl⟩ := hvv
  exact ⟨v2, v3, v4, rfl, hm, hsoft⟩
theorem row_cells {w : World} {t k : Nat} {a : Option Addr} {n c : Nat} {ds A x B : List D} {i : Nat} (h : Row 0 w t k (.slice a n c) ds) (hd : ds = A ++ (x ++ B)) (hal : A.length = i * k) (hx : 0 < x.length) :
    ∃ b o, a = some ⟨b, o, none⟩ ∧ ∀ j (hj : j < x.length), w.cell? ⟨b, o + i * k + j, none⟩ = some (val x[j]) := by
  have hh := (row_iff.2 h).holds
  simp only [Holdss, and_true] at hh
  rw [Go.Proofs.YtdohpppkdecbdaaGreatDoor.Data.Holds] at hh
  obtain ⟨⟨a', n', c', e, hk, hl, hn, hc, hcell⟩, -⟩ := hh
  cases e
  have hpos : 0 < n := by
    rcases Nat.eq_zero_or_pos n with h0 | h0
    · rw [h0, Nat.zero_mul] at hl
      rw [hd] at hl
      simp at hl
      rw [hl.2.1] at hx
      simp at hx
    · exact h0
  obtain ⟨b, o, rfl, -, hcc⟩ := hcell hpos
  refine ⟨b, o, rfl, fun j hj => ?_⟩
  have hjl : i * k + j < ds.length := by rw [hd, List.length_append, List.length_append, hal]; omega
  rw [Nat.add_assoc, hcc _ hjl]
  congr 2
  subst hd
  rw [List.getElem_append_right (by omega), List.getElem_append_left (by omega)]
  congr 1
  omega
theorem own_mid {w : World} {A x B : List D} (h : Own 0 w (A ++ (x ++ B))) : Own 0 w x := h.right.left
theorem class_own {w : World} {c : C} {ds : List D} (hd : erases ds = plainC c) (ho : Own 0 w ds) (hw : Data.weights (plainC c) ≤ 1048576) : ∃ v2 ma mc, ds.map val = [.string c.name, .string c.parent, v2, .slice ma c.methods.length mc] ∧ CSt w c v2 ma mc := by
  obtain ⟨t2, t3, f2, f3, dm, rfl, hm3⟩ := class_form hd
  rw [plainC_weight] at hw
  have hr3 : Row 0 w t3 5 f3 dm := row_iff.1 (Own.right (a := [.str c.name, .str c.parent, .row t2 1 f2 (strs c.fields)]) (b := [.row t3 5 f3 dm]) ho)
  have hhs := ho.holds
  simp only [Holdss, and_true] at hhs
  obtain ⟨g0, g1, g2, g3⟩ := hhs
  rw [Go.Proofs.YtdohpppkdecbdaaGreatDoor.Data.Holds] at g3
  obtain ⟨⟨ma, mn, mc, rfl, -, hml, hmn, hmc, hmcell⟩, hmh⟩ := g3
  have hmlen := congrArg List.length hm3
  rw [erases_len, plainMs_len] at hmlen
  obtain rfl : mn = c.methods.length := by omega
  refine ⟨f2, ma, mc, rfl, strs_texts g2, ⟨hmn, hmc⟩, fun k m hk => ?_⟩
  obtain ⟨h, rfl⟩ := List.getElem?_eq_some_iff.1 hk
  obtain ⟨A, x, B, hdx, hal, hx⟩ := meths_at c.methods dm hm3 k h
  have hxl : x.length = 5 := by
    have := congrArg List.length hx
    rw [erases_len, plainM_len] at this
    exact this
  obtain ⟨b, o, e, hc⟩ := row_cells hr3 hdx hal (by omega)
  have hxo : Own 0 w x := own_mid (hdx ▸ hr3.kids)
  obtain ⟨v2, v3, v4, hxv, hst⟩ := meth_own hx hxo
  have hval : ∀ j v (hj : j < x.length), [Value.string c.methods[k].sel, .bool c.methods[k].cls, v2, v3, v4][j]? = some v → val x[j] = v := fun j v hj e => by
    rw [← hxv] at e
    simpa [hj] using e
  have hwm := plainMs_weight c.methods k h
  rw [plainM_weight] at hwm
  refine ⟨b, o, v2, v3, v4, e, ⟨?_, ?_, ?_, ?_, ?_⟩, hst, by omega⟩
  · have := hc 0 (by omega); rw [hval 0 _ (by omega) rfl] at this; exact this
  · have := hc 1 (by omega); rw [hval 1 _ (by omega) rfl] at this; exact this
  · have := hc 2 (by omega); rw [hval 2 _ (by omega) rfl] at this; exact this
  · have := hc 3 (by omega); rw [hval 3 _ (by omega) rfl] at this; exact this
  · have := hc 4 (by omega); rw [hval 4 _ (by omega) rfl] at this; exact this
theorem unit_own {w : World} {u : U} {ds : List D} (hd : erases ds = plainU u) (ho : Own 0 w ds) (hw : Data.weights (plainU u) ≤ 1048576) :
    ∃ ca cc v2 v3 v4, ds.map val = [.slice ca u.classes.length cc, .string u.main.sel, .bool u.main.cls, v2, v3, v4] ∧ MSt w u.main v2 v3 v4 ∧ u.main.sel.size + Tree.weight (bodyE u.main) ≤ 1048576 ∧ (u.classes.length ≤ cc ∧ cc ≤ maxLen) ∧
      ∀ k c, u.classes[k]? = some c → ∃ b o v2 ma mc, ca = some ⟨b, o, none⟩ ∧ CCell w b (o + k * 4) c v2 ma mc ∧ CSt w c v2 ma mc := by
  obtain ⟨t0, v0, d0, ms, rfl, h0, h1⟩ := unit_form hd
  rw [plainU_weight, plainM_weight] at hw
  have hr0 : Row 0 w t0 4 v0 d0 := row_iff.1 (Own.left (a := [.row t0 4 v0 d0]) (b := ms) ho)
  have hms : Own 0 w ms := Own.right (a := [.row t0 4 v0 d0]) (b := ms) ho
  obtain ⟨v2, v3, v4, hmv, hst⟩ := meth_own h1 hms
  have hhs := (row_iff.2 hr0).holds
  simp only [Holdss, and_true] at hhs
  rw [Go.Proofs.YtdohpppkdecbdaaGreatDoor.Data.Holds] at hhs
  obtain ⟨⟨ca, cn, cc, rfl, -, hcl, hcn, hcc, hccell⟩, -⟩ := hhs
  have hclen := congrArg List.length h0
  rw [erases_len, plainCs_len] at hclen
  obtain rfl : cn = u.classes.length := by omega
  refine ⟨ca, cc, v2, v3, v4, by rw [List.map_cons, hmv]; rfl, hst, by omega, ⟨hcn, hcc⟩, fun k c hk => ?_⟩
  obtain ⟨h, rfl⟩ := List.getElem?_eq_some_iff.1 hk
  obtain ⟨A, x, B, hdx, hal, hx⟩ := classes_at u.classes d0 h0 k h
  have hxl : x.length = 4 := by
    have := congrArg List.length hx
    rw [erases_len, plainC_len] at this
    exact this
  obtain ⟨b, o, e, hc⟩ := row_cells hr0 hdx hal (by omega)
  have hxo : Own 0 w x := own_mid (hdx ▸ hr0.kids)
  have hwc := plainCs_weight u.classes k h
  obtain ⟨v2, ma, mc, hxv, hcs⟩ := class_own hx hxo (by omega)
  have hval : ∀ j v (hj : j < x.length), [Value.string u.classes[k].name, .string u.classes[k].parent, v2, .slice ma u.classes[k].methods.length mc][j]? = some v → val x[j] = v := fun j v hj e => by
    rw [← hxv] at e
    simpa [hj] using e
  refine ⟨b, o, v2, ma, mc, e, ⟨?_, ?_, ?_, ?_⟩, hcs⟩
  · have := hc 0 (by omega); rw [hval 0 _ (by omega) rfl] at this; exact this
  · have := hc 1 (by omega); rw [hval 1 _ (by omega) rfl] at this; exact this
  · have := hc 2 (by omega); rw [hval 2 _ (by omega) rfl] at this; exact this
  · have := hc 3 (by omega); rw [hval 3 _ (by omega) rfl] at this; exact this
structure UCell (w : World) (b : Nat) (u : U) (ca : Option Addr) (cc : Nat) (v2 v3 v4 : Value) : Prop where
  c0 : w.cell? ⟨b, 0, none⟩ = some (.slice ca u.classes.length cc)
  m : MCell w b 1 u.main v2 v3 v4
theorem UCell.step {w w' : World} {b : Nat} {u : U} {ca : Option Addr} {cc : Nat} {v2 v3 v4 : Value} (h : UCell w b u ca cc v2 v3 v4) (hb : Below w.heap.size w w') : UCell w' b u ca cc v2 v3 v4 := ⟨cell_keep hb h.c0, h.m.step hb⟩
set_option maxRecDepth 10000 in
set_option maxHeartbeats 8000000 in
theorem unit_check {w : World} {u : U} {ca : Option Addr} {cc ub : Nat} {v2 v3 v4 : Value} {a : Addr} (h : UCell w ub u ca cc v2 v3 v4) (hm : MSt w u.main v2 v3 v4) (hw : u.main.sel.size + Tree.weight (bodyE u.main) ≤ 1048576) (hcc : u.classes.length ≤ cc ∧ cc ≤ maxLen)
    (hcs : ∀ k c, u.classes[k]? = some c → ∃ b o v2 ma mc, ca = some ⟨b, o, none⟩ ∧ CCell w b (o + k * 4) c v2 ma mc ∧ CSt w c v2 ma mc) (he : Err w a) :
    Calls Tryz.prog 18 #[.pointer (some ⟨ub, 0, none⟩)] w fun r w' => r = .returned (errV (unitOk u) a) ∧ Below w.heap.size w w' := by
  have KM := fun w' (hb : Below w.heap.size w w') => Lib.hid (main_check (hm.below hb) (h.m.step hb) hw (he.keep hb))
  have HV : Hid (unitOk u = (decide (u.classes.length ≤ 8) && u.classes.all classOk && mainOk u.main)) := Lib.hid (unitOk_is u)
  have HK := Lib.hid h
  have HER := Lib.hid he
  have HM : Hid (∀ q c, u.classes[q]? = some c → ∃ b o, ca = some ⟨b, o, none⟩ ∧ ∀ w', Below w.heap.size w w' → Hid (Calls Tryz.prog 37 #[.pointer (some ⟨b, o + q * 4, none⟩)] w' fun r w'' => r = .returned (errV (classOk c) a) ∧ Below w'.heap.size w' w'')) := Lib.hid fun q c hq => by
    obtain ⟨b', o', x2, ma, mc, e, h1, h2⟩ := hcs q c hq
    exact ⟨b', o', e, fun w' hb => Lib.hid (class_check (h2.below hb) (h1.step hb) (he.keep hb))⟩
  have hcc2 := hcc
  unfold maxLen at hcc2
  have c0 := h.c0
  have g0 := he.2
  clear h he hm hw hcs
  generalize unitOk u = R at *
  generalize hN : u.classes.length = N at *
  have HN := Lib.hid hN
  clear hN
  by_cases hn8 : (N : Int) ≤ 8
  case neg =>
    have hR : R = false := by rw [HV.out, decide_eq_false (by omega)]; rfl
    subst hR
    clear HV HM KM
    go_enter Tryz.func18, Tryz.ntmps18
    go_wp2_with fail
    go_ret
    exact ⟨rfl, Below.refl _ _⟩
  have HVA : Hid (R = (u.classes.all classOk && mainOk u.main)) := Lib.hid (by rw [HV.out, decide_eq_true (show N ≤ 8 by omega), Bool.true_and])
  clear HV
  go_enter Tryz.func18, Tryz.ntmps18
  go_wp2_with fail
  go_loopw [17] (fun j wr => ∃ i : Nat, i ≤ N ∧ j = .int .i64 i ∧ (u.classes.take i).all classOk = true ∧ Below w.heap.size w wr) (fun j _ => N - (intOf j).toNat)
  case atStart => exact ⟨0, Nat.zero_le _, rfl, rfl, Below.refl _ _⟩
  case round =>
    clear c0 g0
    obtain ⟨i, hi, rfl, hall, hbw⟩ := hrel
    have HALL := Lib.hid hall
    have HBW := Lib.hid hbw
    have g4 := (HER.out.keep hbw).2
    have c0 := (HK.out.step hbw).c0
    rw [HN.out] at c0
    clear hall hbw
    by_cases hlt : i < N
    case neg =>
      have hiN : i = N := by omega
      have HR : Hid (R = mainOk u.main) := Lib.hid (by
        rw [HVA.out]
        have := HALL.out
        rw [hiN, ← HN.out, List.take_length] at this
        rw [this, Bool.true_and])
      have KM2 := KM wr HBW.out
      clear hiN HVA KM HM
      generalize mainOk u.main = X at *
      have hR := HR.out
      subst hR
      clear HR
      go_wp2_with fail
      refine KM2.out.mono ?_
      rintro e w6 ⟨rfl, hb6⟩
      have HB6 := Lib.hid (HBW.out.trans (hb6.mono HBW.out.size))
      clear hb6 KM2
      go_wp2_with fail
      go_ret
      exact ⟨rfl, HB6.out⟩
    have hil : i < u.classes.length := by rw [HN.out]; exact hlt
    obtain ⟨b', o', hma, hmk⟩ := HM.out i _ (List.getElem?_eq_getElem hil)
    subst hma
    have KC := hmk wr HBW.out
    have HRF : Hid (classOk u.classes[i] = false → R = false) := Lib.hid fun h => by rw [HVA.out, all_no _ _ _ hil h]; rfl
    have HRT : Hid (classOk u.classes[i] = true → (u.classes.take (i + 1)).all classOk = true) := Lib.hid fun h => all_take _ _ _ hil HALL.out h
    clear hmk HALL HM KM
    generalize classOk u.classes[i] = b5 at *
    cases b5 with
    | false =>
      have hR : R = false := HRF.out rfl
      subst hR
      clear HRF HRT HVA
      go_wp2_with fail
      refine KC.out.mono ?_
      rintro e w6 ⟨rfl, hb6⟩
      have HB6 := Lib.hid (HBW.out.trans (hb6.mono HBW.out.size))
      clear hb6 KC
      unfold errV
      go_wp2_with fail
      go_ret
      exact ⟨rfl, HB6.out⟩
    | true =>
      go_wp2_with fail
      refine KC.out.mono ?_
      rintro e w6 ⟨rfl, hb6⟩
      have HB6 := Lib.hid (HBW.out.trans (hb6.mono HBW.out.size))
      clear hb6 KC
      unfold errV
      go_wp2_with fail
      go_roundw
      case rel => exact ⟨i + 1, by omega, by go_num, HRT.out trivial, HB6.out⟩
      case measure => simp [intOf]; omega
set_option maxRecDepth 10000 in
set_option maxHeartbeats 8000000 in
theorem is_unit {w : World} {u : U} {ds : List D} {a : Addr} (hd : erases ds = plainU u) (ho : Own 0 w ds) (hw : Data.weights (erases ds) ≤ 1048576) (he : Err w a) :
    Calls Tryz.prog 7 #[agg ds] w fun r w' => r = .returned (.bool (unitOk u)) ∧ Below w.heap.size w w' := by
  rw [hd] at hw
  obtain ⟨ca, cc, v2, v3, v4, hv, hm, hwm, hcc, hcs⟩ := unit_own hd ho hw
  have hag : agg ds = .agg #[.slice ca u.classes.length cc, .string u.main.sel, .bool u.main.cls, v2, v3, v4] := by
    show Value.agg (vals ds).toArray = _
    unfold vals
    rw [hv]
  rw [hag]
  have hb0 : Below w.heap.size w (w.alloc (.cells #[.slice ca u.classes.length cc, .string u.main.sel, .bool u.main.cls, v2, v3, v4] 36)) := (Below.refl _ _).alloc (Nat.le_refl _) _
  have hz := cells_new w [.row 0 4 (.slice ca u.classes.length cc) [], .str u.main.sel, .bool u.main.cls, .row 0 1 v2 [], .row 0 1 v3 [], .row 0 5 v4 []] 36
  have z0 := hz.at 0 (.row 0 4 (.slice ca u.classes.length cc) []) rfl
  have z1 := hz.at 1 (.str u.main.sel) rfl
  have z2 := hz.at 2 (.bool u.main.cls) rfl
  have z3 := hz.at 3 (.row 0 1 v2 []) rfl
  have z4 := hz.at 4 (.row 0 1 v3 []) rfl
  have z5 := hz.at 5 (.row 0 5 v4 []) rfl
  have hc : UCell (w.alloc (.cells #[.slice ca u.classes.length cc, .string u.main.sel, .bool u.main.cls, v2, v3, v4] 36)) w.heap.size u ca cc v2 v3 v4 := ⟨z0, z1, z2, z3, z4, z5⟩
  have hcs2 : ∀ w', Below w.heap.size w w' → ∀ k c, u.classes[k]? = some c → ∃ b o v2 ma mc, ca = some ⟨b, o, none⟩ ∧ CCell w' b (o + k * 4) c v2 ma mc ∧ CSt w' c v2 ma mc := fun w' hb k c hk => by
    obtain ⟨b', o', x2, ma, mc, e, h1, h2⟩ := hcs k c hk
    exact ⟨b', o', x2, ma, mc, e, h1.step hb, h2.below hb⟩
  have KC := fun d os => Lib.hid (Calls.regrown_of (w := w.alloc (.cells #[.slice ca u.classes.length cc, .string u.main.sel, .bool u.main.cls, v2, v3, v4] 36)) (d := d) (os := os) (unit_check (hc.step (below_regrown _ d os)) ((hm.below hb0).below (below_regrown _ d os)) hwm hcc (hcs2 _ (hb0.trans ((below_regrown _ d os).mono hb0.size))) ((he.keep hb0).keep (below_regrown _ d os))))
  have KI := fun d os => Lib.hid (Calls.regrown_of (w := w.alloc (.cells #[.slice ca u.classes.length cc, .string u.main.sel, .bool u.main.cls, v2, v3, v4] 36)) (d := d) (os := os) ((is_any (unitOk u) a _).mono (fun e w' h => (⟨h.1, by rw [h.2]; exact Below.refl _ _⟩ : e = .returned (.bool (!unitOk u)) ∧ Below _ _ w'))))
  have ke := err_regrown (he.keep hb0)
  have HB0 := Lib.hid hb0
  clear hd ho hw he hag hm hwm hcs hcs2 hcc hb0 hz z0 z1 z2 z3 z4 z5 hc hv
  generalize unitOk u = R at *
  generalize u.classes.length = N at *
  go_enter Tryz.func7, Tryz.ntmps7
  go_wp2_with fail
  refine wp_region_quiet_below (by kernel_rfl) (by kernel_rfl) ?_
  repeat (go_big_quiet_step (first | (go_at_call 18; exact (KC _ _).out) | (go_at_call 17; exact (KI _ _).out)))
  refine wpQuiet_nil ?_
  intro w5 hw5
  have HB5 := Lib.hid (HB0.out.trans ((regrown_low hw5).mono HB0.out.size))
  clear hw5 KC KI ke
  go_wp2_with fail
  go_ret
  exact ⟨by simp, HB5.out⟩
end Go.Proofs.YtdohpppkdecbdaaGreatDoor.ImplMeth
