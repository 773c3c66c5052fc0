/-
  impl.EqualUnits: classes, rows of classes, units.
-/
import Derived.Test.YtlmhgeanknhcfaaImplEqFn
namespace Go.Proofs.Ytlmhgeanknhcfaa.ImplMeth
open Go.RowKit Go.Sort
open Strs Tree Soft TreeTo Go.Proofs.Ytlmhgeanknhcfaa.Data

/-- What a class's cells lead to. -/
structure CS (w : World) (c : C) (v2 : Value) (ma : Option Addr) (mc : Nat) : Prop where
  fields : Texts 0 w c.fields v2
  room : c.methods.length ≤ mc ∧ mc ≤ maxLen
  meths : RowM w c.methods ma
theorem CS.below {w w' : World} {c : C} {v2 : Value} {ma : Option Addr} {mc : Nat} (h : CS w c v2 ma mc) (hb : Below w.heap.size w w') : CS w' c v2 ma mc := ⟨h.fields.below hb, h.room, h.meths.below hb⟩

set_option maxRecDepth 10000 in
set_option maxHeartbeats 8000000 in
theorem equal_class {w : World} {c d : C} {v2 u2 : Value} {ma na : Option Addr} {mc nc : Nat} (h : CS w c v2 ma mc) (k : CS w d u2 na nc) :
    Calls Try.prog 29 #[.agg #[.string c.name, .string c.parent, v2, .slice ma c.methods.length mc], .agg #[.string d.name, .string d.parent, u2, .slice na d.methods.length nc]] w fun r w' => r = .returned (.bool (eqC c d)) ∧ Below w.heap.size w w' := by
  obtain ⟨fa, fc, hf2, -⟩ := id h.fields
  obtain ⟨ga, gc, hg2, -⟩ := id k.fields
  subst hf2 hg2
  have hb0 : Below w.heap.size w ((w.alloc (.cells #[.string c.name, .string c.parent, .slice fa c.fields.length fc, .slice ma c.methods.length mc] 57)).alloc (.cells #[.string d.name, .string d.parent, .slice ga d.fields.length gc, .slice na d.methods.length nc] 57)) := ((Below.refl _ _).alloc (Nat.le_refl _) _).alloc (by simp) _
  have hx : Cells w.heap.size [.str c.name, .str c.parent, .row 0 1 (.slice fa c.fields.length fc) [], .row 0 5 (.slice ma c.methods.length mc) []] ((w.alloc (.cells #[.string c.name, .string c.parent, .slice fa c.fields.length fc, .slice ma c.methods.length mc] 57)).alloc (.cells #[.string d.name, .string d.parent, .slice ga d.fields.length gc, .slice na d.methods.length nc] 57)) := (cells_new w [.str c.name, .str c.parent, .row 0 1 (.slice fa c.fields.length fc) [], .row 0 5 (.slice ma c.methods.length mc) []] _).step ((Below.refl _ _).alloc (Nat.le_refl _) _)
  have hy : Cells (w.heap.size + 1) [.str d.name, .str d.parent, .row 0 1 (.slice ga d.fields.length gc) [], .row 0 5 (.slice na d.methods.length nc) []] ((w.alloc (.cells #[.string c.name, .string c.parent, .slice fa c.fields.length fc, .slice ma c.methods.length mc] 57)).alloc (.cells #[.string d.name, .string d.parent, .slice ga d.fields.length gc, .slice na d.methods.length nc] 57)) := by
    have h := cells_new (w.alloc (.cells #[.string c.name, .string c.parent, .slice fa c.fields.length fc, .slice ma c.methods.length mc] 57)) [.str d.name, .str d.parent, .row 0 1 (.slice ga d.fields.length gc) [], .row 0 5 (.slice na d.methods.length nc) []] 57
    rw [show (w.alloc (.cells #[.string c.name, .string c.parent, .slice fa c.fields.length fc, .slice ma c.methods.length mc] 57)).heap.size = w.heap.size + 1 by simp] at h
    exact h
  have p0 := hx.at 0 (.str c.name) rfl
  have p1 := hx.at 1 (.str c.parent) rfl
  have p2 := hx.at 2 (.row 0 1 (.slice fa c.fields.length fc) []) rfl
  have p3 := hx.at 3 (.row 0 5 (.slice ma c.methods.length mc) []) rfl
  have q0 := hy.at 0 (.str d.name) rfl
  have q1 := hy.at 1 (.str d.parent) rfl
  have q2 := hy.at 2 (.row 0 1 (.slice ga d.fields.length gc) []) rfl
  have q3 := hy.at 3 (.row 0 5 (.slice na d.methods.length nc) []) rfl
  simp only [val] at p0 p1 p2 p3 q0 q1 q2 q3
  have KT := Lib.hid (ImplLike.texts_any (h.fields.below hb0) (k.fields.below hb0))
  have KF := fun w' (hb : Below w.heap.size w w') => Lib.hid (eqfunc_meths (h.meths.below hb) (k.meths.below hb) (xc := mc) (yc := nc) h.room)
  have HV : Hid (eqC c d = (decide (c.name = d.name) && decide (c.parent = d.parent) && decide (c.fields = d.fields) && decide (c.methods.length = d.methods.length) && eqMs c.methods d.methods)) := Lib.hid rfl
  have HB0 := Lib.hid hb0
  have HX := Lib.hid hx
  have HY := Lib.hid hy
  generalize eqC c d = R at *
  clear h k hx hy hb0
  by_cases hnm : c.name = d.name
  case neg =>
    have hse : (c.name.toList == d.name.toList) = false := SpecEqual.beq_no hnm
    have hR : R = false := by rw [HV.out, decide_eq_false hnm]; rfl
    subst hR
    clear HV hnm KT KF
    go_enter Try.func29, Try.ntmps29
    go_wp2_with fail
    go_ret
    exact ⟨rfl, HB0.out⟩
  have hse : (c.name.toList == d.name.toList) = true := by rw [hnm]; exact BEq.rfl
  rw [decide_eq_true hnm, Bool.true_and] at HV
  clear hnm
  by_cases hpa : c.parent = d.parent
  case neg =>
    have hpe : (c.parent.toList == d.parent.toList) = false := SpecEqual.beq_no hpa
    have hR : R = false := by rw [HV.out, decide_eq_false hpa]; rfl
    subst hR
    clear HV hpa KT KF
    go_enter Try.func29, Try.ntmps29
    go_wp2_with fail
    go_ret
    exact ⟨rfl, HB0.out⟩
  have hpe : (c.parent.toList == d.parent.toList) = true := by rw [hpa]; exact BEq.rfl
  rw [decide_eq_true hpa, Bool.true_and, Bool.and_assoc] at HV
  clear hpa
  generalize decide (c.fields = d.fields) = FE at *
  generalize (decide (c.methods.length = d.methods.length) && eqMs c.methods d.methods) = ME at *
  go_enter Try.func29, Try.ntmps29
  go_wp2_with fail
  refine KT.out.mono ?_
  rintro e w3 ⟨rfl, hd3⟩
  have hb3 := hd3.below
  have HB3 := Lib.hid (HB0.out.trans (hb3.mono HB0.out.size))
  have m3 := (HX.out.step hb3).at 3 (.row 0 5 (.slice ma c.methods.length mc) []) rfl
  have n3 := (HY.out.step hb3).at 3 (.row 0 5 (.slice na d.methods.length nc) []) rfl
  simp only [val] at m3 n3
  have KF2 := KF w3 HB3.out
  clear hd3 hb3 KT KF p0 p1 p2 p3 q0 q1 q2 q3 HX HY hse hpe
  cases FE with
  | false =>
    have hR : R = false := by rw [HV.out]; rfl
    subst hR
    clear HV KF2
    go_wp2_with fail
    go_ret
    exact ⟨rfl, HB3.out⟩
  | true =>
  have hR : R = ME := by rw [HV.out]; simp
  subst hR
  clear HV
  go_wp2_with fail
  refine KF2.out.mono ?_
  rintro e w4 ⟨rfl, hb4⟩
  have HB4 := Lib.hid (HB3.out.trans (hb4.mono HB3.out.size))
  clear hb4 KF2
  go_wp2_with fail
  go_ret
  exact ⟨rfl, HB4.out⟩

/-- What a row of classes leads to. -/
def RowC (w : World) (xs : List C) (xa : Option Addr) : Prop := ∀ k c, xs[k]? = some c → ∃ b o v2 ma mc, xa = some ⟨b, o, none⟩ ∧ (w.cell? ⟨b, o + k * 4, none⟩ = some (.string c.name) ∧ w.cell? ⟨b, o + k * 4 + 1, none⟩ = some (.string c.parent) ∧ w.cell? ⟨b, o + k * 4 + 2, none⟩ = some v2 ∧ w.cell? ⟨b, o + k * 4 + 3, none⟩ = some (.slice ma c.methods.length mc)) ∧ CS w c v2 ma mc
theorem RowC.below {w w' : World} {xs : List C} {xa : Option Addr} (h : RowC w xs xa) (hb : Below w.heap.size w w') : RowC w' xs xa := fun k c hk => by
  obtain ⟨b, o, v2, ma, mc, e, ⟨h0, h1, h2, h3⟩, h4⟩ := h k c hk
  exact ⟨b, o, v2, ma, mc, e, ⟨cell_keep hb h0, cell_keep hb h1, cell_keep hb h2, cell_keep hb h3⟩, h4.below hb⟩

set_option maxRecDepth 10000 in
set_option maxHeartbeats 8000000 in
theorem eqfunc_classes {w : World} {xs ys : List C} {xa ya : Option Addr} {xc yc : Nat} (hx : RowC w xs xa) (hy : RowC w ys ya) (hxc : xs.length ≤ xc ∧ xc ≤ maxLen) :
    Calls Try.prog 28 #[.slice xa xs.length xc, .slice ya ys.length yc, .func (.func 29) #[] #[]] w fun r w' => r = .returned (.bool (decide (xs.length = ys.length) && eqCs xs ys)) ∧ Below w.heap.size w w' := by
  unfold maxLen at hxc
  by_cases hlen : xs.length = ys.length
  case neg =>
    rw [decide_eq_false hlen, Bool.false_and]
    have hne : ¬ (xs.length : Int) = (ys.length : Int) := by omega
    clear hx hy
    generalize xs.length = n1 at *
    generalize ys.length = n2 at *
    go_enter Try.func28, Try.ntmps28
    go_wp2_with fail
    go_ret
    exact ⟨rfl, Below.refl _ _⟩
  rw [decide_eq_true hlen, Bool.true_and, ← hlen]
  have HL := Lib.hid hlen
  have HX := Lib.hid hx
  have HY := Lib.hid hy
  have HVA : Hid (eqCs xs ys = (xs.zip ys).all fun p => eqC p.1 p.2) := Lib.hid rfl
  generalize eqCs xs ys = R at *
  clear hx hy hlen
  generalize hN : xs.length = N at *
  have HN := Lib.hid hN
  clear hN
  go_enter Try.func28, Try.ntmps28
  go_wp2_with fail
  go_loopw [17] (fun j wr => ∃ i : Nat, i ≤ N ∧ j = .int .i64 i ∧ ((xs.zip ys).take i).all (fun p => eqC p.1 p.2) = true ∧ Below w.heap.size w wr) (fun j _ => N - (intOf j).toNat)
  case atStart => exact ⟨0, Nat.zero_le _, rfl, rfl, Below.refl _ _⟩
  case round =>
    obtain ⟨i, hi, rfl, hall, hbw⟩ := hrel
    have HALL := Lib.hid hall
    have HBW := Lib.hid hbw
    clear hall hbw
    by_cases hlt : i < N
    case neg =>
      have hiN : i = N := by omega
      have hR : R = true := by
        rw [HVA.out]
        have h := HALL.out
        rw [hiN, List.take_of_length_le (by rw [List.length_zip, HN.out, ← HL.out]; omega)] at h
        exact h
      subst hR
      clear hiN HVA
      go_wp2_with fail
      go_ret
      exact ⟨rfl, HBW.out⟩
    have hil : i < xs.length := by rw [HN.out]; exact hlt
    have hjl : i < ys.length := by rw [← HL.out]; exact hlt
    obtain ⟨b1, o1, x2, ma, mc, ha1, hc1, hs1⟩ := HX.out i _ (List.getElem?_eq_getElem hil)
    obtain ⟨b2, o2, y2, na, nc, ha2, hc2, hs2⟩ := HY.out i _ (List.getElem?_eq_getElem hjl)
    subst ha1 ha2
    obtain ⟨e0, e1, e2, e3⟩ := hc1
    obtain ⟨f0, f1, f2, f3⟩ := hc2
    replace e0 := cell_keep HBW.out e0
    replace e1 := cell_keep HBW.out e1
    replace e2 := cell_keep HBW.out e2
    replace e3 := cell_keep HBW.out e3
    replace f0 := cell_keep HBW.out f0
    replace f1 := cell_keep HBW.out f1
    replace f2 := cell_keep HBW.out f2
    replace f3 := cell_keep HBW.out f3
    have hzl : i < (xs.zip ys).length := by rw [List.length_zip]; omega
    have hz : (xs.zip ys)[i] = (xs[i], ys[i]) := List.getElem_zip
    have HRF : Hid (eqC xs[i] ys[i] = false → R = false) := Lib.hid fun h => by rw [HVA.out]; exact all_no _ _ i hzl (by rw [hz]; exact h)
    have HRT : Hid (eqC xs[i] ys[i] = true → ((xs.zip ys).take (i + 1)).all (fun p => eqC p.1 p.2) = true) := Lib.hid fun h => all_take _ _ i hzl HALL.out (by rw [hz]; exact h)
    clear hzl hz HALL HX HY HVA
    generalize xs[i] = c at *
    generalize ys[i] = d at *
    clear hil hjl
    obtain ⟨fa, fc, hf2, -⟩ := id hs1.fields
    obtain ⟨ga, gc, hg2, -⟩ := id hs2.fields
    subst hf2 hg2
    have hb2 : Below w.heap.size w ((wr.alloc (.cells #[.string c.name, .string c.parent, .slice fa c.fields.length fc, .slice ma c.methods.length mc] 57)).alloc (.cells #[.string d.name, .string d.parent, .slice ga d.fields.length gc, .slice na d.methods.length nc] 57)) := (HBW.out.alloc HBW.out.size _).alloc (by simp; have := HBW.out.size; omega) _
    have KE := Lib.hid (equal_class (hs1.below hb2) (hs2.below hb2))
    have HB2 := Lib.hid hb2
    have lt1 : b1 < wr.heap.size := cell_lt e0
    have lt2 : b2 < wr.heap.size := cell_lt f0
    clear hs1 hs2 hb2
    generalize eqC c d = Q at *
    go_wp2_with fail
    refine KE.out.mono ?_
    rintro e w5 ⟨rfl, hb5⟩
    have HB5 := Lib.hid (HB2.out.trans (hb5.mono HB2.out.size))
    clear hb5 KE HB2 e0 e1 e2 e3 f0 f1 f2 f3 lt1 lt2
    cases Q with
    | false =>
      have hR : R = false := HRF.out rfl
      subst hR
      clear HRF HRT
      go_wp2_with fail
      go_ret
      exact ⟨rfl, HB5.out⟩
    | true =>
      go_wp2_with fail
      go_roundw
      case rel => exact ⟨i + 1, by omega, by go_num, HRT.out (by trivial), HB5.out⟩
      case measure => simp [intOf]; omega

theorem eqU_is (u v : U) : eqU u v = (eqM u.main v.main && (decide (u.classes.length = v.classes.length) && eqCs u.classes v.classes)) := by
  unfold eqU
  cases decide (u.classes.length = v.classes.length) <;> cases eqM u.main v.main <;> rfl
set_option maxRecDepth 10000 in
set_option maxHeartbeats 8000000 in
theorem equal_units {w : World} {u v : U} {x2 x3 x4 y2 y3 y4 : Value} {ca da : Option Addr} {cc dc : Nat} (hm : MSt w u.main x2 x3 x4) (km : MSt w v.main y2 y3 y4) (hw : u.main.sel.size + Tree.weight (bodyE u.main) ≤ 1048576) (kw : v.main.sel.size + Tree.weight (bodyE v.main) ≤ 1048576) (hc : RowC w u.classes ca) (kc' : RowC w v.classes da) (hr : u.classes.length ≤ cc ∧ cc ≤ maxLen) :
    Calls Try.prog 13 #[.agg #[.slice ca u.classes.length cc, .string u.main.sel, .bool u.main.cls, x2, x3, x4], .agg #[.slice da v.classes.length dc, .string v.main.sel, .bool v.main.cls, y2, y3, y4]] w fun r w' => r = .returned (.bool (eqU u v)) ∧ Below w.heap.size w w' := by
  obtain ⟨pa, pc, hp2, -⟩ := id hm.at_.params
  obtain ⟨ta, tc, ht2, -⟩ := id hm.at_.temps
  obtain ⟨ka, kc, hk2, -⟩ := id hm.at_.body
  obtain ⟨qa, qc, hq2, -⟩ := id km.at_.params
  obtain ⟨ua, uc, hu2, -⟩ := id km.at_.temps
  obtain ⟨la, lc, hl2, -⟩ := id km.at_.body
  subst hp2 ht2 hk2 hq2 hu2 hl2
  have hb0 : Below w.heap.size w ((w.alloc (.cells #[.slice ca u.classes.length cc, .string u.main.sel, .bool u.main.cls, .slice pa u.main.params.length pc, .slice ta u.main.temps.length tc, .slice ka u.main.body.length kc] 40)).alloc (.cells #[.slice da v.classes.length dc, .string v.main.sel, .bool v.main.cls, .slice qa v.main.params.length qc, .slice ua v.main.temps.length uc, .slice la v.main.body.length lc] 40)) := ((Below.refl _ _).alloc (Nat.le_refl _) _).alloc (by simp) _
  have hx : Cells w.heap.size [.row 0 4 (.slice ca u.classes.length cc) [], .str u.main.sel, .bool u.main.cls, .row 0 1 (.slice pa u.main.params.length pc) [], .row 0 1 (.slice ta u.main.temps.length tc) [], .row 0 5 (.slice ka u.main.body.length kc) []] ((w.alloc (.cells #[.slice ca u.classes.length cc, .string u.main.sel, .bool u.main.cls, .slice pa u.main.params.length pc, .slice ta u.main.temps.length tc, .slice ka u.main.body.length kc] 40)).alloc (.cells #[.slice da v.classes.length dc, .string v.main.sel, .bool v.main.cls, .slice qa v.main.params.length qc, .slice ua v.main.temps.length uc, .slice la v.main.body.length lc] 40)) := (cells_new w [.row 0 4 (.slice ca u.classes.length cc) [], .str u.main.sel, .bool u.main.cls, .row 0 1 (.slice pa u.main.params.length pc) [], .row 0 1 (.slice ta u.main.temps.length tc) [], .row 0 5 (.slice ka u.main.body.length kc) []] _).step ((Below.refl _ _).alloc (Nat.le_refl _) _)
  have hy : Cells (w.heap.size + 1) [.row 0 4 (.slice da v.classes.length dc) [], .str v.main.sel, .bool v.main.cls, .row 0 1 (.slice qa v.main.params.length qc) [], .row 0 1 (.slice ua v.main.temps.length uc) [], .row 0 5 (.slice la v.main.body.length lc) []] ((w.alloc (.cells #[.slice ca u.classes.length cc, .string u.main.sel, .bool u.main.cls, .slice pa u.main.params.length pc, .slice ta u.main.temps.length tc, .slice ka u.main.body.length kc] 40)).alloc (.cells #[.slice da v.classes.length dc, .string v.main.sel, .bool v.main.cls, .slice qa v.main.params.length qc, .slice ua v.main.temps.length uc, .slice la v.main.body.length lc] 40)) := by
    have h := cells_new (w.alloc (.cells #[.slice ca u.classes.length cc, .string u.main.sel, .bool u.main.cls, .slice pa u.main.params.length pc, .slice ta u.main.temps.length tc, .slice ka u.main.body.length kc] 40)) [.row 0 4 (.slice da v.classes.length dc) [], .str v.main.sel, .bool v.main.cls, .row 0 1 (.slice qa v.main.params.length qc) [], .row 0 1 (.slice ua v.main.temps.length uc) [], .row 0 5 (.slice la v.main.body.length lc) []] 40
    rw [show (w.alloc (.cells #[.slice ca u.classes.length cc, .string u.main.sel, .bool u.main.cls, .slice pa u.main.params.length pc, .slice ta u.main.temps.length tc, .slice ka u.main.body.length kc] 40)).heap.size = w.heap.size + 1 by simp] at h
    exact h
  have p0 := hx.at 0 (.row 0 4 (.slice ca u.classes.length cc) []) rfl
  have p1 := hx.at 1 (.str u.main.sel) rfl
  have p2 := hx.at 2 (.bool u.main.cls) rfl
  have p3 := hx.at 3 (.row 0 1 (.slice pa u.main.params.length pc) []) rfl
  have p4 := hx.at 4 (.row 0 1 (.slice ta u.main.temps.length tc) []) rfl
  have p5 := hx.at 5 (.row 0 5 (.slice ka u.main.body.length kc) []) rfl
  have q0 := hy.at 0 (.row 0 4 (.slice da v.classes.length dc) []) rfl
  have q1 := hy.at 1 (.str v.main.sel) rfl
  have q2 := hy.at 2 (.bool v.main.cls) rfl
  have q3 := hy.at 3 (.row 0 1 (.slice qa v.main.params.length qc) []) rfl
  have q4 := hy.at 4 (.row 0 1 (.slice ua v.main.temps.length uc) []) rfl
  have q5 := hy.at 5 (.row 0 5 (.slice la v.main.body.length lc) []) rfl
  simp only [val] at p0 p1 p2 p3 p4 p5 q0 q1 q2 q3 q4 q5
  have KM := Lib.hid (equal_meth (hm.below hb0) (km.below hb0) (few hw) (few kw) (by omega))
  have KF := fun w' (hb : Below w.heap.size w w') => Lib.hid (eqfunc_classes (hc.below hb) (kc'.below hb) (xc := cc) (yc := dc) hr)
  have HV := Lib.hid (eqU_is u v)
  have HB0 := Lib.hid hb0
  have HX := Lib.hid hx
  have HY := Lib.hid hy
  generalize eqU u v = R at *
  generalize eqM u.main v.main = X at *
  clear hm km hw kw hc kc' hx hy hb0
  go_enter Try.func13, Try.ntmps13
  go_wp2_with fail
  refine KM.out.mono ?_
  rintro e w3 ⟨rfl, hb3⟩
  have HB3 := Lib.hid (HB0.out.trans (hb3.mono HB0.out.size))
  have m0 := (HX.out.step hb3).at 0 (.row 0 4 (.slice ca u.classes.length cc) []) rfl
  have n0 := (HY.out.step hb3).at 0 (.row 0 4 (.slice da v.classes.length dc) []) rfl
  simp only [val] at m0 n0
  have KF2 := KF w3 HB3.out
  generalize (decide (u.classes.length = v.classes.length) && eqCs u.classes v.classes) = ME at *
  clear hb3 KM KF HX HY p0 p1 p2 p3 p4 p5 q0 q1 q2 q3 q4 q5
  cases X with
  | false =>
    have hR : R = false := by rw [HV.out]; rfl
    subst hR
    clear HV KF2
    go_wp2_with fail
    go_ret
    exact ⟨rfl, HB3.out⟩
  | true =>
  have hR : R = ME := by rw [HV.out]; simp
  subst hR
  clear HV
  go_wp2_with fail
  refine KF2.out.mono ?_
  rintro e w4 ⟨rfl, hb4⟩
  have HB4 := Lib.hid (HB3.out.trans (hb4.mono HB3.out.size))
  clear hb4 KF2
  go_wp2_with fail
  go_ret
  exact ⟨rfl, HB4.out⟩
end Go.Proofs.Ytlmhgeanknhcfaa.ImplMeth
