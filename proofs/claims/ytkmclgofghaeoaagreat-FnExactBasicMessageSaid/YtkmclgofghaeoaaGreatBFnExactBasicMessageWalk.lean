/-
  The walk of laws.FnExactBasicMessage: it returns true at every input.
-/
import Derived.Test.YtkmclgofghaeoaaGreatBDataStrict
import Derived.Test.YtkmclgofghaeoaaGreatBEqRes
import Derived.Test.YtkmclgofghaeoaaGreatBEqValue
import Derived.Test.YtkmclgofghaeoaaGreatBImplBas
import Derived.Test.YtkmclgofghaeoaaGreatBSpecBasF
import Derived.Test.YtkmclgofghaeoaaGreatBSzValue
import Derived.Test.YtkmclgofghaeoaaGreatBToValue
namespace Go.Proofs.YtkmclgofghaeoaaGreat.fnExactBasicMessageW
open Go.RowKit
open Strs Tree Texts Sto Go.Proofs.YtkmclgofghaeoaaGreat.Data
open Go.Proofs.YtkmclgofghaeoaaGreat.SpecBas (VB vb_new)
structure RC (g : Nat) (r : Bas.R) (wx : World) : Prop where
  a0 : wx.cell? ⟨g, 0, none⟩ = some (.int .i64 r.code)
  a1 : wx.cell? ⟨g, 1, none⟩ = some (.int .i64 r.kind)
  a2 : wx.cell? ⟨g, 2, none⟩ = some (.int .i64 r.num)
  a3 : wx.cell? ⟨g, 3, none⟩ = some (.string r.text)
  a4 : wx.cell? ⟨g, 4, none⟩ = some (.string r.txt)
theorem RC.step {wx w' : World} {g : Nat} {r : Bas.R} (h : RC g r wx) (hb : Below wx.heap.size wx w') : RC g r w' :=
  ⟨cell_keep hb h.a0, cell_keep hb h.a1, cell_keep hb h.a2, cell_keep hb h.a3, cell_keep hb h.a4⟩
theorem rc_new (w : World) (r : Bas.R) (T : TypeId) : RC w.heap.size r (w.alloc (.cells #[.int .i64 r.code, .int .i64 r.kind, .int .i64 r.num, .string r.text, .string r.txt] T)) :=
  ⟨by go_simp, by go_simp, by go_simp, by go_simp, by go_simp⟩
set_option maxRecDepth 10000 in
set_option maxHeartbeats 16000000 in
theorem walk (da : List D) (hfa : FitL (env 10) (erases da)) (sel : ByteArray) (hsel : sel.size ≤ maxLen) (v2 : Value) (ty : Nat) (dc : List D) (hfc : FitRow 10 (erases dc)) (w : World) (ha : Holdss 0 w da) (hc : Holds 0 w (.row ty 3 v2 dc)) :
    Calls Tryz.prog 3 #[agg da, .string sel, v2] w fun e w' => e = .returned (.bool true) ∧ Below w.heap.size w w' := by
  unfold maxLen at hsel
  obtain ⟨v, hda, hpa⟩ := value_get hfa
  subst hda
  obtain ⟨args, hargs⟩ := values_get _ dc (Nat.le_refl _) hfc
  have hwa : Data.weights (erases [D.int v.kind, D.int v.num, D.str v.text]) = v.text.size := by rw [hpa, plainV_weight]
  have hwc : ∀ x, x ∈ args → x.text.size ≤ Data.weights (erases dc) := fun x hx => by rw [hargs]; exact plainVs_mem args x hx
  have hwr : Data.weights (erases dc) ≤ Data.weight (.row 3 (erases dc)) := by rw [Data.weight]; omega
  rw [show agg [D.int v.kind, D.int v.num, D.str v.text] = .agg #[.int .i64 v.kind, .int .i64 v.num, .string v.text] from rfl]
  have VX := Lib.hid (vb_new w v 23)
  have hb0 : Below w.heap.size w (w.alloc (.cells #[.int .i64 v.kind, .int .i64 v.num, .string v.text] 23)) := (Below.refl _ _).alloc (Nat.le_refl _) _
  have HB0 := Lib.hid hb0
  have HFA := Lib.hid hfa
  have HFC := Lib.hid hfc
  have HHA := Lib.hid ha
  have HHC := Lib.hid hc
  have HPA := Lib.hid hpa
  have HAR := Lib.hid hargs
  have HWC := Lib.hid hwc
  clear hb0 hfa hfc ha hc hpa hargs hwc
  by_cases hbig : (1048576 : Int) < (sel.size : Int)
  · clear HFA HFC HHA HHC HPA HAR HWC hwa hwr VX
    go_enter Tryz.func3, Tryz.ntmps3
    go_wp2_with fail
    go_ret
    exact ⟨rfl, HB0.out⟩
  have hsl : sel.size ≤ 1048576 := by omega
  have KZ := fun (w' : World) (hb : Below w.heap.size w w') => Lib.hid (sz_Value 0 1048576 w' [D.int v.kind, D.int v.num, D.str v.text] (Nat.le_refl _) HFA.out (HHA.out.below hb))
  rw [hwa] at KZ
  by_cases hz : v.text.size ≤ 1048576
  case neg =>
    rw [after_no (by omega)] at KZ
    have K := KZ _ HB0.out
    rw [show agg [D.int v.kind, D.int v.num, D.str v.text] = .agg #[.int .i64 v.kind, .int .i64 v.num, .string v.text] from rfl] at K
    clear KZ HFA HFC HHA HHC HPA HAR HWC hwa hwr VX hz
    go_enter Tryz.func3, Tryz.ntmps3
    go_wp2_with fail
    refine K.out.mono ?_
    rintro e w1 ⟨rfl, hb1⟩
    have HB1 := Lib.hid (HB0.out.trans (hb1.mono HB0.out.size))
    clear hb1 K
    go_wp2_with fail
    go_ret
    exact ⟨rfl, HB1.out⟩
  rw [after_yes hz] at KZ
  have K := KZ _ HB0.out
  rw [show agg [D.int v.kind, D.int v.num, D.str v.text] = .agg #[.int .i64 v.kind, .int .i64 v.num, .string v.text] from rfl] at K
  clear KZ
  obtain ⟨left, hleft⟩ : ∃ left, 1048576 - v.text.size = left := ⟨_, rfl⟩
  rw [hleft] at K
  have KS := fun (w' : World) (hb : Below w.heap.size w w') => Lib.hid (szS_Value 0 left ty w' v2 dc (by omega) HFC.out (HHC.out.below hb))
  by_cases hy : Data.weight (.row 3 (erases dc)) ≤ left
  case neg =>
    rw [after_no (by omega)] at KS
    clear HFA HFC HHA HHC HPA HAR HWC hwa hwr VX hz hy
    go_enter Tryz.func3, Tryz.ntmps3
    go_wp2_with fail
    refine K.out.mono ?_
    rintro e w1 ⟨rfl, hb1⟩
    have HB1 := Lib.hid (HB0.out.trans (hb1.mono HB0.out.size))
    clear hb1 K HB0
    go_wp2_with fail
    refine (KS _ HB1.out).out.mono ?_
    rintro e w2 ⟨rfl, hb2⟩
    have HB2 := Lib.hid (HB1.out.trans (hb2.mono HB1.out.size))
    clear hb2 KS HB1
    go_wp2_with fail
    go_ret
    exact ⟨rfl, HB2.out⟩
  rw [after_yes hy] at KS
  have hwt : Data.weight (.row 3 (erases dc)) ≤ 1048576 := by omega
  have KT := fun (w' : World) (hb : Below w.heap.size w w') => Lib.hid (to_Value 0 w' [D.int v.kind, D.int v.num, D.str v.text] (by rw [hwa]; exact hz) HFA.out (HHA.out.below hb))
  have KU := fun (w' : World) (hb : Below w.heap.size w w') => Lib.hid (toS_Value 0 ty w' v2 dc hwt HFC.out (HHC.out.below hb))
  rw [show agg [D.int v.kind, D.int v.num, D.str v.text] = .agg #[.int .i64 v.kind, .int .i64 v.num, .string v.text] from rfl] at KT
  have HZ : Hid (∀ x, x ∈ args → x.text.size ≤ 1048576) := Lib.hid fun x hx => Nat.le_trans (HWC.out x hx) (by omega)
  have HT := Lib.hid hz
  generalize left - Data.weight (.row 3 (erases dc)) = l2 at *
  have HVF : Hid (∀ (ds : List D), erases ds = erases [D.int v.kind, D.int v.num, D.str v.text] → ds = [D.int v.kind, D.int v.num, D.str v.text]) := Lib.hid fun ds h => value_form (h.trans HPA.out)
  have HVS : Hid (∀ (lo : Nat) (w' : World) (t : Nat) (s : Value) (es : List D), Holds lo w' (.row t 3 s es) → erases es = erases dc → VsAt lo w' s args) := Lib.hid fun lo w' t s es h he => values_open h (he.trans HAR.out)
  have HSL := Lib.hid hsl
  generalize hans : Bas.answer v sel args = r
  have KE := fun w' => Lib.hid (EqRes.eqr_same r w')
  have HANS := Lib.hid hans
  clear HFA HHA HHC HPA HAR HWC hwa hwr hz hy hwt hleft hsl hans
  go_enter Tryz.func3, Tryz.ntmps3
  go_wp2_with fail
  refine K.out.mono ?_
  rintro e w1 ⟨rfl, hb1⟩
  have HB1 := Lib.hid (HB0.out.trans (hb1.mono HB0.out.size))
  have VX1 := Lib.hid (VX.out.step hb1)
  clear hb1 K HB0 VX
  go_wp2_with fail
  refine (KS _ HB1.out).out.mono ?_
  rintro e w2 ⟨rfl, hb2⟩
  have HB2 := Lib.hid (HB1.out.trans (hb2.mono HB1.out.size))
  have VX2 := Lib.hid (VX1.out.step hb2)
  obtain ⟨x0, x1, x2⟩ := VX2.out
  clear hb2 KS HB1 VX1
  go_wp2_with fail
  refine (KT _ HB2.out).out.mono ?_
  rintro e w3 ⟨es, rfl, hes, -, hb3⟩
  obtain rfl := HVF.out es hes
  rw [show agg [D.int v.kind, D.int v.num, D.str v.text] = .agg #[.int .i64 v.kind, .int .i64 v.num, .string v.text] from rfl]
  have HB3 := Lib.hid (HB2.out.trans (hb3.mono HB2.out.size))
  have VX3 := Lib.hid (VX2.out.step hb3)
  clear hes hb3 HB2 VX2 x0 x1 x2
  go_wp2_with fail
  refine (KU _ HB3.out).out.mono ?_
  rintro e w4 ⟨a4, n4, c4, e4, rfl, he4, hr4, hb4⟩
  have HB4 := Lib.hid (HB3.out.trans (hb4.mono HB3.out.size))
  have VX4 := Lib.hid (VX3.out.step hb4)
  have hv4 := HVS.out _ w4 _ _ e4 (row_iff.2 hr4).holds.1 he4
  have K4 := Lib.hid (SpecBas.msg_any v sel args _ _ w4 hv4 HT.out HZ.out HSL.out)
  rw [HANS.out] at K4
  clear he4 hr4 hb4 HB3 VX3 hv4
  go_wp2_with fail
  refine K4.out.mono ?_
  rintro e w5 ⟨rfl, hb5⟩
  have HB5 := Lib.hid (HB4.out.trans (hb5.mono HB4.out.size))
  have VX5 := Lib.hid (VX4.out.step hb5)
  clear hb5 HB4 VX4 K4
  have HB6 := Lib.hid (HB5.out.alloc HB5.out.size (.cells #[.int .i64 r.code, .int .i64 r.kind, .int .i64 r.num, .string r.text, .string r.txt] 29))
  have VX6 := Lib.hid (VX5.out.step ((Below.refl _ _).alloc (Nat.le_refl _) (.cells #[.int .i64 r.code, .int .i64 r.kind, .int .i64 r.num, .string r.text, .string r.txt] 29)))
  have RX6 := Lib.hid (rc_new w5 r 29)
  unfold Bas.R.val
  go_wp2_with fail
  refine (KU _ HB6.out).out.mono ?_
  rintro e w7 ⟨a7, n7, c7, e7, rfl, he7, hr7, hb7⟩
  have HB7 := Lib.hid (HB6.out.trans (hb7.mono HB6.out.size))
  have VX7 := Lib.hid (VX6.out.step hb7)
  have RX7 := Lib.hid (RX6.out.step hb7)
  have HR7 := Lib.hid hr7
  have HE7 := Lib.hid he7
  obtain ⟨x0, x1, x2⟩ := VX7.out
  clear hb7 hr7 he7 HB6 VX6 RX6 HB5 VX5
  go_wp2_with fail
  refine (KT _ HB7.out).out.mono ?_
  rintro e w8 ⟨es, rfl, hes, -, hb8⟩
  obtain rfl := HVF.out es hes
  rw [show agg [D.int v.kind, D.int v.num, D.str v.text] = .agg #[.int .i64 v.kind, .int .i64 v.num, .string v.text] from rfl]
  have HB8 := Lib.hid (HB7.out.trans (hb8.mono HB7.out.size))
  have RX8 := Lib.hid (RX7.out.step hb8)
  have HR8 := Lib.hid (HR7.out.below hb8)
  have hv8 := HVS.out _ w8 _ _ e7 (row_iff.2 HR8.out).holds.1 HE7.out
  have K8 := Lib.hid (ImplBas.msg_any v sel args _ _ w8 hv8 HT.out HZ.out HSL.out)
  rw [HANS.out] at K8
  clear hes hb8 HB7 VX7 RX7 HR7 hv8 x0 x1 x2
  go_wp2_with fail
  refine K8.out.mono ?_
  rintro e w9 ⟨rfl, hb9⟩
  have HB9 := Lib.hid (HB8.out.trans (hb9.mono HB8.out.size))
  have RX9 := Lib.hid (RX8.out.step hb9)
  have HR9 := Lib.hid (HR8.out.below hb9)
  clear hb9 HB8 RX8 HR8 K8
  have hbx : Below w9.heap.size w9 (w9.alloc (.cells #[.int .i64 r.code, .int .i64 r.kind, .int .i64 r.num, .string r.text, .string r.txt] 29)) := (Below.refl _ _).alloc (Nat.le_refl _) _
  have HB10 := Lib.hid (HB9.out.trans (hbx.mono HB9.out.size))
  have HR10 := Lib.hid (HR9.out.below hbx)
  obtain ⟨p0, p1, p2, p3, p4⟩ := RX9.out.step hbx
  obtain ⟨q0, q1, q2, q3, q4⟩ := rc_new w9 r 29
  clear hbx HB9 RX9 HR9
  unfold Bas.R.val at *
  go_wp2_with fail
  refine (KE _).out.mono ?_
  rintro e w11 ⟨rfl, hb11⟩
  have HB11 := Lib.hid (HB10.out.trans (hb11.mono HB10.out.size))
  have HR11 := Lib.hid (HR10.out.below hb11)
  clear hb11 HB10 HR10 p0 p1 p2 p3 p4 q0 q1 q2 q3 q4
  go_wp2_with fail
  refine (KU _ HB11.out).out.mono ?_
  rintro e w12 ⟨a12, n12, c12, e12, rfl, he12, hr12, hb12⟩
  have HB12 := Lib.hid (HB11.out.trans (hb12.mono HB11.out.size))
  have K12 := Lib.hid (eqS_Value _ _ _ _ w12 _ _ e7 e12 (HE7.out.trans he12.symm) (HE7.out ▸ HFC.out) (row_iff.2 (HR11.out.below hb12)).holds.1 (row_iff.2 hr12).holds.1)
  clear hb12 hr12 he12 HB11 HR11
  go_wp2_with fail
  refine K12.out.mono ?_
  rintro e w13 ⟨rfl, hb13⟩
  have HB13 := Lib.hid (HB12.out.trans (hb13.mono HB12.out.size))
  clear hb13 HB12 K12
  go_wp2_with fail
  go_ret
  exact ⟨rfl, HB13.out⟩
end Go.Proofs.YtkmclgofghaeoaaGreat.fnExactBasicMessageW
