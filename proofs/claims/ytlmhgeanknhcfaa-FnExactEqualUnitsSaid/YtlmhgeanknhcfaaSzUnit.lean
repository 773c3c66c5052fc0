/-
  laws.szUnit and szUnitS: what they answer, and that they write nothing that was there.
-/
import Derived.Test.YtlmhgeanknhcfaaDataStr
import Derived.Test.YtlmhgeanknhcfaaDataBox
import Derived.Test.YtlmhgeanknhcfaaSzClassDef
import Derived.Test.YtlmhgeanknhcfaaSzExpr
import Derived.Test.YtlmhgeanknhcfaaSzMethod
namespace Go.Proofs.Ytlmhgeanknhcfaa.Data
open Go.RowKit
open Strs Tree Texts

set_option maxRecDepth 10000 in
set_option maxHeartbeats 4000000 in
theorem sz_Unit (lo left : Nat) (w : World) (ds : List D) (hl : left ≤ 1048576) (hf : FitL (env 5) (erases ds)) (hh : Holdss lo w ds) :
    Calls Try.prog 10 #[agg ds, .int .i64 left] w fun r w' => r = .returned (.int .i64 (after left (weights (erases ds)))) ∧ Below w.heap.size w w' := by
  obtain ⟨t0, v0, d0, e0, rfl, f0, hf_0⟩ := fitL_row (k := 4) rfl hf
  clear hf
  obtain ⟨s1, e1, rfl, hf_1⟩ := fitL_str hf_0
  clear hf_0
  obtain ⟨x2, e2, rfl, hf_2⟩ := fitL_bool hf_1
  clear hf_1
  obtain ⟨t3, v3, d3, e3, rfl, f3, hf_3⟩ := fitL_row (k := 1) rfl hf_2
  clear hf_2
  obtain ⟨t4, v4, d4, e4, rfl, f4, hf_4⟩ := fitL_row (k := 1) rfl hf_3
  clear hf_3
  obtain ⟨t5, v5, d5, e5, rfl, f5, hf_5⟩ := fitL_row (k := 5) rfl hf_4
  clear hf_4
  obtain rfl := fitL_nil hf_5
  clear hf_5
  replace hh : Holdss lo w [D.row t0 4 v0 d0, D.str s1, D.bool x2, D.row t3 1 v3 d3, D.row t4 1 v4 d4, D.row t5 5 v5 d5] := hh
  simp only [Holdss, and_true] at hh
  obtain ⟨h0, h1, h2, h3, h4, h5⟩ := hh
  have HW : weights (erases [D.row t0 4 v0 d0, D.str s1, D.bool x2, D.row t3 1 v3 d3, D.row t4 1 v4 d4, D.row t5 5 v5 d5]) = weight (.row 4 (erases d0)) + weights (erases [D.str s1, D.bool x2, D.row t3 1 v3 d3, D.row t4 1 v4 d4, D.row t5 5 v5 d5]) := by
    first | (simp only [erases, erase, weights, weight]; done) | (simp only [erases, erase, weights, weight]; omega)
  have C0 : Hid (Cells w.heap.size [D.row t0 4 v0 d0, D.str s1, D.bool x2, D.row t3 1 v3 d3, D.row t4 1 v4 d4, D.row t5 5 v5 d5] (w.alloc (Obj.cells #[v0, Value.string s1, Value.bool x2, v3, v4, v5] 35))) := Lib.hid (cells_new w [D.row t0 4 v0 d0, D.str s1, D.bool x2, D.row t3 1 v3 d3, D.row t4 1 v4 d4, D.row t5 5 v5 d5] _)
  have B0 : Hid (Below w.heap.size w (w.alloc (Obj.cells #[v0, Value.string s1, Value.bool x2, v3, v4, v5] 35))) := Lib.hid ((Below.refl _ _).alloc (Nat.le_refl _) _)
  have K0 := fun (w' : World) (l : Nat) (hl : l ≤ 1048576) (hb : Below w.heap.size w w') => Lib.hid (szS_ClassDef lo l t0 w' v0 d0 hl f0 (h0.below hb))
  have K1 := fun (w' : World) (l : Nat) (hl : l ≤ 1048576) (hb : Below w.heap.size w w') => Lib.hid (sz_Method lo l w' [D.str s1, D.bool x2, D.row t3 1 v3 d3, D.row t4 1 v4 d4, D.row t5 5 v5 d5] hl (FitL.cons _ _ _ _ (Fit.str _) (FitL.cons _ _ _ _ (Fit.bool _) (FitL.cons _ _ _ _ (Fit.row _ _ _ rfl f3) (FitL.cons _ _ _ _ (Fit.row _ _ _ rfl f4) (FitL.cons _ _ _ _ (Fit.row _ _ _ rfl f5) FitL.nil))))) (Holdss.below ⟨h1, h2, h3, h4, h5, trivial⟩ hb))
  generalize weight (.row 4 (erases d0)) = q0 at *
  generalize weights (erases [D.str s1, D.bool x2, D.row t3 1 v3 d3, D.row t4 1 v4 d4, D.row t5 5 v5 d5]) = q1 at *
  clear h0 f0
  clear h1
  clear h2
  clear h3 f3
  clear h4 f4
  clear h5 f5
  generalize weights (erases [D.row t0 4 v0 d0, D.str s1, D.bool x2, D.row t3 1 v3 d3, D.row t4 1 v4 d4, D.row t5 5 v5 d5]) = WW at *
  generalize hR : after left WW = R
  have HA := Lib.hid hR
  clear hR
  have HW := Lib.hid HW
  rw [show agg [D.row t0 4 v0 d0, D.str s1, D.bool x2, D.row t3 1 v3 d3, D.row t4 1 v4 d4, D.row t5 5 v5 d5] = Value.agg #[v0, Value.string s1, Value.bool x2, v3, v4, v5] from rfl]
  go_enter Try.func10, Try.ntmps10
  have a0 := C0.out.at 0 (D.row t0 4 v0 d0) rfl
  simp only [val] at a0
  go_wp2_with fail
  refine (K0 _ left (by have h0' := HW.out; omega) B0.out).out.mono ?_
  rintro e w1 ⟨rfl, hb1⟩
  have B1 := Lib.hid (B0.out.trans (hb1.mono B0.out.size))
  have C1 := Lib.hid (C0.out.step hb1)
  clear hb1 K0 B0 C0 a0
  by_cases hq1 : q0 ≤ left
  rotate_left
  · rw [after_no (by omega)]
    have hR : R = -1 := by rw [← HA.out]; exact after_no (by have h0' := HW.out; omega)
    subst hR
    go_wp2_with fail
    go_ret
    exact ⟨rfl, B1.out⟩
  rw [after_yes hq1]
  obtain ⟨l1, hl1⟩ : ∃ l' : Nat, left - q0 = l' := ⟨_, rfl⟩
  have HL1 : Hid (l1 + q0 = left) := Lib.hid (by omega)
  rw [hl1]
  clear hl1 hq1
  have a1 := C1.out.at 1 (D.str s1) rfl
  simp only [val] at a1
  have a2 := C1.out.at 2 (D.bool x2) rfl
  simp only [val] at a2
  have a3 := C1.out.at 3 (D.row t3 1 v3 d3) rfl
  simp only [val] at a3
  have a4 := C1.out.at 4 (D.row t4 1 v4 d4) rfl
  simp only [val] at a4
  have a5 := C1.out.at 5 (D.row t5 5 v5 d5) rfl
  simp only [val] at a5
  go_wp2_with fail
  refine (K1 _ l1 (by have h0' := HW.out; have h1' := HL1.out; omega) B1.out).out.mono ?_
  rintro e w2 ⟨rfl, hb2⟩
  have B2 := Lib.hid (B1.out.trans (hb2.mono B1.out.size))
  have C2 := Lib.hid (C1.out.step hb2)
  clear hb2 K1 B1 C1 a1 a2 a3 a4 a5
  by_cases hq2 : q1 ≤ l1
  rotate_left
  · rw [after_no (by omega)]
    have hR : R = -1 := by rw [← HA.out]; exact after_no (by have h0' := HW.out; have h1' := HL1.out; omega)
    subst hR
    go_wp2_with fail
    go_ret
    exact ⟨rfl, B2.out⟩
  rw [after_yes hq2]
  obtain ⟨l2, hl2⟩ : ∃ l' : Nat, l1 - q1 = l' := ⟨_, rfl⟩
  have HL2 : Hid (l2 + q1 = l1) := Lib.hid (by omega)
  rw [hl2]
  clear hl2 hq2
  have hR : R = (l2 : Int) := by rw [← HA.out, after_yes (by have h0' := HW.out; have h1' := HL1.out; have h2' := HL2.out; omega)]; have h0' := HW.out; have h1' := HL1.out; have h2' := HL2.out; omega
  subst hR
  go_wp2_with fail
  go_ret
  exact ⟨rfl, B2.out⟩

end Go.Proofs.Ytlmhgeanknhcfaa.Data
