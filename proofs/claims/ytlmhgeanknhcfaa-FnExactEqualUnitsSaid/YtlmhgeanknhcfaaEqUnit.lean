/-
  laws.eqUnit and eqUnitS: two values that read alike are equal, and nothing that was there is written.
-/
import Derived.Test.YtlmhgeanknhcfaaDataStr
import Derived.Test.YtlmhgeanknhcfaaDataBox
import Derived.Test.YtlmhgeanknhcfaaEqClassDef
import Derived.Test.YtlmhgeanknhcfaaEqExpr
import Derived.Test.YtlmhgeanknhcfaaEqMethod
namespace Go.Proofs.Ytlmhgeanknhcfaa.Data
open Go.RowKit
open Strs Tree Texts

set_option maxRecDepth 10000 in
set_option maxHeartbeats 4000000 in
theorem eq_Unit (lo1 lo2 : Nat) (w : World) (ds es : List D) (he : erases ds = erases es) (hf : FitL (env 5) (erases ds)) (hh : Holdss lo1 w ds) (hk : Holdss lo2 w es) :
    Calls Try.prog 14 #[agg ds, agg es] w fun r w' => r = .returned (.bool true) ∧ Below w.heap.size w w' := by
  have hg : FitL (env 5) (erases es) := he ▸ hf
  obtain ⟨t0, v0, d0, e0, rfl, f0, hf_0⟩ := fitL_row (k := 4) rfl hf
  clear hf
  obtain ⟨s1, e1, rfl, hf_1⟩ := fitL_str hf_0
  clear hf_0
  obtain ⟨x2, e2, rfl, hf_2⟩ := fitL_bool hf_1
  clear hf_1
  obtain ⟨t3, v3, d3, e3, rfl, f3, hf_3⟩ := fitL_row (k := 1) rfl hf_2
  clear hf_2
  obtain ⟨t4, v4, d4, e4, rfl, f4, hf_4⟩ := fitL_row (k := 1) rfl hf_3
  clear hf_3
  obtain ⟨t5, v5, d5, e5, rfl, f5, hf_5⟩ := fitL_row (k := 5) rfl hf_4
  clear hf_4
  obtain rfl := fitL_nil hf_5
  clear hf_5
  obtain ⟨yt0, yv0, yd0, ye0, rfl, yf0, hg_0⟩ := fitL_row (k := 4) rfl hg
  clear hg
  obtain ⟨ys1, ye1, rfl, hg_1⟩ := fitL_str hg_0
  clear hg_0
  obtain ⟨yx2, ye2, rfl, hg_2⟩ := fitL_bool hg_1
  clear hg_1
  obtain ⟨yt3, yv3, yd3, ye3, rfl, yf3, hg_3⟩ := fitL_row (k := 1) rfl hg_2
  clear hg_2
  obtain ⟨yt4, yv4, yd4, ye4, rfl, yf4, hg_4⟩ := fitL_row (k := 1) rfl hg_3
  clear hg_3
  obtain ⟨yt5, yv5, yd5, ye5, rfl, yf5, hg_5⟩ := fitL_row (k := 5) rfl hg_4
  clear hg_4
  obtain rfl := fitL_nil hg_5
  clear hg_5
  simp only [erases, erase, List.cons.injEq, P.str.injEq, P.bool.injEq, P.row.injEq, true_and,  and_true] at he
  obtain ⟨g0, g1, g2, g3, g4, g5⟩ := he
  subst g1
  subst g2
  simp only [Holdss, and_true] at hh
  obtain ⟨h0, h1, h2, h3, h4, h5⟩ := hh
  simp only [Holdss, and_true] at hk
  obtain ⟨k0, k1, k2, k3, k4, k5⟩ := hk
  have K0 := fun (w' : World) (hb : Below w.heap.size w w') => Lib.hid (eqS_ClassDef lo1 lo2 t0 yt0 w' v0 yv0 d0 yd0 g0 f0 (h0.below hb) (k0.below hb))
  have K1 := fun (w' : World) (hb : Below w.heap.size w w') => Lib.hid (eq_Method lo1 lo2 w' [D.str s1, D.bool x2, D.row t3 1 v3 d3, D.row t4 1 v4 d4, D.row t5 5 v5 d5] [D.str s1, D.bool x2, D.row yt3 1 yv3 yd3, D.row yt4 1 yv4 yd4, D.row yt5 5 yv5 yd5] (by simp only [erases, erase, g3, g4, g5]) (FitL.cons _ _ _ _ (Fit.str _) (FitL.cons _ _ _ _ (Fit.bool _) (FitL.cons _ _ _ _ (Fit.row _ _ _ rfl f3) (FitL.cons _ _ _ _ (Fit.row _ _ _ rfl f4) (FitL.cons _ _ _ _ (Fit.row _ _ _ rfl f5) FitL.nil))))) (Holdss.below ⟨h1, h2, h3, h4, h5, trivial⟩ hb) (Holdss.below ⟨k1, k2, k3, k4, k5, trivial⟩ hb))
  clear h0 k0 f0 yf0 g0
  clear h1 k1
  clear h2 k2
  clear h3 k3 f3 yf3 g3
  clear h4 k4 f4 yf4 g4
  clear h5 k5 f5 yf5 g5
  have B0 : Hid (Below w.heap.size w ((w.alloc (Obj.cells #[v0, Value.string s1, Value.bool x2, v3, v4, v5] 40)).alloc (Obj.cells #[yv0, Value.string s1, Value.bool x2, yv3, yv4, yv5] 40))) := Lib.hid (((Below.refl _ _).alloc (Nat.le_refl _) _).alloc (by simp) _)
  have X0 : Hid (Cells w.heap.size [D.row t0 4 v0 d0, D.str s1, D.bool x2, D.row t3 1 v3 d3, D.row t4 1 v4 d4, D.row t5 5 v5 d5] ((w.alloc (Obj.cells #[v0, Value.string s1, Value.bool x2, v3, v4, v5] 40)).alloc (Obj.cells #[yv0, Value.string s1, Value.bool x2, yv3, yv4, yv5] 40))) := Lib.hid ((cells_new w [D.row t0 4 v0 d0, D.str s1, D.bool x2, D.row t3 1 v3 d3, D.row t4 1 v4 d4, D.row t5 5 v5 d5] _).step ((Below.refl _ _).alloc (Nat.le_refl _) _))
  have Y0 : Hid (Cells (w.heap.size + 1) [D.row yt0 4 yv0 yd0, D.str s1, D.bool x2, D.row yt3 1 yv3 yd3, D.row yt4 1 yv4 yd4, D.row yt5 5 yv5 yd5] ((w.alloc (Obj.cells #[v0, Value.string s1, Value.bool x2, v3, v4, v5] 40)).alloc (Obj.cells #[yv0, Value.string s1, Value.bool x2, yv3, yv4, yv5] 40))) := Lib.hid (by have h := cells_new (w.alloc (Obj.cells #[v0, Value.string s1, Value.bool x2, v3, v4, v5] 40)) [D.row yt0 4 yv0 yd0, D.str s1, D.bool x2, D.row yt3 1 yv3 yd3, D.row yt4 1 yv4 yd4, D.row yt5 5 yv5 yd5] 40; rw [show (w.alloc (Obj.cells #[v0, Value.string s1, Value.bool x2, v3, v4, v5] 40)).heap.size = w.heap.size + 1 by simp] at h; exact h)
  rw [show agg [D.row t0 4 v0 d0, D.str s1, D.bool x2, D.row t3 1 v3 d3, D.row t4 1 v4 d4, D.row t5 5 v5 d5] = Value.agg #[v0, Value.string s1, Value.bool x2, v3, v4, v5] from rfl, show agg [D.row yt0 4 yv0 yd0, D.str s1, D.bool x2, D.row yt3 1 yv3 yd3, D.row yt4 1 yv4 yd4, D.row yt5 5 yv5 yd5] = Value.agg #[yv0, Value.string s1, Value.bool x2, yv3, yv4, yv5] from rfl]
  go_enter Try.func14, Try.ntmps14
  have a0 := X0.out.at 0 (D.row t0 4 v0 d0) rfl
  have b0 := Y0.out.at 0 (D.row yt0 4 yv0 yd0) rfl
  simp only [val] at a0 b0
  go_wp2_with fail
  refine (K0 _ B0.out).out.mono ?_
  rintro e w1 ⟨rfl, hb1⟩
  have B1 := Lib.hid (B0.out.trans (hb1.mono B0.out.size))
  have X1 := Lib.hid (X0.out.step hb1)
  have Y1 := Lib.hid (Y0.out.step hb1)
  clear hb1 K0 B0 X0 Y0 a0 b0
  have a1 := X1.out.at 1 (D.str s1) rfl
  have b1 := Y1.out.at 1 (D.str s1) rfl
  simp only [val] at a1 b1
  have a2 := X1.out.at 2 (D.bool x2) rfl
  have b2 := Y1.out.at 2 (D.bool x2) rfl
  simp only [val] at a2 b2
  have a3 := X1.out.at 3 (D.row t3 1 v3 d3) rfl
  have b3 := Y1.out.at 3 (D.row yt3 1 yv3 yd3) rfl
  simp only [val] at a3 b3
  have a4 := X1.out.at 4 (D.row t4 1 v4 d4) rfl
  have b4 := Y1.out.at 4 (D.row yt4 1 yv4 yd4) rfl
  simp only [val] at a4 b4
  have a5 := X1.out.at 5 (D.row t5 5 v5 d5) rfl
  have b5 := Y1.out.at 5 (D.row yt5 5 yv5 yd5) rfl
  simp only [val] at a5 b5
  go_wp2_with fail
  refine (K1 _ B1.out).out.mono ?_
  rintro e w2 ⟨rfl, hb2⟩
  have B2 := Lib.hid (B1.out.trans (hb2.mono B1.out.size))
  have X2 := Lib.hid (X1.out.step hb2)
  have Y2 := Lib.hid (Y1.out.step hb2)
  clear hb2 K1 B1 X1 Y1 a1 b1 a2 b2 a3 b3 a4 b4 a5 b5
  go_wp2_with fail
  go_ret
  exact ⟨rfl, B2.out⟩

end Go.Proofs.Ytlmhgeanknhcfaa.Data
