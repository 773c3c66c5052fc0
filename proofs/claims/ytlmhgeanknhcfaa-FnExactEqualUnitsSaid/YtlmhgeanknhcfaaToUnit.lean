/-
  laws.toUnit and toUnitS: they copy into memory of their own.
-/
import Derived.Test.YtlmhgeanknhcfaaDataStr
import Derived.Test.YtlmhgeanknhcfaaDataBox
import Derived.Test.YtlmhgeanknhcfaaToClassDef
import Derived.Test.YtlmhgeanknhcfaaToExpr
import Derived.Test.YtlmhgeanknhcfaaToMethod
namespace Go.Proofs.Ytlmhgeanknhcfaa.Data
open Go.RowKit
open Strs Tree Texts

set_option maxRecDepth 10000 in
set_option maxHeartbeats 4000000 in
theorem to_Unit (lo : Nat) (w : World) (ds : List D) (hw : weights (erases ds) ≤ 1048576) (hf : FitL (env 5) (erases ds)) (hh : Holdss lo w ds) :
    Calls Try.prog 12 #[agg ds] w fun r w' => ∃ es, r = .returned (agg es) ∧ erases es = erases ds ∧ Own w.heap.size w' es ∧ Below w.heap.size w w' := by
  obtain ⟨t0, v0, d0, e0, rfl, f0, hf_0⟩ := fitL_row (k := 4) rfl hf
  clear hf
  obtain ⟨s1, e1, rfl, hf_1⟩ := fitL_str hf_0
  clear hf_0
  obtain ⟨x2, e2, rfl, hf_2⟩ := fitL_bool hf_1
  clear hf_1
  obtain ⟨t3, v3, d3, e3, rfl, f3, hf_3⟩ := fitL_row (k := 1) rfl hf_2
  clear hf_2
  obtain ⟨t4, v4, d4, e4, rfl, f4, hf_4⟩ := fitL_row (k := 1) rfl hf_3
  clear hf_3
  obtain ⟨t5, v5, d5, e5, rfl, f5, hf_5⟩ := fitL_row (k := 5) rfl hf_4
  clear hf_4
  obtain rfl := fitL_nil hf_5
  clear hf_5
  simp only [Holdss, and_true] at hh
  obtain ⟨h0, h1, h2, h3, h4, h5⟩ := hh
  have hw0 : weight (.row 4 (erases d0)) ≤ 1048576 := by simp only [erases, erase, weights] at hw; omega
  have hw1 : weights (erases [D.str s1, D.bool x2, D.row t3 1 v3 d3, D.row t4 1 v4 d4, D.row t5 5 v5 d5]) ≤ 1048576 := by simp only [erases, erase, weights] at hw ⊢; omega
  have K0 := fun (w' : World) (hb : Below w.heap.size w w') => Lib.hid (toS_ClassDef lo t0 w' v0 d0 hw0 f0 (h0.below hb))
  have K1 := fun (w' : World) (hb : Below w.heap.size w w') => Lib.hid (to_Method lo w' [D.str s1, D.bool x2, D.row t3 1 v3 d3, D.row t4 1 v4 d4, D.row t5 5 v5 d5] hw1 (FitL.cons _ _ _ _ (Fit.str _) (FitL.cons _ _ _ _ (Fit.bool _) (FitL.cons _ _ _ _ (Fit.row _ _ _ rfl f3) (FitL.cons _ _ _ _ (Fit.row _ _ _ rfl f4) (FitL.cons _ _ _ _ (Fit.row _ _ _ rfl f5) FitL.nil))))) (Holdss.below ⟨h1, h2, h3, h4, h5, trivial⟩ hb))
  have FN1 : Hid (FitL (env 3) (erases [D.str s1, D.bool x2, D.row t3 1 v3 d3, D.row t4 1 v4 d4, D.row t5 5 v5 d5])) := Lib.hid (FitL.cons _ _ _ _ (Fit.str _) (FitL.cons _ _ _ _ (Fit.bool _) (FitL.cons _ _ _ _ (Fit.row _ _ _ rfl f3) (FitL.cons _ _ _ _ (Fit.row _ _ _ rfl f4) (FitL.cons _ _ _ _ (Fit.row _ _ _ rfl f5) FitL.nil)))))
  have P1 := Lib.hid h1
  have P2 := Lib.hid h2
  clear hw h0 h1 h2 h3 h4 h5 hw0 hw1 f0 f3 f4 f5
  have B0 : Hid (Box w [D.row t0 4 v0 d0, D.str s1, D.bool x2, D.row t3 1 v3 d3, D.row t4 1 v4 d4, D.row t5 5 v5 d5] [D.row 0 4 (.slice none 0 0) [], D.str ⟨#[]⟩, D.bool false, D.row 0 1 (.slice none 0 0) [], D.row 0 1 (.slice none 0 0) [], D.row 0 5 (.slice none 0 0) []] [D.row 0 4 (.slice none 0 0) [], D.str ⟨#[]⟩, D.bool false, D.row 0 1 (.slice none 0 0) [], D.row 0 1 (.slice none 0 0) [], D.row 0 5 (.slice none 0 0) []] (((w.alloc (Obj.cells #[v0, Value.string s1, Value.bool x2, v3, v4, v5] 35)).alloc (Obj.cells #[Value.slice none 0 0, Value.string { data := #[] }, Value.bool false, Value.slice none 0 0, Value.slice none 0 0, Value.slice none 0 0] 40)).alloc (Obj.cells #[Value.slice none 0 0, Value.string { data := #[] }, Value.bool false, Value.slice none 0 0, Value.slice none 0 0, Value.slice none 0 0] 40))) := Lib.hid (box_new w [D.row t0 4 v0 d0, D.str s1, D.bool x2, D.row t3 1 v3 d3, D.row t4 1 v4 d4, D.row t5 5 v5 d5] [D.row 0 4 (.slice none 0 0) [], D.str ⟨#[]⟩, D.bool false, D.row 0 1 (.slice none 0 0) [], D.row 0 1 (.slice none 0 0) [], D.row 0 5 (.slice none 0 0) []] [D.row 0 4 (.slice none 0 0) [], D.str ⟨#[]⟩, D.bool false, D.row 0 1 (.slice none 0 0) [], D.row 0 1 (.slice none 0 0) [], D.row 0 5 (.slice none 0 0) []] _ _ _)
  rw [show agg [D.row t0 4 v0 d0, D.str s1, D.bool x2, D.row t3 1 v3 d3, D.row t4 1 v4 d4, D.row t5 5 v5 d5] = Value.agg #[v0, Value.string s1, Value.bool x2, v3, v4, v5] from rfl]
  go_enter Try.func12, Try.ntmps12
  have a0 := B0.out.a.at 0 (D.row t0 4 v0 d0) rfl
  simp only [val] at a0
  go_wp2_with fail
  refine (K0 _ B0.out.below).out.mono ?_
  rintro e w1 ⟨ya0, yn0, yc0, yd0, rfl, he0, hr0, hb1⟩
  have HE0 := Lib.hid he0
  clear he0
  have on1 := row_iff.2 hr0
  have OW1 := Lib.hid (on1.mono (base' := w.heap.size + 3) B0.out.size)
  have B1 := Lib.hid (B0.out.step hb1)
  clear hb1 on1 K0 B0 a0 hr0
  have fc := B1.out.fc
  have c0 := B1.out.c.at 0 (D.row 0 4 (.slice none 0 0) []) rfl
  simp only [val] at c0
  have B1s := Lib.hid (B1.out.set 0 (D.row 57 4 (.slice ya0 yn0 yc0) yd0) (by simp))
  have OW1s := Lib.hid (OW1.out.setLow (g := w.heap.size + 1 + 1) (by omega) 0 (Value.slice ya0 yn0 yc0))
  clear B1 OW1
  have a1 := B1s.out.a.at 1 (D.str s1) rfl
  simp only [val] at a1
  have a2 := B1s.out.a.at 2 (D.bool x2) rfl
  simp only [val] at a2
  have a3 := B1s.out.a.at 3 (D.row t3 1 v3 d3) rfl
  simp only [val] at a3
  have a4 := B1s.out.a.at 4 (D.row t4 1 v4 d4) rfl
  simp only [val] at a4
  have a5 := B1s.out.a.at 5 (D.row t5 5 v5 d5) rfl
  simp only [val] at a5
  go_wp2_with fail
  refine (K1 _ B1s.out.below).out.mono ?_
  rintro e w2 ⟨es, rfl, he, on2, hb2⟩
  have hg : FitL (env 3) (erases es) := he ▸ FN1.out
  obtain ⟨ys1, ye1, rfl, hg_1⟩ := fitL_str hg
  clear hg
  obtain ⟨yx2, ye2, rfl, hg_2⟩ := fitL_bool hg_1
  clear hg_1
  obtain ⟨yt3, yv3, yd3, ye3, rfl, yf3, hg_3⟩ := fitL_row (k := 1) rfl hg_2
  clear hg_2
  obtain ⟨yt4, yv4, yd4, ye4, rfl, yf4, hg_4⟩ := fitL_row (k := 1) rfl hg_3
  clear hg_3
  obtain ⟨yt5, yv5, yd5, ye5, rfl, yf5, hg_5⟩ := fitL_row (k := 5) rfl hg_4
  clear hg_4
  obtain rfl := fitL_nil hg_5
  clear hg_5
  replace he := he.symm
  simp only [erases, erase, List.cons.injEq, P.str.injEq, P.bool.injEq, P.row.injEq, true_and,  and_true] at he
  obtain ⟨rfl, rfl, g3, g4, g5⟩ := he
  obtain ⟨ya3, yn3, yc3, rfl⟩ := row_slice (goods_iff.1 on2.good (D.row yt3 1 yv3 yd3) (by simp))
  have HE3 := Lib.hid g3.symm
  clear g3 yf3
  obtain ⟨ya4, yn4, yc4, rfl⟩ := row_slice (goods_iff.1 on2.good (D.row yt4 1 yv4 yd4) (by simp))
  have HE4 := Lib.hid g4.symm
  clear g4 yf4
  obtain ⟨ya5, yn5, yc5, rfl⟩ := row_slice (goods_iff.1 on2.good (D.row yt5 5 yv5 yd5) (by simp))
  have HE5 := Lib.hid g5.symm
  clear g5 yf5
  rw [show agg [D.str s1, D.bool x2, D.row yt3 1 (.slice ya3 yn3 yc3) yd3, D.row yt4 1 (.slice ya4 yn4 yc4) yd4, D.row yt5 5 (.slice ya5 yn5 yc5) yd5] = Value.agg #[Value.string s1, Value.bool x2, Value.slice ya3 yn3 yc3, Value.slice ya4 yn4 yc4, Value.slice ya5 yn5 yc5] from rfl]
  have OW2 := Lib.hid (OW1s.out.snoc hb2 (on2.mono (Nat.le_refl _)) B1s.out.size)
  have B2 := Lib.hid (B1s.out.step hb2)
  clear hb2 on2 K1 B1s fc c0 a1 a2 a3 a4 a5 OW1s
  have b0 := B2.out.b.at 0 (D.row 0 4 (.slice none 0 0) []) rfl
  have c0 := B2.out.c.at 0 (D.row 57 4 (.slice ya0 yn0 yc0) yd0) rfl
  simp only [val] at b0 c0
  have b1 := B2.out.b.at 1 (D.str ⟨#[]⟩) rfl
  have c1 := B2.out.c.at 1 (D.str ⟨#[]⟩) rfl
  simp only [val] at b1 c1
  have b2 := B2.out.b.at 2 (D.bool false) rfl
  have c2 := B2.out.c.at 2 (D.bool false) rfl
  simp only [val] at b2 c2
  have b3 := B2.out.b.at 3 (D.row 0 1 (.slice none 0 0) []) rfl
  have c3 := B2.out.c.at 3 (D.row 0 1 (.slice none 0 0) []) rfl
  simp only [val] at b3 c3
  have b4 := B2.out.b.at 4 (D.row 0 1 (.slice none 0 0) []) rfl
  have c4 := B2.out.c.at 4 (D.row 0 1 (.slice none 0 0) []) rfl
  simp only [val] at b4 c4
  have b5 := B2.out.b.at 5 (D.row 0 5 (.slice none 0 0) []) rfl
  have c5 := B2.out.c.at 5 (D.row 0 5 (.slice none 0 0) []) rfl
  simp only [val] at b5 c5
  have a1 := B2.out.a.at 1 (D.str s1) rfl
  simp only [val] at a1
  have a2 := B2.out.a.at 2 (D.bool x2) rfl
  simp only [val] at a2
  have fb := B2.out.fb
  have fc := B2.out.fc
  go_wp2_with fail
  refine bodyPost_ret (v := .agg #[Value.slice ya0 yn0 yc0, Value.string s1, Value.bool x2, Value.slice ya3 yn3 yc3, Value.slice ya4 yn4 yc4, Value.slice ya5 yn5 yc5]) (by simp [results, Try.results12, go_sem, *]) rfl ?_
  have g1 : w.heap.size + 1 + 1 < w.heap.size + 3 := by omega
  have g2 : w.heap.size + 1 < w.heap.size + 3 := by omega
  have g3 : w.heap.size ≤ w.heap.size + 1 + 1 := by omega
  have g4 : w.heap.size ≤ w.heap.size + 1 := by omega
  have OWN := (((((((((((OW2.out.setLow g1 1 (Value.string s1)).setLow g1 2 (Value.bool x2)).setLow g1 3 (Value.slice ya3 yn3 yc3)).setLow g1 4 (Value.slice ya4 yn4 yc4)).setLow g1 5 (Value.slice ya5 yn5 yc5)).setLow g2 0 (Value.slice ya0 yn0 yc0)).setLow g2 1 (Value.string s1)).setLow g2 2 (Value.bool x2)).setLow g2 3 (Value.slice ya3 yn3 yc3)).setLow g2 4 (Value.slice ya4 yn4 yc4)).setLow g2 5 (Value.slice ya5 yn5 yc5))
  refine ⟨[D.row 57 4 (.slice ya0 yn0 yc0) yd0, D.str s1, D.bool x2, D.row yt3 1 (.slice ya3 yn3 yc3) yd3, D.row yt4 1 (.slice ya4 yn4 yc4) yd4, D.row yt5 5 (.slice ya5 yn5 yc5) yd5], rfl, ?_, ?_, (((((((((((B2.out.below.setCell g3 _).setCell g3 _).setCell g3 _).setCell g3 _).setCell g3 _).setCell g4 _).setCell g4 _).setCell g4 _).setCell g4 _).setCell g4 _).setCell g4 _)⟩
  · simp only [erases, erase, HE0.out, HE3.out, HE4.out, HE5.out]
  · refine ⟨?_, ?_, ?_⟩
    · have hg := OWN.good
      simp only [goods_iff, List.mem_append, List.mem_cons, List.not_mem_nil, or_false] at hg ⊢
      intro d hd
      rcases hd with rfl | rfl | rfl | rfl | rfl | rfl
      · exact hg _ (by simp)
      · have h := P1.out; rw [Holds] at h; rw [Good]; exact h
      · rw [Good]; trivial
      · exact hg _ (by simp)
      · exact hg _ (by simp)
      · exact hg _ (by simp)
    · have h := OWN.nd
      simp only [foots, foot, foots_append, List.append_nil, List.nil_append, List.append_assoc] at h ⊢
      exact h
    · have h := OWN.lo
      intro b hb
      refine Nat.le_trans (by omega) (h b ?_)
      simp only [foots, foot, foots_append, List.append_nil, List.nil_append, List.append_assoc] at hb ⊢
      exact hb

end Go.Proofs.Ytlmhgeanknhcfaa.Data
