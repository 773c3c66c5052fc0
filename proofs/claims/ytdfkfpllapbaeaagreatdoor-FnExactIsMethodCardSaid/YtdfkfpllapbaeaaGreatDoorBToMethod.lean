/-
  laws.toMethod and toMethodS: they copy into memory of their own.
-/
import Derived.Test.YtdfkfpllapbaeaaGreatDoorBDataBox
import Derived.Test.YtdfkfpllapbaeaaGreatDoorBDataStr
import Derived.Test.YtdfkfpllapbaeaaGreatDoorBToExpr
namespace Go.Proofs.YtdfkfpllapbaeaaGreatDoor.Data
open Go.RowKit
open Strs Tree Texts
set_option maxRecDepth 10000 in
set_option maxHeartbeats 4000000 in
theorem to_Method (lo : Nat) (w : World) (ds : List D) (hw : weights (erases ds) ≤ 1048576) (hf : FitL (env 3) (erases ds)) (hh : Holdss lo w ds) :
    Calls Tryz.prog 6 #[agg ds] w fun r w' => ∃ es, r = .returned (agg es) ∧ erases es = erases ds ∧ Own w.heap.size w' es ∧ Below w.heap.size w w' := by
  obtain ⟨s0, e0, rfl, hf_0⟩ := fitL_str hf
  clear hf
  obtain ⟨x1, e1, rfl, hf_1⟩ := fitL_bool hf_0
  clear hf_0
  obtain ⟨t2, v2, d2, e2, rfl, f2, hf_2⟩ := fitL_row (k := 1) rfl hf_1
  clear hf_1
  obtain ⟨t3, v3, d3, e3, rfl, f3, hf_3⟩ := fitL_row (k := 1) rfl hf_2
  clear hf_2
  obtain ⟨t4, v4, d4, e4, rfl, f4, hf_4⟩ := fitL_row (k := 5) rfl hf_3
  clear hf_3
  obtain rfl := fitL_nil hf_4
  clear hf_4
  simp only [Holdss, and_true] at hh
  obtain ⟨h0, h1, h2, h3, h4⟩ := hh
  have hw2 : weight (.row 1 (erases d2)) ≤ 1048576 := by simp only [erases, erase, weights] at hw; omega
  have hw3 : weight (.row 1 (erases d3)) ≤ 1048576 := by simp only [erases, erase, weights] at hw; omega
  have hw4 : weight (.row 5 (erases d4)) ≤ 1048576 := by simp only [erases, erase, weights] at hw; omega
  have K2 := fun (w' : World) (hb : Below w.heap.size w w') => Lib.hid (toS_String lo t2 w' v2 d2 hw2 f2 (h2.below hb))
  have K3 := fun (w' : World) (hb : Below w.heap.size w w') => Lib.hid (toS_String lo t3 w' v3 d3 hw3 f3 (h3.below hb))
  have K4 := fun (w' : World) (hb : Below w.heap.size w w') => Lib.hid (toS_Expr lo t4 w' v4 d4 hw4 f4 (h4.below hb))
  skip
  have P0 := Lib.hid h0
  have P1 := Lib.hid h1
  clear hw h0 h1 h2 h3 h4 hw2 hw3 hw4 f2 f3 f4
  have B0 : Hid (Box w [D.str s0, D.bool x1, D.row t2 1 v2 d2, D.row t3 1 v3 d3, D.row t4 5 v4 d4] [D.str ⟨#[]⟩, D.bool false, D.row 0 1 (.slice none 0 0) [], D.row 0 1 (.slice none 0 0) [], D.row 0 5 (.slice none 0 0) []] [D.str s0, D.bool x1, D.row 0 1 (.slice none 0 0) [], D.row 0 1 (.slice none 0 0) [], D.row 0 5 (.slice none 0 0) []] (((w.alloc (Obj.cells #[Value.string s0, Value.bool x1, v2, v3, v4] 25)).alloc (Obj.cells #[Value.string { data := #[] }, Value.bool false, Value.slice none 0 0, Value.slice none 0 0, Value.slice none 0 0] 30)).alloc (Obj.cells #[Value.string s0, Value.bool x1, Value.slice none 0 0, Value.slice none 0 0, Value.slice none 0 0] 30))) := Lib.hid (box_new w [D.str s0, D.bool x1, D.row t2 1 v2 d2, D.row t3 1 v3 d3, D.row t4 5 v4 d4] [D.str ⟨#[]⟩, D.bool false, D.row 0 1 (.slice none 0 0) [], D.row 0 1 (.slice none 0 0) [], D.row 0 5 (.slice none 0 0) []] [D.str s0, D.bool x1, D.row 0 1 (.slice none 0 0) [], D.row 0 1 (.slice none 0 0) [], D.row 0 5 (.slice none 0 0) []] _ _ _)
  rw [show agg [D.str s0, D.bool x1, D.row t2 1 v2 d2, D.row t3 1 v3 d3, D.row t4 5 v4 d4] = Value.agg #[Value.string s0, Value.bool x1, v2, v3, v4] from rfl]
  go_enter Tryz.func6, Tryz.ntmps6
  have a2 := B0.out.a.at 2 (D.row t2 1 v2 d2) rfl
  simp only [val] at a2
  go_wp2_with fail
  refine (K2 _ B0.out.below).out.mono ?_
  rintro e w1 ⟨ya2, yn2, yc2, yd2, rfl, he2, hr2, hb1⟩
  have HE2 := Lib.hid he2
  clear he2
  have on1 := row_iff.2 hr2
  have OW1 := Lib.hid (on1.mono (base' := w.heap.size + 3) B0.out.size)
  have B1 := Lib.hid (B0.out.step hb1)
  clear hb1 on1 K2 B0 a2 hr2
  have fc := B1.out.fc
  have c2 := B1.out.c.at 2 (D.row 0 1 (.slice none 0 0) []) rfl
  simp only [val] at c2
  have B1s := Lib.hid (B1.out.set 2 (D.row 9 1 (.slice ya2 yn2 yc2) yd2) (by simp))
  have OW1s := Lib.hid (OW1.out.setLow (g := w.heap.size + 1 + 1) (by omega) 2 (Value.slice ya2 yn2 yc2))
  clear B1 OW1
  have a3 := B1s.out.a.at 3 (D.row t3 1 v3 d3) rfl
  simp only [val] at a3
  go_wp2_with fail
  refine (K3 _ B1s.out.below).out.mono ?_
  rintro e w2 ⟨ya3, yn3, yc3, yd3, rfl, he3, hr3, hb2⟩
  have HE3 := Lib.hid he3
  clear he3
  have on2 := row_iff.2 hr3
  have OW2 := Lib.hid (OW1s.out.snoc hb2 (on2.mono (Nat.le_refl _)) B1s.out.size)
  have B2 := Lib.hid (B1s.out.step hb2)
  clear hb2 on2 K3 B1s fc c2 a3 hr3 OW1s
  have fc := B2.out.fc
  have c3 := B2.out.c.at 3 (D.row 0 1 (.slice none 0 0) []) rfl
  simp only [val] at c3
  have B2s := Lib.hid (B2.out.set 3 (D.row 9 1 (.slice ya3 yn3 yc3) yd3) (by simp))
  have OW2s := Lib.hid (OW2.out.setLow (g := w.heap.size + 1 + 1) (by omega) 3 (Value.slice ya3 yn3 yc3))
  clear B2 OW2
  have a4 := B2s.out.a.at 4 (D.row t4 5 v4 d4) rfl
  simp only [val] at a4
  go_wp2_with fail
  refine (K4 _ B2s.out.below).out.mono ?_
  rintro e w3 ⟨ya4, yn4, yc4, yd4, rfl, he4, hr4, hb3⟩
  have HE4 := Lib.hid he4
  clear he4
  have on3 := row_iff.2 hr4
  have OW3 := Lib.hid (OW2s.out.snoc hb3 (on3.mono (Nat.le_refl _)) B2s.out.size)
  have B3 := Lib.hid (B2s.out.step hb3)
  clear hb3 on3 K4 B2s fc c3 a4 hr4 OW2s
  have b0 := B3.out.b.at 0 (D.str ⟨#[]⟩) rfl
  have c0 := B3.out.c.at 0 (D.str s0) rfl
  simp only [val] at b0 c0
  have b1 := B3.out.b.at 1 (D.bool false) rfl
  have c1 := B3.out.c.at 1 (D.bool x1) rfl
  simp only [val] at b1 c1
  have b2 := B3.out.b.at 2 (D.row 0 1 (.slice none 0 0) []) rfl
  have c2 := B3.out.c.at 2 (D.row 9 1 (.slice ya2 yn2 yc2) yd2) rfl
  simp only [val] at b2 c2
  have b3 := B3.out.b.at 3 (D.row 0 1 (.slice none 0 0) []) rfl
  have c3 := B3.out.c.at 3 (D.row 9 1 (.slice ya3 yn3 yc3) yd3) rfl
  simp only [val] at b3 c3
  have b4 := B3.out.b.at 4 (D.row 0 5 (.slice none 0 0) []) rfl
  have c4 := B3.out.c.at 4 (D.row 0 5 (.slice none 0 0) []) rfl
  simp only [val] at b4 c4
  have fb := B3.out.fb
  have fc := B3.out.fc
  go_wp2_with fail
  refine bodyPost_ret (v := .agg #[Value.string s0, Value.bool x1, Value.slice ya2 yn2 yc2, Value.slice ya3 yn3 yc3, Value.slice ya4 yn4 yc4]) (by simp [results, Tryz.results6, go_sem, *]) rfl ?_
  have g1 : w.heap.size + 1 + 1 < w.heap.size + 3 := by omega
  have g2 : w.heap.size + 1 < w.heap.size + 3 := by omega
  have g3 : w.heap.size ≤ w.heap.size + 1 + 1 := by omega
  have g4 : w.heap.size ≤ w.heap.size + 1 := by omega
  have OWN := ((((((OW3.out.setLow g1 4 (Value.slice ya4 yn4 yc4)).setLow g2 0 (Value.string s0)).setLow g2 1 (Value.bool x1)).setLow g2 2 (Value.slice ya2 yn2 yc2)).setLow g2 3 (Value.slice ya3 yn3 yc3)).setLow g2 4 (Value.slice ya4 yn4 yc4))
  refine ⟨[D.str s0, D.bool x1, D.row 9 1 (.slice ya2 yn2 yc2) yd2, D.row 9 1 (.slice ya3 yn3 yc3) yd3, D.row 50 5 (.slice ya4 yn4 yc4) yd4], rfl, ?_, ?_, ((((((B3.out.below.setCell g3 _).setCell g4 _).setCell g4 _).setCell g4 _).setCell g4 _).setCell g4 _)⟩
  · simp only [erases, erase, HE2.out, HE3.out, HE4.out]
  · refine ⟨?_, ?_, ?_⟩
    · have hg := OWN.good
      simp only [goods_iff, List.mem_append, List.mem_cons, List.not_mem_nil, or_false] at hg ⊢
      intro d hd
      rcases hd with rfl | rfl | rfl | rfl | rfl
      · have h := P0.out; rw [Holds] at h; rw [Good]; exact h
      · rw [Good]; trivial
      · exact hg _ (by simp)
      · exact hg _ (by simp)
      · exact hg _ (by simp)
    · have h := OWN.nd
      simp only [foots, foot, foots_append, List.append_nil, List.nil_append, List.append_assoc] at h ⊢
      exact h
    · have h := OWN.lo
      intro b hb
      refine Nat.le_trans (by omega) (h b ?_)
      simp only [foots, foot, foots_append, List.append_nil, List.nil_append, List.append_assoc] at hb ⊢
      exact hb
end Go.Proofs.YtdfkfpllapbaeaaGreatDoor.Data
