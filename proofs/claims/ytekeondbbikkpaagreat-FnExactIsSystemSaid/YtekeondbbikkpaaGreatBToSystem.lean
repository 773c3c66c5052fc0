/-
  laws.toSystem and toSystemS: they copy into memory of their own.
-/
import Derived.Test.YtekeondbbikkpaaGreatBDataStr
import Derived.Test.YtekeondbbikkpaaGreatBToClassInfo
import Derived.Test.YtekeondbbikkpaaGreatBToCore
import Derived.Test.YtekeondbbikkpaaGreatBToRoutine
namespace Go.Proofs.YtekeondbbikkpaaGreat.Data
open Go.RowKit
open Strs Tree Texts
set_option linter.unusedSimpArgs false
set_option maxRecDepth 10000 in
set_option maxHeartbeats 4000000 in
theorem to_System (lo : Nat) (w : World) (ds : List D) (hw : weights (erases ds) ≤ 1048576) (hf : FitL (env 9) (erases ds)) (hh : Holdss lo w ds) :
    Calls Tryz.prog 6 #[agg ds] w fun r w' => ∃ es, r = .returned (agg es) ∧ erases es = erases ds ∧ Own w.heap.size w' es ∧ Below w.heap.size w w' := by
  obtain ⟨t0, v0, d0, e0, rfl, f0, hf_0⟩ := fitL_row (k := 3) rfl hf
  clear hf
  obtain ⟨t1, v1, d1, e1, rfl, f1, hf_1⟩ := fitL_row (k := 10) rfl hf_0
  clear hf_0
  obtain ⟨s2, e2, rfl, hf_2⟩ := fitL_str hf_1
  clear hf_1
  obtain ⟨n3, e3, rfl, hf_3⟩ := fitL_int hf_2
  clear hf_2
  obtain ⟨x4, e4, rfl, hf_4⟩ := fitL_bool hf_3
  clear hf_3
  obtain ⟨n5, e5, rfl, hf_5⟩ := fitL_int hf_4
  clear hf_4
  obtain ⟨n6, e6, rfl, hf_6⟩ := fitL_int hf_5
  clear hf_5
  obtain ⟨n7, e7, rfl, hf_7⟩ := fitL_int hf_6
  clear hf_6
  obtain ⟨s8, e8, rfl, hf_8⟩ := fitL_str hf_7
  clear hf_7
  obtain ⟨n9, e9, rfl, hf_9⟩ := fitL_int hf_8
  clear hf_8
  obtain ⟨n10, e10, rfl, hf_10⟩ := fitL_int hf_9
  clear hf_9
  obtain ⟨t11, v11, d11, e11, rfl, f11, hf_11⟩ := fitL_row (k := 5) rfl hf_10
  clear hf_10
  obtain rfl := fitL_nil hf_11
  clear hf_11
  simp only [Holdss, and_true] at hh
  obtain ⟨h0, h1, h2, h3, h4, h5, h6, h7, h8, h9, h10, h11⟩ := hh
  have hw0 : weight (.row 3 (erases d0)) ≤ 1048576 := by simp only [erases, erase, weights] at hw; omega
  have hw1 : weight (.row 10 (erases d1)) ≤ 1048576 := by simp only [erases, erase, weights] at hw; omega
  have hw2 : weights (erases [D.str s2, D.int n3, D.bool x4, D.int n5, D.int n6, D.int n7, D.str s8, D.int n9, D.int n10, D.row t11 5 v11 d11]) ≤ 1048576 := by simp only [erases, erase, weights] at hw ⊢; omega
  have K0 := fun (w' : World) (hb : Below w.heap.size w w') => Lib.hid (toS_ClassInfo lo t0 w' v0 d0 hw0 f0 (h0.below hb))
  have K1 := fun (w' : World) (hb : Below w.heap.size w w') => Lib.hid (toS_Routine lo t1 w' v1 d1 hw1 f1 (h1.below hb))
  have K2 := fun (w' : World) (hb : Below w.heap.size w w') => Lib.hid (to_Routine lo w' [D.str s2, D.int n3, D.bool x4, D.int n5, D.int n6, D.int n7, D.str s8, D.int n9, D.int n10, D.row t11 5 v11 d11] hw2 (FitL.cons _ _ _ _ (Fit.str _) (FitL.cons _ _ _ _ (Fit.int _) (FitL.cons _ _ _ _ (Fit.bool _) (FitL.cons _ _ _ _ (Fit.int _) (FitL.cons _ _ _ _ (Fit.int _) (FitL.cons _ _ _ _ (Fit.int _) (FitL.cons _ _ _ _ (Fit.str _) (FitL.cons _ _ _ _ (Fit.int _) (FitL.cons _ _ _ _ (Fit.int _) (FitL.cons _ _ _ _ (Fit.row _ _ _ rfl f11) FitL.nil)))))))))) (Holdss.below ⟨h2, h3, h4, h5, h6, h7, h8, h9, h10, h11, trivial⟩ hb))
  have FN2 : Hid (FitL (env 8) (erases [D.str s2, D.int n3, D.bool x4, D.int n5, D.int n6, D.int n7, D.str s8, D.int n9, D.int n10, D.row t11 5 v11 d11])) := Lib.hid (FitL.cons _ _ _ _ (Fit.str _) (FitL.cons _ _ _ _ (Fit.int _) (FitL.cons _ _ _ _ (Fit.bool _) (FitL.cons _ _ _ _ (Fit.int _) (FitL.cons _ _ _ _ (Fit.int _) (FitL.cons _ _ _ _ (Fit.int _) (FitL.cons _ _ _ _ (Fit.str _) (FitL.cons _ _ _ _ (Fit.int _) (FitL.cons _ _ _ _ (Fit.int _) (FitL.cons _ _ _ _ (Fit.row _ _ _ rfl f11) FitL.nil))))))))))
  have P2 := Lib.hid h2
  have P3 := Lib.hid h3
  have P4 := Lib.hid h4
  have P5 := Lib.hid h5
  have P6 := Lib.hid h6
  have P7 := Lib.hid h7
  have P8 := Lib.hid h8
  have P9 := Lib.hid h9
  have P10 := Lib.hid h10
  clear hw h0 h1 h2 h3 h4 h5 h6 h7 h8 h9 h10 h11 hw0 hw1 hw2 f0 f1 f11
  have B0 : Hid (Box w [D.row t0 3 v0 d0, D.row t1 10 v1 d1, D.str s2, D.int n3, D.bool x4, D.int n5, D.int n6, D.int n7, D.str s8, D.int n9, D.int n10, D.row t11 5 v11 d11] [D.row 0 3 (.slice none 0 0) [], D.row 0 10 (.slice none 0 0) [], D.str ⟨#[]⟩, D.int 0, D.bool false, D.int 0, D.int 0, D.int 0, D.str ⟨#[]⟩, D.int 0, D.int 0, D.row 0 5 (.slice none 0 0) []] [D.row 0 3 (.slice none 0 0) [], D.row 0 10 (.slice none 0 0) [], D.str ⟨#[]⟩, D.int 0, D.bool false, D.int 0, D.int 0, D.int 0, D.str ⟨#[]⟩, D.int 0, D.int 0, D.row 0 5 (.slice none 0 0) []] (((w.alloc (Obj.cells #[v0, v1, Value.string s2, Value.int .i64 n3, Value.bool x4, Value.int .i64 n5, Value.int .i64 n6, Value.int .i64 n7, Value.string s8, Value.int .i64 n9, Value.int .i64 n10, v11] 30)).alloc (Obj.cells #[Value.slice none 0 0, Value.slice none 0 0, Value.string { data := #[] }, Value.int .i64 0, Value.bool false, Value.int .i64 0, Value.int .i64 0, Value.int .i64 0, Value.string { data := #[] }, Value.int .i64 0, Value.int .i64 0, Value.slice none 0 0] 41)).alloc (Obj.cells #[Value.slice none 0 0, Value.slice none 0 0, Value.string { data := #[] }, Value.int .i64 0, Value.bool false, Value.int .i64 0, Value.int .i64 0, Value.int .i64 0, Value.string { data := #[] }, Value.int .i64 0, Value.int .i64 0, Value.slice none 0 0] 41))) := Lib.hid (box_new w [D.row t0 3 v0 d0, D.row t1 10 v1 d1, D.str s2, D.int n3, D.bool x4, D.int n5, D.int n6, D.int n7, D.str s8, D.int n9, D.int n10, D.row t11 5 v11 d11] [D.row 0 3 (.slice none 0 0) [], D.row 0 10 (.slice none 0 0) [], D.str ⟨#[]⟩, D.int 0, D.bool false, D.int 0, D.int 0, D.int 0, D.str ⟨#[]⟩, D.int 0, D.int 0, D.row 0 5 (.slice none 0 0) []] [D.row 0 3 (.slice none 0 0) [], D.row 0 10 (.slice none 0 0) [], D.str ⟨#[]⟩, D.int 0, D.bool false, D.int 0, D.int 0, D.int 0, D.str ⟨#[]⟩, D.int 0, D.int 0, D.row 0 5 (.slice none 0 0) []] _ _ _)
  rw [show agg [D.row t0 3 v0 d0, D.row t1 10 v1 d1, D.str s2, D.int n3, D.bool x4, D.int n5, D.int n6, D.int n7, D.str s8, D.int n9, D.int n10, D.row t11 5 v11 d11] = Value.agg #[v0, v1, Value.string s2, Value.int .i64 n3, Value.bool x4, Value.int .i64 n5, Value.int .i64 n6, Value.int .i64 n7, Value.string s8, Value.int .i64 n9, Value.int .i64 n10, v11] from rfl]
  go_enter Tryz.func6, Tryz.ntmps6
  have a0 := B0.out.a.at 0 (D.row t0 3 v0 d0) rfl
  simp only [val] at a0
  go_wp2_with fail
  refine (K0 _ B0.out.below).out.mono ?_
  rintro e w1 ⟨ya0, yn0, yc0, yd0, rfl, he0, hr0, hb1⟩
  have HE0 := Lib.hid he0
  clear he0
  have on1 := row_iff.2 hr0
  have OW1 := Lib.hid (on1.mono (base' := w.heap.size + 3) B0.out.size)
  have B1 := Lib.hid (B0.out.step hb1)
  clear hb1 on1 K0 B0 a0 hr0
  have fc := B1.out.fc
  have c0 := B1.out.c.at 0 (D.row 0 3 (.slice none 0 0) []) rfl
  simp only [val] at c0
  have B1s := Lib.hid (B1.out.set 0 (D.row 76 3 (.slice ya0 yn0 yc0) yd0) (by simp))
  have OW1s := Lib.hid (OW1.out.setLow (g := w.heap.size + 1 + 1) (by omega) 0 (Value.slice ya0 yn0 yc0))
  clear B1 OW1
  have a1 := B1s.out.a.at 1 (D.row t1 10 v1 d1) rfl
  simp only [val] at a1
  go_wp2_with fail
  refine (K1 _ B1s.out.below).out.mono ?_
  rintro e w2 ⟨ya1, yn1, yc1, yd1, rfl, he1, hr1, hb2⟩
  have HE1 := Lib.hid he1
  clear he1
  have on2 := row_iff.2 hr1
  have OW2 := Lib.hid (OW1s.out.snoc hb2 (on2.mono (Nat.le_refl _)) B1s.out.size)
  have B2 := Lib.hid (B1s.out.step hb2)
  clear hb2 on2 K1 B1s fc c0 a1 hr1 OW1s
  have fc := B2.out.fc
  have c1 := B2.out.c.at 1 (D.row 0 10 (.slice none 0 0) []) rfl
  simp only [val] at c1
  have B2s := Lib.hid (B2.out.set 1 (D.row 39 10 (.slice ya1 yn1 yc1) yd1) (by simp))
  have OW2s := Lib.hid (OW2.out.setLow (g := w.heap.size + 1 + 1) (by omega) 1 (Value.slice ya1 yn1 yc1))
  clear B2 OW2
  have a2 := B2s.out.a.at 2 (D.str s2) rfl
  simp only [val] at a2
  have a3 := B2s.out.a.at 3 (D.int n3) rfl
  simp only [val] at a3
  have a4 := B2s.out.a.at 4 (D.bool x4) rfl
  simp only [val] at a4
  have a5 := B2s.out.a.at 5 (D.int n5) rfl
  simp only [val] at a5
  have a6 := B2s.out.a.at 6 (D.int n6) rfl
  simp only [val] at a6
  have a7 := B2s.out.a.at 7 (D.int n7) rfl
  simp only [val] at a7
  have a8 := B2s.out.a.at 8 (D.str s8) rfl
  simp only [val] at a8
  have a9 := B2s.out.a.at 9 (D.int n9) rfl
  simp only [val] at a9
  have a10 := B2s.out.a.at 10 (D.int n10) rfl
  simp only [val] at a10
  have a11 := B2s.out.a.at 11 (D.row t11 5 v11 d11) rfl
  simp only [val] at a11
  go_wp2_with fail
  refine (K2 _ B2s.out.below).out.mono ?_
  rintro e w3 ⟨es, rfl, he, on3, hb3⟩
  have hg : FitL (env 8) (erases es) := he ▸ FN2.out
  obtain ⟨ys2, ye2, rfl, hg_2⟩ := fitL_str hg
  clear hg
  obtain ⟨yn3, ye3, rfl, hg_3⟩ := fitL_int hg_2
  clear hg_2
  obtain ⟨yx4, ye4, rfl, hg_4⟩ := fitL_bool hg_3
  clear hg_3
  obtain ⟨yn5, ye5, rfl, hg_5⟩ := fitL_int hg_4
  clear hg_4
  obtain ⟨yn6, ye6, rfl, hg_6⟩ := fitL_int hg_5
  clear hg_5
  obtain ⟨yn7, ye7, rfl, hg_7⟩ := fitL_int hg_6
  clear hg_6
  obtain ⟨ys8, ye8, rfl, hg_8⟩ := fitL_str hg_7
  clear hg_7
  obtain ⟨yn9, ye9, rfl, hg_9⟩ := fitL_int hg_8
  clear hg_8
  obtain ⟨yn10, ye10, rfl, hg_10⟩ := fitL_int hg_9
  clear hg_9
  obtain ⟨yt11, yv11, yd11, ye11, rfl, yf11, hg_11⟩ := fitL_row (k := 5) rfl hg_10
  clear hg_10
  obtain rfl := fitL_nil hg_11
  clear hg_11
  replace he := he.symm
  simp only [erases, erase, List.cons.injEq, P.int.injEq, P.str.injEq, P.bool.injEq, P.row.injEq, true_and,  and_true] at he
  obtain ⟨rfl, rfl, rfl, rfl, rfl, rfl, rfl, rfl, rfl, g11⟩ := he
  obtain ⟨ya11, yn11, yc11, rfl⟩ := row_slice (goods_iff.1 on3.good (D.row yt11 5 yv11 yd11) (by simp))
  have HE11 := Lib.hid g11.symm
  clear g11 yf11
  rw [show agg [D.str s2, D.int n3, D.bool x4, D.int n5, D.int n6, D.int n7, D.str s8, D.int n9, D.int n10, D.row yt11 5 (.slice ya11 yn11 yc11) yd11] = Value.agg #[Value.string s2, Value.int .i64 n3, Value.bool x4, Value.int .i64 n5, Value.int .i64 n6, Value.int .i64 n7, Value.string s8, Value.int .i64 n9, Value.int .i64 n10, Value.slice ya11 yn11 yc11] from rfl]
  have OW3 := Lib.hid (OW2s.out.snoc hb3 (on3.mono (Nat.le_refl _)) B2s.out.size)
  have B3 := Lib.hid (B2s.out.step hb3)
  clear hb3 on3 K2 B2s fc c1 a2 a3 a4 a5 a6 a7 a8 a9 a10 a11 OW2s
  have b0 := B3.out.b.at 0 (D.row 0 3 (.slice none 0 0) []) rfl
  have c0 := B3.out.c.at 0 (D.row 76 3 (.slice ya0 yn0 yc0) yd0) rfl
  simp only [val] at b0 c0
  have b1 := B3.out.b.at 1 (D.row 0 10 (.slice none 0 0) []) rfl
  have c1 := B3.out.c.at 1 (D.row 39 10 (.slice ya1 yn1 yc1) yd1) rfl
  simp only [val] at b1 c1
  have b2 := B3.out.b.at 2 (D.str ⟨#[]⟩) rfl
  have c2 := B3.out.c.at 2 (D.str ⟨#[]⟩) rfl
  simp only [val] at b2 c2
  have b3 := B3.out.b.at 3 (D.int 0) rfl
  have c3 := B3.out.c.at 3 (D.int 0) rfl
  simp only [val] at b3 c3
  have b4 := B3.out.b.at 4 (D.bool false) rfl
  have c4 := B3.out.c.at 4 (D.bool false) rfl
  simp only [val] at b4 c4
  have b5 := B3.out.b.at 5 (D.int 0) rfl
  have c5 := B3.out.c.at 5 (D.int 0) rfl
  simp only [val] at b5 c5
  have b6 := B3.out.b.at 6 (D.int 0) rfl
  have c6 := B3.out.c.at 6 (D.int 0) rfl
  simp only [val] at b6 c6
  have b7 := B3.out.b.at 7 (D.int 0) rfl
  have c7 := B3.out.c.at 7 (D.int 0) rfl
  simp only [val] at b7 c7
  have b8 := B3.out.b.at 8 (D.str ⟨#[]⟩) rfl
  have c8 := B3.out.c.at 8 (D.str ⟨#[]⟩) rfl
  simp only [val] at b8 c8
  have b9 := B3.out.b.at 9 (D.int 0) rfl
  have c9 := B3.out.c.at 9 (D.int 0) rfl
  simp only [val] at b9 c9
  have b10 := B3.out.b.at 10 (D.int 0) rfl
  have c10 := B3.out.c.at 10 (D.int 0) rfl
  simp only [val] at b10 c10
  have b11 := B3.out.b.at 11 (D.row 0 5 (.slice none 0 0) []) rfl
  have c11 := B3.out.c.at 11 (D.row 0 5 (.slice none 0 0) []) rfl
  simp only [val] at b11 c11
  have a2 := B3.out.a.at 2 (D.str s2) rfl
  simp only [val] at a2
  have a3 := B3.out.a.at 3 (D.int n3) rfl
  simp only [val] at a3
  have a4 := B3.out.a.at 4 (D.bool x4) rfl
  simp only [val] at a4
  have a5 := B3.out.a.at 5 (D.int n5) rfl
  simp only [val] at a5
  have a6 := B3.out.a.at 6 (D.int n6) rfl
  simp only [val] at a6
  have a7 := B3.out.a.at 7 (D.int n7) rfl
  simp only [val] at a7
  have a8 := B3.out.a.at 8 (D.str s8) rfl
  simp only [val] at a8
  have a9 := B3.out.a.at 9 (D.int n9) rfl
  simp only [val] at a9
  have a10 := B3.out.a.at 10 (D.int n10) rfl
  simp only [val] at a10
  have fb := B3.out.fb
  have fc := B3.out.fc
  go_wp2_with fail
  refine bodyPost_ret (v := .agg #[Value.slice ya0 yn0 yc0, Value.slice ya1 yn1 yc1, Value.string s2, Value.int .i64 n3, Value.bool x4, Value.int .i64 n5, Value.int .i64 n6, Value.int .i64 n7, Value.string s8, Value.int .i64 n9, Value.int .i64 n10, Value.slice ya11 yn11 yc11]) (by simp [results, Tryz.results6, go_sem, *]) rfl ?_
  have g1 : w.heap.size + 1 + 1 < w.heap.size + 3 := by omega
  have g2 : w.heap.size + 1 < w.heap.size + 3 := by omega
  have g3 : w.heap.size ≤ w.heap.size + 1 + 1 := by omega
  have g4 : w.heap.size ≤ w.heap.size + 1 := by omega
  have OWN := ((((((((((((((((((((((OW3.out.setLow g1 2 (Value.string s2)).setLow g1 3 (Value.int .i64 n3)).setLow g1 4 (Value.bool x4)).setLow g1 5 (Value.int .i64 n5)).setLow g1 6 (Value.int .i64 n6)).setLow g1 7 (Value.int .i64 n7)).setLow g1 8 (Value.string s8)).setLow g1 9 (Value.int .i64 n9)).setLow g1 10 (Value.int .i64 n10)).setLow g1 11 (Value.slice ya11 yn11 yc11)).setLow g2 0 (Value.slice ya0 yn0 yc0)).setLow g2 1 (Value.slice ya1 yn1 yc1)).setLow g2 2 (Value.string s2)).setLow g2 3 (Value.int .i64 n3)).setLow g2 4 (Value.bool x4)).setLow g2 5 (Value.int .i64 n5)).setLow g2 6 (Value.int .i64 n6)).setLow g2 7 (Value.int .i64 n7)).setLow g2 8 (Value.string s8)).setLow g2 9 (Value.int .i64 n9)).setLow g2 10 (Value.int .i64 n10)).setLow g2 11 (Value.slice ya11 yn11 yc11))
  refine ⟨[D.row 76 3 (.slice ya0 yn0 yc0) yd0, D.row 39 10 (.slice ya1 yn1 yc1) yd1, D.str s2, D.int n3, D.bool x4, D.int n5, D.int n6, D.int n7, D.str s8, D.int n9, D.int n10, D.row yt11 5 (.slice ya11 yn11 yc11) yd11], rfl, ?_, ?_, ((((((((((((((((((((((B3.out.below.setCell g3 _).setCell g3 _).setCell g3 _).setCell g3 _).setCell g3 _).setCell g3 _).setCell g3 _).setCell g3 _).setCell g3 _).setCell g3 _).setCell g4 _).setCell g4 _).setCell g4 _).setCell g4 _).setCell g4 _).setCell g4 _).setCell g4 _).setCell g4 _).setCell g4 _).setCell g4 _).setCell g4 _).setCell g4 _)⟩
  · simp only [erases, erase, HE0.out, HE1.out, HE11.out]
  · refine ⟨?_, ?_, ?_⟩
    · have hg := OWN.good
      simp only [goods_iff, List.mem_append, List.mem_cons, List.not_mem_nil, or_false] at hg ⊢
      intro d hd
      rcases hd with rfl | rfl | rfl | rfl | rfl | rfl | rfl | rfl | rfl | rfl | rfl | rfl
      · exact hg _ (by simp)
      · exact hg _ (by simp)
      · have h := P2.out; rw [Holds] at h; rw [Good]; exact h
      · have h := P3.out; rw [Holds] at h; rw [Good]; exact h
      · rw [Good]; trivial
      · have h := P5.out; rw [Holds] at h; rw [Good]; exact h
      · have h := P6.out; rw [Holds] at h; rw [Good]; exact h
      · have h := P7.out; rw [Holds] at h; rw [Good]; exact h
      · have h := P8.out; rw [Holds] at h; rw [Good]; exact h
      · have h := P9.out; rw [Holds] at h; rw [Good]; exact h
      · have h := P10.out; rw [Holds] at h; rw [Good]; exact h
      · exact hg _ (by simp)
    · have h := OWN.nd
      simp only [foots, foot, foots_append, List.append_nil, List.nil_append, List.append_assoc] at h ⊢
      exact h
    · have h := OWN.lo
      intro b hb
      refine Nat.le_trans (by omega) (h b ?_)
      simp only [foots, foot, foots_append, List.append_nil, List.nil_append, List.append_assoc] at hb ⊢
      exact hb
end Go.Proofs.YtekeondbbikkpaaGreat.Data
