/-
  laws.toRoutine and toRoutineS: they copy into memory of their own.
-/
import Derived.Test.YtekeondbbikkpaaGreatBDataStr
import Derived.Test.YtekeondbbikkpaaGreatBToClassInfo
import Derived.Test.YtekeondbbikkpaaGreatBToCore
namespace Go.Proofs.YtekeondbbikkpaaGreat.Data
open Go.RowKit
open Strs Tree Texts
set_option linter.unusedSimpArgs false
set_option maxRecDepth 10000 in
set_option maxHeartbeats 4000000 in
theorem to_Routine (lo : Nat) (w : World) (ds : List D) (hw : weights (erases ds) ≤ 1048576) (hf : FitL (env 8) (erases ds)) (hh : Holdss lo w ds) :
    Calls Tryz.prog 19 #[agg ds] w fun r w' => ∃ es, r = .returned (agg es) ∧ erases es = erases ds ∧ Own w.heap.size w' es ∧ Below w.heap.size w w' := by
  obtain ⟨s0, e0, rfl, hf_0⟩ := fitL_str hf
  clear hf
  obtain ⟨n1, e1, rfl, hf_1⟩ := fitL_int hf_0
  clear hf_0
  obtain ⟨x2, e2, rfl, hf_2⟩ := fitL_bool hf_1
  clear hf_1
  obtain ⟨n3, e3, rfl, hf_3⟩ := fitL_int hf_2
  clear hf_2
  obtain ⟨n4, e4, rfl, hf_4⟩ := fitL_int hf_3
  clear hf_3
  obtain ⟨n5, e5, rfl, hf_5⟩ := fitL_int hf_4
  clear hf_4
  obtain ⟨s6, e6, rfl, hf_6⟩ := fitL_str hf_5
  clear hf_5
  obtain ⟨n7, e7, rfl, hf_7⟩ := fitL_int hf_6
  clear hf_6
  obtain ⟨n8, e8, rfl, hf_8⟩ := fitL_int hf_7
  clear hf_7
  obtain ⟨t9, v9, d9, e9, rfl, f9, hf_9⟩ := fitL_row (k := 5) rfl hf_8
  clear hf_8
  obtain rfl := fitL_nil hf_9
  clear hf_9
  simp only [Holdss, and_true] at hh
  obtain ⟨h0, h1, h2, h3, h4, h5, h6, h7, h8, h9⟩ := hh
  have hw5 : weights (erases [D.int n5, D.str s6, D.int n7, D.int n8, D.row t9 5 v9 d9]) ≤ 1048576 := by simp only [erases, erase, weights] at hw ⊢; omega
  have K5 := fun (w' : World) (hb : Below w.heap.size w w') => Lib.hid (to_Core lo w' [D.int n5, D.str s6, D.int n7, D.int n8, D.row t9 5 v9 d9] hw5 (FitL.cons _ _ _ _ (Fit.int _) (FitL.cons _ _ _ _ (Fit.str _) (FitL.cons _ _ _ _ (Fit.int _) (FitL.cons _ _ _ _ (Fit.int _) (FitL.cons _ _ _ _ (Fit.row _ _ _ rfl f9) FitL.nil))))) (Holdss.below ⟨h5, h6, h7, h8, h9, trivial⟩ hb))
  have FN5 : Hid (FitL (env 7) (erases [D.int n5, D.str s6, D.int n7, D.int n8, D.row t9 5 v9 d9])) := Lib.hid (FitL.cons _ _ _ _ (Fit.int _) (FitL.cons _ _ _ _ (Fit.str _) (FitL.cons _ _ _ _ (Fit.int _) (FitL.cons _ _ _ _ (Fit.int _) (FitL.cons _ _ _ _ (Fit.row _ _ _ rfl f9) FitL.nil)))))
  have P0 := Lib.hid h0
  have P1 := Lib.hid h1
  have P2 := Lib.hid h2
  have P3 := Lib.hid h3
  have P4 := Lib.hid h4
  have P5 := Lib.hid h5
  have P6 := Lib.hid h6
  have P7 := Lib.hid h7
  have P8 := Lib.hid h8
  clear hw h0 h1 h2 h3 h4 h5 h6 h7 h8 h9 hw5 f9
  have B0 : Hid (Box w [D.str s0, D.int n1, D.bool x2, D.int n3, D.int n4, D.int n5, D.str s6, D.int n7, D.int n8, D.row t9 5 v9 d9] [D.str ⟨#[]⟩, D.int 0, D.bool false, D.int 0, D.int 0, D.int 0, D.str ⟨#[]⟩, D.int 0, D.int 0, D.row 0 5 (.slice none 0 0) []] [D.str s0, D.int n1, D.bool x2, D.int n3, D.int n4, D.int 0, D.str ⟨#[]⟩, D.int 0, D.int 0, D.row 0 5 (.slice none 0 0) []] (((w.alloc (Obj.cells #[Value.string s0, Value.int .i64 n1, Value.bool x2, Value.int .i64 n3, Value.int .i64 n4, Value.int .i64 n5, Value.string s6, Value.int .i64 n7, Value.int .i64 n8, v9] 28)).alloc (Obj.cells #[Value.string { data := #[] }, Value.int .i64 0, Value.bool false, Value.int .i64 0, Value.int .i64 0, Value.int .i64 0, Value.string { data := #[] }, Value.int .i64 0, Value.int .i64 0, Value.slice none 0 0] 39)).alloc (Obj.cells #[Value.string s0, Value.int .i64 n1, Value.bool x2, Value.int .i64 n3, Value.int .i64 n4, Value.int .i64 0, Value.string { data := #[] }, Value.int .i64 0, Value.int .i64 0, Value.slice none 0 0] 39))) := Lib.hid (box_new w [D.str s0, D.int n1, D.bool x2, D.int n3, D.int n4, D.int n5, D.str s6, D.int n7, D.int n8, D.row t9 5 v9 d9] [D.str ⟨#[]⟩, D.int 0, D.bool false, D.int 0, D.int 0, D.int 0, D.str ⟨#[]⟩, D.int 0, D.int 0, D.row 0 5 (.slice none 0 0) []] [D.str s0, D.int n1, D.bool x2, D.int n3, D.int n4, D.int 0, D.str ⟨#[]⟩, D.int 0, D.int 0, D.row 0 5 (.slice none 0 0) []] _ _ _)
  rw [show agg [D.str s0, D.int n1, D.bool x2, D.int n3, D.int n4, D.int n5, D.str s6, D.int n7, D.int n8, D.row t9 5 v9 d9] = Value.agg #[Value.string s0, Value.int .i64 n1, Value.bool x2, Value.int .i64 n3, Value.int .i64 n4, Value.int .i64 n5, Value.string s6, Value.int .i64 n7, Value.int .i64 n8, v9] from rfl]
  go_enter Tryz.func19, Tryz.ntmps19
  have a5 := B0.out.a.at 5 (D.int n5) rfl
  simp only [val] at a5
  have a6 := B0.out.a.at 6 (D.str s6) rfl
  simp only [val] at a6
  have a7 := B0.out.a.at 7 (D.int n7) rfl
  simp only [val] at a7
  have a8 := B0.out.a.at 8 (D.int n8) rfl
  simp only [val] at a8
  have a9 := B0.out.a.at 9 (D.row t9 5 v9 d9) rfl
  simp only [val] at a9
  go_wp2_with fail
  refine (K5 _ B0.out.below).out.mono ?_
  rintro e w1 ⟨es, rfl, he, on1, hb1⟩
  have hg : FitL (env 7) (erases es) := he ▸ FN5.out
  obtain ⟨yn5, ye5, rfl, hg_5⟩ := fitL_int hg
  clear hg
  obtain ⟨ys6, ye6, rfl, hg_6⟩ := fitL_str hg_5
  clear hg_5
  obtain ⟨yn7, ye7, rfl, hg_7⟩ := fitL_int hg_6
  clear hg_6
  obtain ⟨yn8, ye8, rfl, hg_8⟩ := fitL_int hg_7
  clear hg_7
  obtain ⟨yt9, yv9, yd9, ye9, rfl, yf9, hg_9⟩ := fitL_row (k := 5) rfl hg_8
  clear hg_8
  obtain rfl := fitL_nil hg_9
  clear hg_9
  replace he := he.symm
  simp only [erases, erase, List.cons.injEq, P.int.injEq, P.str.injEq, P.row.injEq, true_and,  and_true] at he
  obtain ⟨rfl, rfl, rfl, rfl, g9⟩ := he
  obtain ⟨ya9, yn9, yc9, rfl⟩ := row_slice (goods_iff.1 on1.good (D.row yt9 5 yv9 yd9) (by simp))
  have HE9 := Lib.hid g9.symm
  clear g9 yf9
  rw [show agg [D.int n5, D.str s6, D.int n7, D.int n8, D.row yt9 5 (.slice ya9 yn9 yc9) yd9] = Value.agg #[Value.int .i64 n5, Value.string s6, Value.int .i64 n7, Value.int .i64 n8, Value.slice ya9 yn9 yc9] from rfl]
  have OW1 := Lib.hid (on1.mono (base' := w.heap.size + 3) B0.out.size)
  have B1 := Lib.hid (B0.out.step hb1)
  clear hb1 on1 K5 B0 a5 a6 a7 a8 a9
  have b0 := B1.out.b.at 0 (D.str ⟨#[]⟩) rfl
  have c0 := B1.out.c.at 0 (D.str s0) rfl
  simp only [val] at b0 c0
  have b1 := B1.out.b.at 1 (D.int 0) rfl
  have c1 := B1.out.c.at 1 (D.int n1) rfl
  simp only [val] at b1 c1
  have b2 := B1.out.b.at 2 (D.bool false) rfl
  have c2 := B1.out.c.at 2 (D.bool x2) rfl
  simp only [val] at b2 c2
  have b3 := B1.out.b.at 3 (D.int 0) rfl
  have c3 := B1.out.c.at 3 (D.int n3) rfl
  simp only [val] at b3 c3
  have b4 := B1.out.b.at 4 (D.int 0) rfl
  have c4 := B1.out.c.at 4 (D.int n4) rfl
  simp only [val] at b4 c4
  have b5 := B1.out.b.at 5 (D.int 0) rfl
  have c5 := B1.out.c.at 5 (D.int 0) rfl
  simp only [val] at b5 c5
  have b6 := B1.out.b.at 6 (D.str ⟨#[]⟩) rfl
  have c6 := B1.out.c.at 6 (D.str ⟨#[]⟩) rfl
  simp only [val] at b6 c6
  have b7 := B1.out.b.at 7 (D.int 0) rfl
  have c7 := B1.out.c.at 7 (D.int 0) rfl
  simp only [val] at b7 c7
  have b8 := B1.out.b.at 8 (D.int 0) rfl
  have c8 := B1.out.c.at 8 (D.int 0) rfl
  simp only [val] at b8 c8
  have b9 := B1.out.b.at 9 (D.row 0 5 (.slice none 0 0) []) rfl
  have c9 := B1.out.c.at 9 (D.row 0 5 (.slice none 0 0) []) rfl
  simp only [val] at b9 c9
  have a5 := B1.out.a.at 5 (D.int n5) rfl
  simp only [val] at a5
  have a6 := B1.out.a.at 6 (D.str s6) rfl
  simp only [val] at a6
  have a7 := B1.out.a.at 7 (D.int n7) rfl
  simp only [val] at a7
  have a8 := B1.out.a.at 8 (D.int n8) rfl
  simp only [val] at a8
  have fb := B1.out.fb
  have fc := B1.out.fc
  go_wp2_with fail
  refine bodyPost_ret (v := .agg #[Value.string s0, Value.int .i64 n1, Value.bool x2, Value.int .i64 n3, Value.int .i64 n4, Value.int .i64 n5, Value.string s6, Value.int .i64 n7, Value.int .i64 n8, Value.slice ya9 yn9 yc9]) (by simp [results, Tryz.results19, go_sem, *]) rfl ?_
  have g1 : w.heap.size + 1 + 1 < w.heap.size + 3 := by omega
  have g2 : w.heap.size + 1 < w.heap.size + 3 := by omega
  have g3 : w.heap.size ≤ w.heap.size + 1 + 1 := by omega
  have g4 : w.heap.size ≤ w.heap.size + 1 := by omega
  have OWN := (((((((((((((((OW1.out.setLow g1 5 (Value.int .i64 n5)).setLow g1 6 (Value.string s6)).setLow g1 7 (Value.int .i64 n7)).setLow g1 8 (Value.int .i64 n8)).setLow g1 9 (Value.slice ya9 yn9 yc9)).setLow g2 0 (Value.string s0)).setLow g2 1 (Value.int .i64 n1)).setLow g2 2 (Value.bool x2)).setLow g2 3 (Value.int .i64 n3)).setLow g2 4 (Value.int .i64 n4)).setLow g2 5 (Value.int .i64 n5)).setLow g2 6 (Value.string s6)).setLow g2 7 (Value.int .i64 n7)).setLow g2 8 (Value.int .i64 n8)).setLow g2 9 (Value.slice ya9 yn9 yc9))
  refine ⟨[D.str s0, D.int n1, D.bool x2, D.int n3, D.int n4, D.int n5, D.str s6, D.int n7, D.int n8, D.row yt9 5 (.slice ya9 yn9 yc9) yd9], rfl, ?_, ?_, (((((((((((((((B1.out.below.setCell g3 _).setCell g3 _).setCell g3 _).setCell g3 _).setCell g3 _).setCell g4 _).setCell g4 _).setCell g4 _).setCell g4 _).setCell g4 _).setCell g4 _).setCell g4 _).setCell g4 _).setCell g4 _).setCell g4 _)⟩
  · simp only [erases, erase, HE9.out]
  · refine ⟨?_, ?_, ?_⟩
    · have hg := OWN.good
      simp only [goods_iff, List.mem_append, List.mem_cons, List.not_mem_nil, or_false] at hg ⊢
      intro d hd
      rcases hd with rfl | rfl | rfl | rfl | rfl | rfl | rfl | rfl | rfl | rfl
      · have h := P0.out; rw [Holds] at h; rw [Good]; exact h
      · have h := P1.out; rw [Holds] at h; rw [Good]; exact h
      · rw [Good]; trivial
      · have h := P3.out; rw [Holds] at h; rw [Good]; exact h
      · have h := P4.out; rw [Holds] at h; rw [Good]; exact h
      · have h := P5.out; rw [Holds] at h; rw [Good]; exact h
      · have h := P6.out; rw [Holds] at h; rw [Good]; exact h
      · have h := P7.out; rw [Holds] at h; rw [Good]; exact h
      · have h := P8.out; rw [Holds] at h; rw [Good]; exact h
      · exact hg _ (by simp)
    · have h := OWN.nd
      simp only [foots, foot, foots_append, List.append_nil, List.nil_append, List.append_assoc] at h ⊢
      exact h
    · have h := OWN.lo
      intro b hb
      refine Nat.le_trans (by omega) (h b ?_)
      simp only [foots, foot, foots_append, List.append_nil, List.nil_append, List.append_assoc] at hb ⊢
      exact hb
theorem info_Routine : (Tryz.prog.info? 39).map (fun i => (i.zero, i.size, i.bytes)) = some (some (.agg #[.string ByteArray.empty, .int .i64 0, .bool false, .int .i64 0, .int .i64 0, .int .i64 0, .string ByteArray.empty, .int .i64 0, .int .i64 0, .slice none 0 0]), 10, 112) := by kernel_rfl
set_option maxRecDepth 10000 in
set_option maxHeartbeats 8000000 in
theorem toS_Routine (lo t : Nat) (w : World) (v : Value) (ds : List D) (hw : weight (.row 10 (erases ds)) ≤ 1048576) (hf : FitRow 8 (erases ds)) (hh : Holds lo w (.row t 10 v ds)) :
    Calls Tryz.prog 18 #[v] w fun r w' => ∃ a n c es, r = .returned (.slice a n c) ∧ erases es = erases ds ∧ Row w.heap.size w' 39 10 (.slice a n c) es ∧ Below w.heap.size w w' := by
  rw [Holds] at hh
  obtain ⟨⟨a, n, cap, rfl, -, hn, hnc, hcm, hc⟩, hds⟩ := hh
  have hnw : n + weights (erases ds) ≤ 1048576 := by
    rw [weight, erases_len, hn, Nat.mul_div_cancel _ (by decide)] at hw
    exact hw
  have hm2 : n ≤ 1048576 := by omega
  obtain ⟨i0, hi, hz0, hz1, hz2⟩ := info_parts info_Routine
  have HN := Lib.hid hn
  have HF := Lib.hid hf
  have HDS := Lib.hid hds
  have HWN := Lib.hid hnw
  clear hn hf hds hcm hw hnw
  by_cases hp : 0 < n
  rotate_left
  · have hn0 : n = 0 := by omega
    subst hn0
    have hd0 : ds = [] := List.eq_nil_of_length_eq_zero (by have := HN.out; omega)
    subst hd0
    clear hc HN HF HDS HWN
    go_enter Tryz.func18, Tryz.ntmps18
    go_wp2_with (at_make; refine wpList_make_full _ rfl _ _ 34 rfl w.heap.size 39 i0 _ 10 Tryz.underlying34 hi hz0 hz1 .i64 .i64 _ _ 0 rfl rfl rfl rfl ?c2 ?c3 (Nat.le_refl _) ?_)
    case c2 => omega
    case c3 => unfold maxLen; omega
    intro w1 hown hgr
    have hbl : Below w.heap.size w w1 := (Below.refl _ _).grown hgr (Nat.le_refl _) (by simp)
    have HO : Hid (SomeD w 39 10 0 [] 0 w1) := Lib.hid (someD_start hown hbl)
    clear hown hgr
    go_wp2_with fail
    refine wp_loop_rounds 1 ?_
    rw [rounds_succ]
    go_wp2_with fail
    go_ret
    obtain ⟨es, he, hr⟩ := someD_all (by decide) (by simp) HO.out
    exact ⟨_, _, _, es, rfl, he, hr, hbl⟩
  obtain ⟨b, off, rfl, hb, hc⟩ := hc hp
  have HC := Lib.hid hc
  clear hc hb
  go_enter Tryz.func18, Tryz.ntmps18
  go_wp2_with (at_make; refine wpList_make_full _ rfl _ _ 34 rfl w.heap.size 39 i0 _ 10 Tryz.underlying34 hi hz0 hz1 .i64 .i64 _ _ n rfl rfl rfl rfl ?c2 ?c3 (Nat.le_refl _) ?_)
  case c2 => rw [hz2]; omega
  case c3 => unfold maxLen; omega
  intro w1 hown hgr
  have hbl : Below w.heap.size w w1 := (Below.refl _ _).grown hgr (Nat.le_refl _) (by simp)
  have HO : Hid (SomeD w 39 10 n ds 0 w1) := Lib.hid (someD_start hown hbl)
  clear hown hgr hbl
  go_wp2_with fail
  go_loopw [4] (fun j wr => ∃ (i : Nat) (A R : List D), ds = A ++ R ∧ A.length = i * 10 ∧ FitRow 8 (erases R) ∧ j = .int .i64 i ∧ SomeD w 39 10 n ds i wr) (fun j _ => n - (intOf j).toNat)
  case atStart => exact ⟨0, [], ds, rfl, by simp, HF.out, rfl, HO.out⟩
  case round =>
    obtain ⟨i, A, R, hds, hal, hfr, rfl, hs⟩ := hrel
    have HD := Lib.hid hds
    have HAL := Lib.hid hal
    have HS := Lib.hid hs
    clear hds hal hs
    rcases fitRow_cases hfr with rfl | ⟨item, rest, rfl, hfi, hfrest⟩
    · have hin : i = n := by
        have h1 := HN.out
        rw [HD.out, List.append_nil, HAL.out] at h1
        omega
      subst hin
      clear hfr
      go_wp2_with fail
      go_ret
      obtain ⟨es, he, hr⟩ := someD_all (by decide) HN.out HS.out
      exact ⟨_, _, _, es, rfl, he, hr, HS.out.2.1⟩
    have hil : item.length = 10 := by have := fitL_len hfi; rw [erases_len] at this; exact this
    have hlt : i < n := by
      have h1 := HN.out
      rw [HD.out, List.length_append, List.length_append, HAL.out, hil] at h1
      omega
    have HFI := Lib.hid hfi
    have HFR := Lib.hid hfrest
    clear hil hfr hfrest
    obtain ⟨s0, e0, rfl, hfi_0⟩ := fitL_str hfi
    clear hfi
    obtain ⟨n1, e1, rfl, hfi_1⟩ := fitL_int hfi_0
    clear hfi_0
    obtain ⟨x2, e2, rfl, hfi_2⟩ := fitL_bool hfi_1
    clear hfi_1
    obtain ⟨n3, e3, rfl, hfi_3⟩ := fitL_int hfi_2
    clear hfi_2
    obtain ⟨n4, e4, rfl, hfi_4⟩ := fitL_int hfi_3
    clear hfi_3
    obtain ⟨n5, e5, rfl, hfi_5⟩ := fitL_int hfi_4
    clear hfi_4
    obtain ⟨s6, e6, rfl, hfi_6⟩ := fitL_str hfi_5
    clear hfi_5
    obtain ⟨n7, e7, rfl, hfi_7⟩ := fitL_int hfi_6
    clear hfi_6
    obtain ⟨n8, e8, rfl, hfi_8⟩ := fitL_int hfi_7
    clear hfi_7
    obtain ⟨t9, v9, d9, e9, rfl, f9, hfi_9⟩ := fitL_row (k := 5) rfl hfi_8
    clear hfi_8
    obtain rfl := fitL_nil hfi_9
    clear hfi_9
    have hbw := HS.out.2.1
    have c0 := cell_keep hbw (row_at0 HC.out HD.out HAL.out (D.str s0) rfl)
    simp only [val] at c0
    have c1 := cell_keep hbw (row_at HC.out HD.out HAL.out 1 (D.int n1) rfl)
    simp only [val] at c1
    have c2 := cell_keep hbw (row_at HC.out HD.out HAL.out 2 (D.bool x2) rfl)
    simp only [val] at c2
    have c3 := cell_keep hbw (row_at HC.out HD.out HAL.out 3 (D.int n3) rfl)
    simp only [val] at c3
    have c4 := cell_keep hbw (row_at HC.out HD.out HAL.out 4 (D.int n4) rfl)
    simp only [val] at c4
    have c5 := cell_keep hbw (row_at HC.out HD.out HAL.out 5 (D.int n5) rfl)
    simp only [val] at c5
    have c6 := cell_keep hbw (row_at HC.out HD.out HAL.out 6 (D.str s6) rfl)
    simp only [val] at c6
    have c7 := cell_keep hbw (row_at HC.out HD.out HAL.out 7 (D.int n7) rfl)
    simp only [val] at c7
    have c8 := cell_keep hbw (row_at HC.out HD.out HAL.out 8 (D.int n8) rfl)
    simp only [val] at c8
    have c9 := cell_keep hbw (row_at HC.out HD.out HAL.out 9 (D.row t9 5 v9 d9) rfl)
    simp only [val] at c9
    have hit : Holdss lo wr [D.str s0, D.int n1, D.bool x2, D.int n3, D.int n4, D.int n5, D.str s6, D.int n7, D.int n8, D.row t9 5 v9 d9] := ((Holdss.append.1 ((Holdss.append.1 (HD.out ▸ HDS.out)).2)).1).below hbw
    have hwi : weights (erases [D.str s0, D.int n1, D.bool x2, D.int n3, D.int n4, D.int n5, D.str s6, D.int n7, D.int n8, D.row t9 5 v9 d9]) ≤ 1048576 := by have h1 := HWN.out; rw [HD.out, erases_append, erases_append, weights_append, weights_append] at h1; omega
    have KI := Lib.hid (to_Routine lo wr [D.str s0, D.int n1, D.bool x2, D.int n3, D.int n4, D.int n5, D.str s6, D.int n7, D.int n8, D.row t9 5 v9 d9] hwi HFI.out hit)
    have HD2 : Hid (ds = (A ++ [D.str s0, D.int n1, D.bool x2, D.int n3, D.int n4, D.int n5, D.str s6, D.int n7, D.int n8, D.row t9 5 v9 d9]) ++ rest) := Lib.hid (by rw [HD.out, List.append_assoc])
    have HAL2 : Hid ((A ++ [D.str s0, D.int n1, D.bool x2, D.int n3, D.int n4, D.int n5, D.str s6, D.int n7, D.int n8, D.row t9 5 v9 d9]).length = (i + 1) * 10) := Lib.hid (by rw [List.length_append, HAL.out, Nat.succ_mul]; rfl)
    clear hit hwi hbw f9
    rw [show agg [D.str s0, D.int n1, D.bool x2, D.int n3, D.int n4, D.int n5, D.str s6, D.int n7, D.int n8, D.row t9 5 v9 d9] = Value.agg #[Value.string s0, Value.int .i64 n1, Value.bool x2, Value.int .i64 n3, Value.int .i64 n4, Value.int .i64 n5, Value.string s6, Value.int .i64 n7, Value.int .i64 n8, v9] from rfl] at KI
    go_wp2_with fail
    refine KI.out.mono ?_
    rintro e w2 ⟨es, rfl, he, ho, hb2⟩
    have hg : FitL (env 8) (erases es) := he ▸ HFI.out
    have HST := Lib.hid (someD_step HS.out hb2 ho he HD.out HAL.out rfl hlt)
    obtain ⟨ys0, ye0, rfl, hg_0⟩ := fitL_str hg
    clear hg
    obtain ⟨yn1, ye1, rfl, hg_1⟩ := fitL_int hg_0
    clear hg_0
    obtain ⟨yx2, ye2, rfl, hg_2⟩ := fitL_bool hg_1
    clear hg_1
    obtain ⟨yn3, ye3, rfl, hg_3⟩ := fitL_int hg_2
    clear hg_2
    obtain ⟨yn4, ye4, rfl, hg_4⟩ := fitL_int hg_3
    clear hg_3
    obtain ⟨yn5, ye5, rfl, hg_5⟩ := fitL_int hg_4
    clear hg_4
    obtain ⟨ys6, ye6, rfl, hg_6⟩ := fitL_str hg_5
    clear hg_5
    obtain ⟨yn7, ye7, rfl, hg_7⟩ := fitL_int hg_6
    clear hg_6
    obtain ⟨yn8, ye8, rfl, hg_8⟩ := fitL_int hg_7
    clear hg_7
    obtain ⟨yt9, yv9, yd9, ye9, rfl, yf9, hg_9⟩ := fitL_row (k := 5) rfl hg_8
    clear hg_8
    obtain rfl := fitL_nil hg_9
    clear hg_9
    replace he := he.symm
    simp only [erases, erase, List.cons.injEq, P.int.injEq, P.str.injEq, P.bool.injEq, P.row.injEq, true_and,  and_true] at he
    obtain ⟨rfl, rfl, rfl, rfl, rfl, rfl, rfl, rfl, rfl, g9⟩ := he
    obtain ⟨ya9, yn9, yc9, rfl⟩ := row_slice (goods_iff.1 ho.good (D.row yt9 5 yv9 yd9) (by simp))
    rw [show agg [D.str s0, D.int n1, D.bool x2, D.int n3, D.int n4, D.int n5, D.str s6, D.int n7, D.int n8, D.row yt9 5 (.slice ya9 yn9 yc9) yd9] = Value.agg #[Value.string s0, Value.int .i64 n1, Value.bool x2, Value.int .i64 n3, Value.int .i64 n4, Value.int .i64 n5, Value.string s6, Value.int .i64 n7, Value.int .i64 n8, .slice ya9 yn9 yc9] from rfl]
    obtain ⟨u0, d0'⟩ := HS.out.cell hb2 hlt 0 (by decide)
    obtain ⟨u1, d1'⟩ := HS.out.cell hb2 hlt 1 (by decide)
    obtain ⟨u2, d2'⟩ := HS.out.cell hb2 hlt 2 (by decide)
    obtain ⟨u3, d3'⟩ := HS.out.cell hb2 hlt 3 (by decide)
    obtain ⟨u4, d4'⟩ := HS.out.cell hb2 hlt 4 (by decide)
    obtain ⟨u5, d5'⟩ := HS.out.cell hb2 hlt 5 (by decide)
    obtain ⟨u6, d6'⟩ := HS.out.cell hb2 hlt 6 (by decide)
    obtain ⟨u7, d7'⟩ := HS.out.cell hb2 hlt 7 (by decide)
    obtain ⟨u8, d8'⟩ := HS.out.cell hb2 hlt 8 (by decide)
    obtain ⟨u9, d9'⟩ := HS.out.cell hb2 hlt 9 (by decide)
    rw [Nat.add_zero] at d0'
    have fz := HS.out.free hb2
    simp only [vals, List.map, val, puts] at HST
    clear ho hb2 KI HS c0 c1 c2 c3 c4 c5 c6 c7 c8 c9
    go_wp2_with fail
    go_roundw
    case rel => exact ⟨i + 1, A ++ [D.str s0, D.int n1, D.bool x2, D.int n3, D.int n4, D.int n5, D.str s6, D.int n7, D.int n8, D.row t9 5 v9 d9], rest, HD2.out, HAL2.out, HFR.out, by go_num, HST.out⟩
    case measure => simp [intOf]; omega
end Go.Proofs.YtekeondbbikkpaaGreat.Data
