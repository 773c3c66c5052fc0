/-
  laws.toCore and toCoreS: they copy into memory of their own.
-/
import Derived.Test.YtekeondbbikkpaaGreatBDataStr
import Derived.Test.YtekeondbbikkpaaGreatBToClassInfo
namespace Go.Proofs.YtekeondbbikkpaaGreat.Data
open Go.RowKit
open Strs Tree Texts
set_option linter.unusedSimpArgs false
set_option maxRecDepth 10000 in
set_option maxHeartbeats 4000000 in
theorem to_Core_of (NN : Nat) (KR : ∀ (lo t : Nat) (w : World) (v : Value) (ds : List D), masses (erases ds) < NN → weight (.row 5 (erases ds)) ≤ 1048576 → FitRow 7 (erases ds) → Holds lo w (.row t 5 v ds) → Calls Tryz.prog 64 #[v] w fun r w' => ∃ a n c es, r = .returned (.slice a n c) ∧ erases es = erases ds ∧ Row w.heap.size w' 37 5 (.slice a n c) es ∧ Below w.heap.size w w') (lo : Nat) (w : World) (ds : List D) (hm : masses (erases ds) ≤ NN) (hw : weights (erases ds) ≤ 1048576) (hf : FitL (env 7) (erases ds)) (hh : Holdss lo w ds) :
    Calls Tryz.prog 41 #[agg ds] w fun r w' => ∃ es, r = .returned (agg es) ∧ erases es = erases ds ∧ Own w.heap.size w' es ∧ Below w.heap.size w w' := by
  obtain ⟨n0, e0, rfl, hf_0⟩ := fitL_int hf
  clear hf
  obtain ⟨s1, e1, rfl, hf_1⟩ := fitL_str hf_0
  clear hf_0
  obtain ⟨n2, e2, rfl, hf_2⟩ := fitL_int hf_1
  clear hf_1
  obtain ⟨n3, e3, rfl, hf_3⟩ := fitL_int hf_2
  clear hf_2
  obtain ⟨t4, v4, d4, e4, rfl, f4, hf_4⟩ := fitL_row (k := 5) rfl hf_3
  clear hf_3
  obtain rfl := fitL_nil hf_4
  clear hf_4
  simp only [erases, erase, masses, mass] at hm
  simp only [Holdss, and_true] at hh
  obtain ⟨h0, h1, h2, h3, h4⟩ := hh
  have hw4 : weight (.row 5 (erases d4)) ≤ 1048576 := by simp only [erases, erase, weights] at hw; omega
  have K4 := fun (w' : World) (hb : Below w.heap.size w w') => Lib.hid (KR lo t4 w' v4 d4 (by omega) hw4 f4 (h4.below hb))
  have P0 := Lib.hid h0
  have P1 := Lib.hid h1
  have P2 := Lib.hid h2
  have P3 := Lib.hid h3
  clear hw h0 h1 h2 h3 h4 hw4 f4
  clear KR hm
  have B0 : Hid (Box w [D.int n0, D.str s1, D.int n2, D.int n3, D.row t4 5 v4 d4] [D.int 0, D.str ⟨#[]⟩, D.int 0, D.int 0, D.row 0 5 (.slice none 0 0) []] [D.int n0, D.str s1, D.int n2, D.int n3, D.row 0 5 (.slice none 0 0) []] (((w.alloc (Obj.cells #[Value.int .i64 n0, Value.string s1, Value.int .i64 n2, Value.int .i64 n3, v4] 26)).alloc (Obj.cells #[Value.int .i64 0, Value.string { data := #[] }, Value.int .i64 0, Value.int .i64 0, Value.slice none 0 0] 37)).alloc (Obj.cells #[Value.int .i64 n0, Value.string s1, Value.int .i64 n2, Value.int .i64 n3, Value.slice none 0 0] 37))) := Lib.hid (box_new w [D.int n0, D.str s1, D.int n2, D.int n3, D.row t4 5 v4 d4] [D.int 0, D.str ⟨#[]⟩, D.int 0, D.int 0, D.row 0 5 (.slice none 0 0) []] [D.int n0, D.str s1, D.int n2, D.int n3, D.row 0 5 (.slice none 0 0) []] _ _ _)
  rw [show agg [D.int n0, D.str s1, D.int n2, D.int n3, D.row t4 5 v4 d4] = Value.agg #[Value.int .i64 n0, Value.string s1, Value.int .i64 n2, Value.int .i64 n3, v4] from rfl]
  go_enter Tryz.func41, Tryz.ntmps41
  have a4 := B0.out.a.at 4 (D.row t4 5 v4 d4) rfl
  simp only [val] at a4
  go_wp2_with fail
  refine (K4 _ B0.out.below).out.mono ?_
  rintro e w1 ⟨ya4, yn4, yc4, yd4, rfl, he4, hr4, hb1⟩
  have HE4 := Lib.hid he4
  clear he4
  have on1 := row_iff.2 hr4
  have OW1 := Lib.hid (on1.mono (base' := w.heap.size + 3) B0.out.size)
  have B1 := Lib.hid (B0.out.step hb1)
  clear hb1 on1 K4 B0 a4 hr4
  have b0 := B1.out.b.at 0 (D.int 0) rfl
  have c0 := B1.out.c.at 0 (D.int n0) rfl
  simp only [val] at b0 c0
  have b1 := B1.out.b.at 1 (D.str ⟨#[]⟩) rfl
  have c1 := B1.out.c.at 1 (D.str s1) rfl
  simp only [val] at b1 c1
  have b2 := B1.out.b.at 2 (D.int 0) rfl
  have c2 := B1.out.c.at 2 (D.int n2) rfl
  simp only [val] at b2 c2
  have b3 := B1.out.b.at 3 (D.int 0) rfl
  have c3 := B1.out.c.at 3 (D.int n3) rfl
  simp only [val] at b3 c3
  have b4 := B1.out.b.at 4 (D.row 0 5 (.slice none 0 0) []) rfl
  have c4 := B1.out.c.at 4 (D.row 0 5 (.slice none 0 0) []) rfl
  simp only [val] at b4 c4
  have fb := B1.out.fb
  have fc := B1.out.fc
  go_wp2_with fail
  refine bodyPost_ret (v := .agg #[Value.int .i64 n0, Value.string s1, Value.int .i64 n2, Value.int .i64 n3, Value.slice ya4 yn4 yc4]) (by simp [results, Tryz.results41, go_sem, *]) rfl ?_
  have g1 : w.heap.size + 1 + 1 < w.heap.size + 3 := by omega
  have g2 : w.heap.size + 1 < w.heap.size + 3 := by omega
  have g3 : w.heap.size ≤ w.heap.size + 1 + 1 := by omega
  have g4 : w.heap.size ≤ w.heap.size + 1 := by omega
  have OWN := ((((((OW1.out.setLow g1 4 (Value.slice ya4 yn4 yc4)).setLow g2 0 (Value.int .i64 n0)).setLow g2 1 (Value.string s1)).setLow g2 2 (Value.int .i64 n2)).setLow g2 3 (Value.int .i64 n3)).setLow g2 4 (Value.slice ya4 yn4 yc4))
  refine ⟨[D.int n0, D.str s1, D.int n2, D.int n3, D.row 37 5 (.slice ya4 yn4 yc4) yd4], rfl, ?_, ?_, ((((((B1.out.below.setCell g3 _).setCell g4 _).setCell g4 _).setCell g4 _).setCell g4 _).setCell g4 _)⟩
  · simp only [erases, erase, HE4.out]
  · refine ⟨?_, ?_, ?_⟩
    · have hg := OWN.good
      simp only [goods_iff, List.mem_append, List.mem_cons, List.not_mem_nil, or_false] at hg ⊢
      intro d hd
      rcases hd with rfl | rfl | rfl | rfl | rfl
      · have h := P0.out; rw [Holds] at h; rw [Good]; exact h
      · have h := P1.out; rw [Holds] at h; rw [Good]; exact h
      · have h := P2.out; rw [Holds] at h; rw [Good]; exact h
      · have h := P3.out; rw [Holds] at h; rw [Good]; exact h
      · exact hg _ (by simp)
    · have h := OWN.nd
      simp only [foots, foot, foots_append, List.append_nil, List.nil_append, List.append_assoc] at h ⊢
      exact h
    · have h := OWN.lo
      intro b hb
      refine Nat.le_trans (by omega) (h b ?_)
      simp only [foots, foot, foots_append, List.append_nil, List.nil_append, List.append_assoc] at hb ⊢
      exact hb
theorem info_Core : (Tryz.prog.info? 37).map (fun i => (i.zero, i.size, i.bytes)) = some (some (.agg #[.int .i64 0, .string ByteArray.empty, .int .i64 0, .int .i64 0, .slice none 0 0]), 5, 64) := by kernel_rfl
set_option maxRecDepth 10000 in
set_option maxHeartbeats 8000000 in
theorem toS_Core_of (NN : Nat) (KT : ∀ (lo : Nat) (w : World) (ds : List D), masses (erases ds) ≤ NN → weights (erases ds) ≤ 1048576 → FitL (env 7) (erases ds) → Holdss lo w ds → Calls Tryz.prog 41 #[agg ds] w fun r w' => ∃ es, r = .returned (agg es) ∧ erases es = erases ds ∧ Own w.heap.size w' es ∧ Below w.heap.size w w') (lo t : Nat) (w : World) (v : Value) (ds : List D) (hm : masses (erases ds) ≤ NN) (hw : weight (.row 5 (erases ds)) ≤ 1048576) (hf : FitRow 7 (erases ds)) (hh : Holds lo w (.row t 5 v ds)) :
    Calls Tryz.prog 64 #[v] w fun r w' => ∃ a n c es, r = .returned (.slice a n c) ∧ erases es = erases ds ∧ Row w.heap.size w' 37 5 (.slice a n c) es ∧ Below w.heap.size w w' := by
  rw [Holds] at hh
  obtain ⟨⟨a, n, cap, rfl, -, hn, hnc, hcm, hc⟩, hds⟩ := hh
  have hnw : n + weights (erases ds) ≤ 1048576 := by
    rw [weight, erases_len, hn, Nat.mul_div_cancel _ (by decide)] at hw
    exact hw
  have hm2 : n ≤ 1048576 := by omega
  obtain ⟨i0, hi, hz0, hz1, hz2⟩ := info_parts info_Core
  have HN := Lib.hid hn
  have HF := Lib.hid hf
  have HDS := Lib.hid hds
  have HWN := Lib.hid hnw
  clear hn hf hds hcm hw hnw
  by_cases hp : 0 < n
  rotate_left
  · have hn0 : n = 0 := by omega
    subst hn0
    have hd0 : ds = [] := List.eq_nil_of_length_eq_zero (by have := HN.out; omega)
    subst hd0
    clear hc HN HF HDS HWN KT hm
    go_enter Tryz.func64, Tryz.ntmps64
    go_wp2_with (at_make; refine wpList_make_full _ rfl _ _ 35 rfl w.heap.size 37 i0 _ 5 Tryz.underlying35 hi hz0 hz1 .i64 .i64 _ _ 0 rfl rfl rfl rfl ?c2 ?c3 (Nat.le_refl _) ?_)
    case c2 => omega
    case c3 => unfold maxLen; omega
    intro w1 hown hgr
    have hbl : Below w.heap.size w w1 := (Below.refl _ _).grown hgr (Nat.le_refl _) (by simp)
    have HO : Hid (SomeD w 37 5 0 [] 0 w1) := Lib.hid (someD_start hown hbl)
    clear hown hgr
    go_wp2_with fail
    refine wp_loop_rounds 1 ?_
    rw [rounds_succ]
    go_wp2_with fail
    go_ret
    obtain ⟨es, he, hr⟩ := someD_all (by decide) (by simp) HO.out
    exact ⟨_, _, _, es, rfl, he, hr, hbl⟩
  obtain ⟨b, off, rfl, hb, hc⟩ := hc hp
  have HC := Lib.hid hc
  clear hc hb
  go_enter Tryz.func64, Tryz.ntmps64
  go_wp2_with (at_make; refine wpList_make_full _ rfl _ _ 35 rfl w.heap.size 37 i0 _ 5 Tryz.underlying35 hi hz0 hz1 .i64 .i64 _ _ n rfl rfl rfl rfl ?c2 ?c3 (Nat.le_refl _) ?_)
  case c2 => rw [hz2]; omega
  case c3 => unfold maxLen; omega
  intro w1 hown hgr
  have hbl : Below w.heap.size w w1 := (Below.refl _ _).grown hgr (Nat.le_refl _) (by simp)
  have HO : Hid (SomeD w 37 5 n ds 0 w1) := Lib.hid (someD_start hown hbl)
  clear hown hgr hbl
  go_wp2_with fail
  go_loopw [4] (fun j wr => ∃ (i : Nat) (A R : List D), ds = A ++ R ∧ A.length = i * 5 ∧ FitRow 7 (erases R) ∧ j = .int .i64 i ∧ SomeD w 37 5 n ds i wr) (fun j _ => n - (intOf j).toNat)
  case atStart => exact ⟨0, [], ds, rfl, by simp, HF.out, rfl, HO.out⟩
  case round =>
    obtain ⟨i, A, R, hds, hal, hfr, rfl, hs⟩ := hrel
    have HD := Lib.hid hds
    have HAL := Lib.hid hal
    have HS := Lib.hid hs
    clear hds hal hs
    rcases fitRow_cases hfr with rfl | ⟨item, rest, rfl, hfi, hfrest⟩
    · have hin : i = n := by
        have h1 := HN.out
        rw [HD.out, List.append_nil, HAL.out] at h1
        omega
      subst hin
      clear hfr
      go_wp2_with fail
      go_ret
      obtain ⟨es, he, hr⟩ := someD_all (by decide) HN.out HS.out
      exact ⟨_, _, _, es, rfl, he, hr, HS.out.2.1⟩
    have hil : item.length = 5 := by have := fitL_len hfi; rw [erases_len] at this; exact this
    have hlt : i < n := by
      have h1 := HN.out
      rw [HD.out, List.length_append, List.length_append, HAL.out, hil] at h1
      omega
    have HFI := Lib.hid hfi
    have HFR := Lib.hid hfrest
    clear hil hfr hfrest
    obtain ⟨n0, e0, rfl, hfi_0⟩ := fitL_int hfi
    clear hfi
    obtain ⟨s1, e1, rfl, hfi_1⟩ := fitL_str hfi_0
    clear hfi_0
    obtain ⟨n2, e2, rfl, hfi_2⟩ := fitL_int hfi_1
    clear hfi_1
    obtain ⟨n3, e3, rfl, hfi_3⟩ := fitL_int hfi_2
    clear hfi_2
    obtain ⟨t4, v4, d4, e4, rfl, f4, hfi_4⟩ := fitL_row (k := 5) rfl hfi_3
    clear hfi_3
    obtain rfl := fitL_nil hfi_4
    clear hfi_4
    have hbw := HS.out.2.1
    have c0 := cell_keep hbw (row_at0 HC.out HD.out HAL.out (D.int n0) rfl)
    simp only [val] at c0
    have c1 := cell_keep hbw (row_at HC.out HD.out HAL.out 1 (D.str s1) rfl)
    simp only [val] at c1
    have c2 := cell_keep hbw (row_at HC.out HD.out HAL.out 2 (D.int n2) rfl)
    simp only [val] at c2
    have c3 := cell_keep hbw (row_at HC.out HD.out HAL.out 3 (D.int n3) rfl)
    simp only [val] at c3
    have c4 := cell_keep hbw (row_at HC.out HD.out HAL.out 4 (D.row t4 5 v4 d4) rfl)
    simp only [val] at c4
    have hit : Holdss lo wr [D.int n0, D.str s1, D.int n2, D.int n3, D.row t4 5 v4 d4] := ((Holdss.append.1 ((Holdss.append.1 (HD.out ▸ HDS.out)).2)).1).below hbw
    have hwi : weights (erases [D.int n0, D.str s1, D.int n2, D.int n3, D.row t4 5 v4 d4]) ≤ 1048576 := by have h1 := HWN.out; rw [HD.out, erases_append, erases_append, weights_append, weights_append] at h1; omega
    have KI := Lib.hid (KT lo wr [D.int n0, D.str s1, D.int n2, D.int n3, D.row t4 5 v4 d4] (by have h1 := hm; rw [HD.out, erases_append, erases_append, masses_append, masses_append] at h1; omega) hwi HFI.out hit)
    have HD2 : Hid (ds = (A ++ [D.int n0, D.str s1, D.int n2, D.int n3, D.row t4 5 v4 d4]) ++ rest) := Lib.hid (by rw [HD.out, List.append_assoc])
    have HAL2 : Hid ((A ++ [D.int n0, D.str s1, D.int n2, D.int n3, D.row t4 5 v4 d4]).length = (i + 1) * 5) := Lib.hid (by rw [List.length_append, HAL.out, Nat.succ_mul]; rfl)
    clear hit hwi hbw f4
    rw [show agg [D.int n0, D.str s1, D.int n2, D.int n3, D.row t4 5 v4 d4] = Value.agg #[Value.int .i64 n0, Value.string s1, Value.int .i64 n2, Value.int .i64 n3, v4] from rfl] at KI
    go_wp2_with fail
    refine KI.out.mono ?_
    rintro e w2 ⟨es, rfl, he, ho, hb2⟩
    have hg : FitL (env 7) (erases es) := he ▸ HFI.out
    have HST := Lib.hid (someD_step HS.out hb2 ho he HD.out HAL.out rfl hlt)
    obtain ⟨yn0, ye0, rfl, hg_0⟩ := fitL_int hg
    clear hg
    obtain ⟨ys1, ye1, rfl, hg_1⟩ := fitL_str hg_0
    clear hg_0
    obtain ⟨yn2, ye2, rfl, hg_2⟩ := fitL_int hg_1
    clear hg_1
    obtain ⟨yn3, ye3, rfl, hg_3⟩ := fitL_int hg_2
    clear hg_2
    obtain ⟨yt4, yv4, yd4, ye4, rfl, yf4, hg_4⟩ := fitL_row (k := 5) rfl hg_3
    clear hg_3
    obtain rfl := fitL_nil hg_4
    clear hg_4
    replace he := he.symm
    simp only [erases, erase, List.cons.injEq, P.int.injEq, P.str.injEq, P.row.injEq, true_and,  and_true] at he
    obtain ⟨rfl, rfl, rfl, rfl, g4⟩ := he
    obtain ⟨ya4, yn4, yc4, rfl⟩ := row_slice (goods_iff.1 ho.good (D.row yt4 5 yv4 yd4) (by simp))
    rw [show agg [D.int n0, D.str s1, D.int n2, D.int n3, D.row yt4 5 (.slice ya4 yn4 yc4) yd4] = Value.agg #[Value.int .i64 n0, Value.string s1, Value.int .i64 n2, Value.int .i64 n3, .slice ya4 yn4 yc4] from rfl]
    obtain ⟨u0, d0'⟩ := HS.out.cell hb2 hlt 0 (by decide)
    obtain ⟨u1, d1'⟩ := HS.out.cell hb2 hlt 1 (by decide)
    obtain ⟨u2, d2'⟩ := HS.out.cell hb2 hlt 2 (by decide)
    obtain ⟨u3, d3'⟩ := HS.out.cell hb2 hlt 3 (by decide)
    obtain ⟨u4, d4'⟩ := HS.out.cell hb2 hlt 4 (by decide)
    rw [Nat.add_zero] at d0'
    have fz := HS.out.free hb2
    simp only [vals, List.map, val, puts] at HST
    clear ho hb2 KI HS c0 c1 c2 c3 c4
    go_wp2_with fail
    go_roundw
    case rel => exact ⟨i + 1, A ++ [D.int n0, D.str s1, D.int n2, D.int n3, D.row t4 5 v4 d4], rest, HD2.out, HAL2.out, HFR.out, by go_num, HST.out⟩
    case measure => simp [intOf]; omega
theorem toS_Core_all (NN : Nat) : ∀ (lo t : Nat) (w : World) (v : Value) (ds : List D), masses (erases ds) < NN → weight (.row 5 (erases ds)) ≤ 1048576 → FitRow 7 (erases ds) → Holds lo w (.row t 5 v ds) → Calls Tryz.prog 64 #[v] w fun r w' => ∃ a n c es, r = .returned (.slice a n c) ∧ erases es = erases ds ∧ Row w.heap.size w' 37 5 (.slice a n c) es ∧ Below w.heap.size w w' := by
  induction NN with
  | zero => intro _ _ _ _ _ h; omega
  | succ NN ih =>
    intro lo t w v ds hm hw hf hh
    exact toS_Core_of NN (fun lo w ds hm hw hf hh => to_Core_of NN ih lo w ds hm hw hf hh) lo t w v ds (by omega) hw hf hh
theorem toS_Core (lo t : Nat) (w : World) (v : Value) (ds : List D) (hw : weight (.row 5 (erases ds)) ≤ 1048576) (hf : FitRow 7 (erases ds)) (hh : Holds lo w (.row t 5 v ds)) :
    Calls Tryz.prog 64 #[v] w fun r w' => ∃ a n c es, r = .returned (.slice a n c) ∧ erases es = erases ds ∧ Row w.heap.size w' 37 5 (.slice a n c) es ∧ Below w.heap.size w w' := toS_Core_all _ lo t w v ds (Nat.lt_succ_self _) hw hf hh
theorem to_Core (lo : Nat) (w : World) (ds : List D) (hw : weights (erases ds) ≤ 1048576) (hf : FitL (env 7) (erases ds)) (hh : Holdss lo w ds) :
    Calls Tryz.prog 41 #[agg ds] w fun r w' => ∃ es, r = .returned (agg es) ∧ erases es = erases ds ∧ Own w.heap.size w' es ∧ Below w.heap.size w w' := to_Core_of _ (toS_Core_all _) lo w ds (Nat.le_refl _) hw hf hh
end Go.Proofs.YtekeondbbikkpaaGreat.Data
