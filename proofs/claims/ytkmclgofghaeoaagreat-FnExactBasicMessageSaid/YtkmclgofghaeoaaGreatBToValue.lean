/-
  laws.toValue and toValueS: they copy into memory of their own.
-/
import Derived.Test.YtkmclgofghaeoaaGreatBDataBox
import Derived.Test.YtkmclgofghaeoaaGreatBSzValue
namespace Go.Proofs.YtkmclgofghaeoaaGreat.Data
open Go.RowKit
open Strs Tree Texts
set_option linter.unusedSimpArgs false
set_option maxRecDepth 10000 in
set_option maxHeartbeats 4000000 in
theorem to_Value (lo : Nat) (w : World) (ds : List D) (hw : weights (erases ds) ≤ 1048576) (hf : FitL (env 10) (erases ds)) (hh : Holdss lo w ds) :
    Calls Tryz.prog 7 #[agg ds] w fun r w' => ∃ es, r = .returned (agg es) ∧ erases es = erases ds ∧ Own w.heap.size w' es ∧ Below w.heap.size w w' := by
  obtain ⟨n0, e0, rfl, hf_0⟩ := fitL_int hf
  clear hf
  obtain ⟨n1, e1, rfl, hf_1⟩ := fitL_int hf_0
  clear hf_0
  obtain ⟨s2, e2, rfl, hf_2⟩ := fitL_str hf_1
  clear hf_1
  obtain rfl := fitL_nil hf_2
  clear hf_2
  simp only [Holdss, and_true] at hh
  obtain ⟨h0, h1, h2⟩ := hh
  have P0 := Lib.hid h0
  have P1 := Lib.hid h1
  have P2 := Lib.hid h2
  clear hw h0 h1 h2
  have B0 : Hid (Box w [D.int n0, D.int n1, D.str s2] [D.int 0, D.int 0, D.str ⟨#[]⟩] [D.int n0, D.int n1, D.str s2] (((w.alloc (Obj.cells #[Value.int .i64 n0, Value.int .i64 n1, Value.string s2] 23)).alloc (Obj.cells #[Value.int .i64 0, Value.int .i64 0, Value.string { data := #[] }] 27)).alloc (Obj.cells #[Value.int .i64 n0, Value.int .i64 n1, Value.string s2] 27))) := Lib.hid (box_new w [D.int n0, D.int n1, D.str s2] [D.int 0, D.int 0, D.str ⟨#[]⟩] [D.int n0, D.int n1, D.str s2] _ _ _)
  rw [show agg [D.int n0, D.int n1, D.str s2] = Value.agg #[Value.int .i64 n0, Value.int .i64 n1, Value.string s2] from rfl]
  go_enter Tryz.func7, Tryz.ntmps7
  have b0 := B0.out.b.at 0 (D.int 0) rfl
  have c0 := B0.out.c.at 0 (D.int n0) rfl
  simp only [val] at b0 c0
  have b1 := B0.out.b.at 1 (D.int 0) rfl
  have c1 := B0.out.c.at 1 (D.int n1) rfl
  simp only [val] at b1 c1
  have b2 := B0.out.b.at 2 (D.str ⟨#[]⟩) rfl
  have c2 := B0.out.c.at 2 (D.str s2) rfl
  simp only [val] at b2 c2
  have fb := B0.out.fb
  have fc := B0.out.fc
  go_wp2_with fail
  refine bodyPost_ret (v := .agg #[Value.int .i64 n0, Value.int .i64 n1, Value.string s2]) (by simp [results, Tryz.results7, go_sem, *]) rfl ?_
  have g1 : w.heap.size + 1 + 1 < w.heap.size + 3 := by omega
  have g2 : w.heap.size + 1 < w.heap.size + 3 := by omega
  have g3 : w.heap.size ≤ w.heap.size + 1 + 1 := by omega
  have g4 : w.heap.size ≤ w.heap.size + 1 := by omega
  have OWN := ((((Own.nil (w.heap.size + 3) w).setLow g2 0 (Value.int .i64 n0)).setLow g2 1 (Value.int .i64 n1)).setLow g2 2 (Value.string s2))
  refine ⟨[D.int n0, D.int n1, D.str s2], rfl, ?_, ?_, ((((Below.refl _ _).alloc (Nat.le_refl _) _).alloc (by simp) _).alloc (by simp; omega) _)⟩
  · simp only [erases, erase]
  · refine ⟨?_, ?_, ?_⟩
    · have hg := OWN.good
      simp only [goods_iff, List.mem_append, List.mem_cons, List.not_mem_nil, or_false] at hg ⊢
      intro d hd
      rcases hd with rfl | rfl | rfl
      · have h := P0.out; rw [Holds] at h; rw [Good]; exact h
      · have h := P1.out; rw [Holds] at h; rw [Good]; exact h
      · have h := P2.out; rw [Holds] at h; rw [Good]; exact h
    · have h := OWN.nd
      simp only [foots, foot, foots_append, List.append_nil, List.nil_append, List.append_assoc] at h ⊢
      exact h
    · have h := OWN.lo
      intro b hb
      refine Nat.le_trans (by omega) (h b ?_)
      simp only [foots, foot, foots_append, List.append_nil, List.nil_append, List.append_assoc] at hb ⊢
      exact hb
theorem info_Value : (Tryz.prog.info? 27).map (fun i => (i.zero, i.size, i.bytes)) = some (some (.agg #[.int .i64 0, .int .i64 0, .string ByteArray.empty]), 3, 32) := by kernel_rfl
set_option maxRecDepth 10000 in
set_option maxHeartbeats 8000000 in
theorem toS_Value (lo t : Nat) (w : World) (v : Value) (ds : List D) (hw : weight (.row 3 (erases ds)) ≤ 1048576) (hf : FitRow 10 (erases ds)) (hh : Holds lo w (.row t 3 v ds)) :
    Calls Tryz.prog 8 #[v] w fun r w' => ∃ a n c es, r = .returned (.slice a n c) ∧ erases es = erases ds ∧ Row w.heap.size w' 27 3 (.slice a n c) es ∧ Below w.heap.size w w' := by
  rw [Holds] at hh
  obtain ⟨⟨a, n, cap, rfl, -, hn, hnc, hcm, hc⟩, hds⟩ := hh
  have hnw : n + weights (erases ds) ≤ 1048576 := by
    rw [weight, erases_len, hn, Nat.mul_div_cancel _ (by decide)] at hw
    exact hw
  have hm2 : n ≤ 1048576 := by omega
  obtain ⟨i0, hi, hz0, hz1, hz2⟩ := info_parts info_Value
  have HN := Lib.hid hn
  have HF := Lib.hid hf
  have HDS := Lib.hid hds
  have HWN := Lib.hid hnw
  clear hn hf hds hcm hw hnw
  by_cases hp : 0 < n
  rotate_left
  · have hn0 : n = 0 := by omega
    subst hn0
    have hd0 : ds = [] := List.eq_nil_of_length_eq_zero (by have := HN.out; omega)
    subst hd0
    clear hc HN HF HDS HWN
    go_enter Tryz.func8, Tryz.ntmps8
    go_wp2_with (at_make; refine wpList_make_full _ rfl _ _ 32 rfl w.heap.size 27 i0 _ 3 Tryz.underlying32 hi hz0 hz1 .i64 .i64 _ _ 0 rfl rfl rfl rfl ?c2 ?c3 (Nat.le_refl _) ?_)
    case c2 => omega
    case c3 => unfold maxLen; omega
    intro w1 hown hgr
    have hbl : Below w.heap.size w w1 := (Below.refl _ _).grown hgr (Nat.le_refl _) (by simp)
    have HO : Hid (SomeD w 27 3 0 [] 0 w1) := Lib.hid (someD_start hown hbl)
    clear hown hgr
    go_wp2_with fail
    refine wp_loop_rounds 1 ?_
    rw [rounds_succ]
    go_wp2_with fail
    go_ret
    obtain ⟨es, he, hr⟩ := someD_all (by decide) (by simp) HO.out
    exact ⟨_, _, _, es, rfl, he, hr, hbl⟩
  obtain ⟨b, off, rfl, hb, hc⟩ := hc hp
  have HC := Lib.hid hc
  clear hc hb
  go_enter Tryz.func8, Tryz.ntmps8
  go_wp2_with (at_make; refine wpList_make_full _ rfl _ _ 32 rfl w.heap.size 27 i0 _ 3 Tryz.underlying32 hi hz0 hz1 .i64 .i64 _ _ n rfl rfl rfl rfl ?c2 ?c3 (Nat.le_refl _) ?_)
  case c2 => rw [hz2]; omega
  case c3 => unfold maxLen; omega
  intro w1 hown hgr
  have hbl : Below w.heap.size w w1 := (Below.refl _ _).grown hgr (Nat.le_refl _) (by simp)
  have HO : Hid (SomeD w 27 3 n ds 0 w1) := Lib.hid (someD_start hown hbl)
  clear hown hgr hbl
  go_wp2_with fail
  go_loopw [4] (fun j wr => ∃ (i : Nat) (A R : List D), ds = A ++ R ∧ A.length = i * 3 ∧ FitRow 10 (erases R) ∧ j = .int .i64 i ∧ SomeD w 27 3 n ds i wr) (fun j _ => n - (intOf j).toNat)
  case atStart => exact ⟨0, [], ds, rfl, by simp, HF.out, rfl, HO.out⟩
  case round =>
    obtain ⟨i, A, R, hds, hal, hfr, rfl, hs⟩ := hrel
    have HD := Lib.hid hds
    have HAL := Lib.hid hal
    have HS := Lib.hid hs
    clear hds hal hs
    rcases fitRow_cases hfr with rfl | ⟨item, rest, rfl, hfi, hfrest⟩
    · have hin : i = n := by
        have h1 := HN.out
        rw [HD.out, List.append_nil, HAL.out] at h1
        omega
      subst hin
      clear hfr
      go_wp2_with fail
      go_ret
      obtain ⟨es, he, hr⟩ := someD_all (by decide) HN.out HS.out
      exact ⟨_, _, _, es, rfl, he, hr, HS.out.2.1⟩
    have hil : item.length = 3 := by have := fitL_len hfi; rw [erases_len] at this; exact this
    have hlt : i < n := by
      have h1 := HN.out
      rw [HD.out, List.length_append, List.length_append, HAL.out, hil] at h1
      omega
    have HFI := Lib.hid hfi
    have HFR := Lib.hid hfrest
    clear hil hfr hfrest
    obtain ⟨n0, e0, rfl, hfi_0⟩ := fitL_int hfi
    clear hfi
    obtain ⟨n1, e1, rfl, hfi_1⟩ := fitL_int hfi_0
    clear hfi_0
    obtain ⟨s2, e2, rfl, hfi_2⟩ := fitL_str hfi_1
    clear hfi_1
    obtain rfl := fitL_nil hfi_2
    clear hfi_2
    have hbw := HS.out.2.1
    have c0 := cell_keep hbw (row_at0 HC.out HD.out HAL.out (D.int n0) rfl)
    simp only [val] at c0
    have c1 := cell_keep hbw (row_at HC.out HD.out HAL.out 1 (D.int n1) rfl)
    simp only [val] at c1
    have c2 := cell_keep hbw (row_at HC.out HD.out HAL.out 2 (D.str s2) rfl)
    simp only [val] at c2
    have hit : Holdss lo wr [D.int n0, D.int n1, D.str s2] := ((Holdss.append.1 ((Holdss.append.1 (HD.out ▸ HDS.out)).2)).1).below hbw
    have hwi : weights (erases [D.int n0, D.int n1, D.str s2]) ≤ 1048576 := by have h1 := HWN.out; rw [HD.out, erases_append, erases_append, weights_append, weights_append] at h1; omega
    have KI := Lib.hid (to_Value lo wr [D.int n0, D.int n1, D.str s2] hwi HFI.out hit)
    have HD2 : Hid (ds = (A ++ [D.int n0, D.int n1, D.str s2]) ++ rest) := Lib.hid (by rw [HD.out, List.append_assoc])
    have HAL2 : Hid ((A ++ [D.int n0, D.int n1, D.str s2]).length = (i + 1) * 3) := Lib.hid (by rw [List.length_append, HAL.out, Nat.succ_mul]; rfl)
    clear hit hwi hbw
    rw [show agg [D.int n0, D.int n1, D.str s2] = Value.agg #[Value.int .i64 n0, Value.int .i64 n1, Value.string s2] from rfl] at KI
    go_wp2_with fail
    refine KI.out.mono ?_
    rintro e w2 ⟨es, rfl, he, ho, hb2⟩
    have hg : FitL (env 10) (erases es) := he ▸ HFI.out
    have HST := Lib.hid (someD_step HS.out hb2 ho he HD.out HAL.out rfl hlt)
    obtain ⟨yn0, ye0, rfl, hg_0⟩ := fitL_int hg
    clear hg
    obtain ⟨yn1, ye1, rfl, hg_1⟩ := fitL_int hg_0
    clear hg_0
    obtain ⟨ys2, ye2, rfl, hg_2⟩ := fitL_str hg_1
    clear hg_1
    obtain rfl := fitL_nil hg_2
    clear hg_2
    replace he := he.symm
    simp only [erases, erase, List.cons.injEq, P.int.injEq, P.str.injEq,  and_true] at he
    obtain ⟨rfl, rfl, rfl⟩ := he
    rw [show agg [D.int n0, D.int n1, D.str s2] = Value.agg #[Value.int .i64 n0, Value.int .i64 n1, Value.string s2] from rfl]
    obtain ⟨u0, d0'⟩ := HS.out.cell hb2 hlt 0 (by decide)
    obtain ⟨u1, d1'⟩ := HS.out.cell hb2 hlt 1 (by decide)
    obtain ⟨u2, d2'⟩ := HS.out.cell hb2 hlt 2 (by decide)
    rw [Nat.add_zero] at d0'
    have fz := HS.out.free hb2
    simp only [vals, List.map, val, puts] at HST
    clear ho hb2 KI HS c0 c1 c2
    go_wp2_with fail
    go_roundw
    case rel => exact ⟨i + 1, A ++ [D.int n0, D.int n1, D.str s2], rest, HD2.out, HAL2.out, HFR.out, by go_num, HST.out⟩
    case measure => simp [intOf]; omega
end Go.Proofs.YtkmclgofghaeoaaGreat.Data
