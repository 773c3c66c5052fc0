/-
  laws.toClassInfo and toClassInfoS: they copy into memory of their own.
  laws.toStore and toStoreS: they copy into memory of their own.
-/
import Derived.Test.YtoaocpfehdcfgaaGreatDoorBDataLay
import Derived.Test.YtoaocpfehdcfgaaGreatDoorBDataTree
import Derived.Test.YtoaocpfehdcfgaaGreatDoorBToObject
namespace Go.Proofs.YtoaocpfehdcfgaaGreatDoor.Data
open Go.RowKit
open Strs Tree Texts
set_option linter.unusedSimpArgs false
set_option maxRecDepth 10000 in
set_option maxHeartbeats 4000000 in
theorem to_ClassInfo (lo : Nat) (w : World) (ds : List D) (hw : weights (erases ds) ≤ 1048576) (hf : FitL (env 6) (erases ds)) (hh : Holdss lo w ds) :
    Calls Tryz.prog 38 #[agg ds] w fun r w' => ∃ es, r = .returned (agg es) ∧ erases es = erases ds ∧ Own w.heap.size w' es ∧ Below w.heap.size w w' := by
  obtain ⟨s0, e0, rfl, hf_0⟩ := fitL_str hf
  clear hf
  obtain ⟨n1, e1, rfl, hf_1⟩ := fitL_int hf_0
  clear hf_0
  obtain ⟨t2, v2, d2, e2, rfl, f2, hf_2⟩ := fitL_row (k := 1) rfl hf_1
  clear hf_1
  obtain rfl := fitL_nil hf_2
  clear hf_2
  simp only [Holdss, and_true] at hh
  obtain ⟨h0, h1, h2⟩ := hh
  have hw2 : weight (.row 1 (erases d2)) ≤ 1048576 := by simp only [erases, erase, weights] at hw; omega
  have K2 := fun (w' : World) (hb : Below w.heap.size w w') => Lib.hid (toS_String lo t2 w' v2 d2 hw2 f2 (h2.below hb))
  have P0 := Lib.hid h0
  have P1 := Lib.hid h1
  clear hw h0 h1 h2 hw2 f2
  have B0 : Hid (Box w [D.str s0, D.int n1, D.row t2 1 v2 d2] [D.str ⟨#[]⟩, D.int 0, D.row 0 1 (.slice none 0 0) []] [D.str s0, D.int n1, D.row 0 1 (.slice none 0 0) []] (((w.alloc (Obj.cells #[Value.string s0, Value.int .i64 n1, v2] 59)).alloc (Obj.cells #[Value.string { data := #[] }, Value.int .i64 0, Value.slice none 0 0] 78)).alloc (Obj.cells #[Value.string s0, Value.int .i64 n1, Value.slice none 0 0] 78))) := Lib.hid (box_new w [D.str s0, D.int n1, D.row t2 1 v2 d2] [D.str ⟨#[]⟩, D.int 0, D.row 0 1 (.slice none 0 0) []] [D.str s0, D.int n1, D.row 0 1 (.slice none 0 0) []] _ _ _)
  rw [show agg [D.str s0, D.int n1, D.row t2 1 v2 d2] = Value.agg #[Value.string s0, Value.int .i64 n1, v2] from rfl]
  go_enter Tryz.func38, Tryz.ntmps38
  have a2 := B0.out.a.at 2 (D.row t2 1 v2 d2) rfl
  simp only [val] at a2
  go_wp2_with fail
  refine (K2 _ B0.out.below).out.mono ?_
  rintro e w1 ⟨ya2, yn2, yc2, yd2, rfl, he2, hr2, hb1⟩
  have HE2 := Lib.hid he2
  clear he2
  have on1 := row_iff.2 hr2
  have OW1 := Lib.hid (on1.mono (base' := w.heap.size + 3) B0.out.size)
  have B1 := Lib.hid (B0.out.step hb1)
  clear hb1 on1 K2 B0 a2 hr2
  have b0 := B1.out.b.at 0 (D.str ⟨#[]⟩) rfl
  have c0 := B1.out.c.at 0 (D.str s0) rfl
  simp only [val] at b0 c0
  have b1 := B1.out.b.at 1 (D.int 0) rfl
  have c1 := B1.out.c.at 1 (D.int n1) rfl
  simp only [val] at b1 c1
  have b2 := B1.out.b.at 2 (D.row 0 1 (.slice none 0 0) []) rfl
  have c2 := B1.out.c.at 2 (D.row 0 1 (.slice none 0 0) []) rfl
  simp only [val] at b2 c2
  have fb := B1.out.fb
  have fc := B1.out.fc
  go_wp2_with fail
  refine bodyPost_ret (v := .agg #[Value.string s0, Value.int .i64 n1, Value.slice ya2 yn2 yc2]) (by simp [results, Tryz.results38, go_sem, *]) rfl ?_
  have g1 : w.heap.size + 1 + 1 < w.heap.size + 3 := by omega
  have g2 : w.heap.size + 1 < w.heap.size + 3 := by omega
  have g3 : w.heap.size ≤ w.heap.size + 1 + 1 := by omega
  have g4 : w.heap.size ≤ w.heap.size + 1 := by omega
  have OWN := ((((OW1.out.setLow g1 2 (Value.slice ya2 yn2 yc2)).setLow g2 0 (Value.string s0)).setLow g2 1 (Value.int .i64 n1)).setLow g2 2 (Value.slice ya2 yn2 yc2))
  refine ⟨[D.str s0, D.int n1, D.row 9 1 (.slice ya2 yn2 yc2) yd2], rfl, ?_, ?_, ((((B1.out.below.setCell g3 _).setCell g4 _).setCell g4 _).setCell g4 _)⟩
  · simp only [erases, erase, HE2.out]
  · refine ⟨?_, ?_, ?_⟩
    · have hg := OWN.good
      simp only [goods_iff, List.mem_append, List.mem_cons, List.not_mem_nil, or_false] at hg ⊢
      intro d hd
      rcases hd with rfl | rfl | rfl
      · have h := P0.out; rw [Holds] at h; rw [Good]; exact h
      · have h := P1.out; rw [Holds] at h; rw [Good]; exact h
      · exact hg _ (by simp)
    · have h := OWN.nd
      simp only [foots, foot, foots_append, List.append_nil, List.nil_append, List.append_assoc] at h ⊢
      exact h
    · have h := OWN.lo
      intro b hb
      refine Nat.le_trans (by omega) (h b ?_)
      simp only [foots, foot, foots_append, List.append_nil, List.nil_append, List.append_assoc] at hb ⊢
      exact hb
theorem info_ClassInfo : (Tryz.prog.info? 78).map (fun i => (i.zero, i.size, i.bytes)) = some (some (.agg #[.string ByteArray.empty, .int .i64 0, .slice none 0 0]), 3, 48) := by kernel_rfl
set_option maxRecDepth 10000 in
set_option maxHeartbeats 8000000 in
theorem toS_ClassInfo (lo t : Nat) (w : World) (v : Value) (ds : List D) (hw : weight (.row 3 (erases ds)) ≤ 1048576) (hf : FitRow 6 (erases ds)) (hh : Holds lo w (.row t 3 v ds)) :
    Calls Tryz.prog 17 #[v] w fun r w' => ∃ a n c es, r = .returned (.slice a n c) ∧ erases es = erases ds ∧ Row w.heap.size w' 78 3 (.slice a n c) es ∧ Below w.heap.size w w' := by
  rw [Holds] at hh
  obtain ⟨⟨a, n, cap, rfl, -, hn, hnc, hcm, hc⟩, hds⟩ := hh
  have hnw : n + weights (erases ds) ≤ 1048576 := by
    rw [weight, erases_len, hn, Nat.mul_div_cancel _ (by decide)] at hw
    exact hw
  have hm2 : n ≤ 1048576 := by omega
  obtain ⟨i0, hi, hz0, hz1, hz2⟩ := info_parts info_ClassInfo
  have HN := Lib.hid hn
  have HF := Lib.hid hf
  have HDS := Lib.hid hds
  have HWN := Lib.hid hnw
  clear hn hf hds hcm hw hnw
  by_cases hp : 0 < n
  rotate_left
  · have hn0 : n = 0 := by omega
    subst hn0
    have hd0 : ds = [] := List.eq_nil_of_length_eq_zero (by have := HN.out; omega)
    subst hd0
    clear hc HN HF HDS HWN
    go_enter Tryz.func17, Tryz.ntmps17
    go_wp2_with (at_make; refine wpList_make_full _ rfl _ _ 32 rfl w.heap.size 78 i0 _ 3 Tryz.underlying32 hi hz0 hz1 .i64 .i64 _ _ 0 rfl rfl rfl rfl ?c2 ?c3 (Nat.le_refl _) ?_)
    case c2 => omega
    case c3 => unfold maxLen; omega
    intro w1 hown hgr
    have hbl : Below w.heap.size w w1 := (Below.refl _ _).grown hgr (Nat.le_refl _) (by simp)
    have HO : Hid (SomeD w 78 3 0 [] 0 w1) := Lib.hid (someD_start hown hbl)
    clear hown hgr
    go_wp2_with fail
    refine wp_loop_rounds 1 ?_
    rw [rounds_succ]
    go_wp2_with fail
    go_ret
    obtain ⟨es, he, hr⟩ := someD_all (by decide) (by simp) HO.out
    exact ⟨_, _, _, es, rfl, he, hr, hbl⟩
  obtain ⟨b, off, rfl, hb, hc⟩ := hc hp
  have HC := Lib.hid hc
  clear hc hb
  go_enter Tryz.func17, Tryz.ntmps17
  go_wp2_with (at_make; refine wpList_make_full _ rfl _ _ 32 rfl w.heap.size 78 i0 _ 3 Tryz.underlying32 hi hz0 hz1 .i64 .i64 _ _ n rfl rfl rfl rfl ?c2 ?c3 (Nat.le_refl _) ?_)
  case c2 => rw [hz2]; omega
  case c3 => unfold maxLen; omega
  intro w1 hown hgr
  have hbl : Below w.heap.size w w1 := (Below.refl _ _).grown hgr (Nat.le_refl _) (by simp)
  have HO : Hid (SomeD w 78 3 n ds 0 w1) := Lib.hid (someD_start hown hbl)
  clear hown hgr hbl
  go_wp2_with fail
  go_loopw [4] (fun j wr => ∃ (i : Nat) (A R : List D), ds = A ++ R ∧ A.length = i * 3 ∧ FitRow 6 (erases R) ∧ j = .int .i64 i ∧ SomeD w 78 3 n ds i wr) (fun j _ => n - (intOf j).toNat)
  case atStart => exact ⟨0, [], ds, rfl, by simp, HF.out, rfl, HO.out⟩
  case round =>
    obtain ⟨i, A, R, hds, hal, hfr, rfl, hs⟩ := hrel
    have HD := Lib.hid hds
    have HAL := Lib.hid hal
    have HS := Lib.hid hs
    clear hds hal hs
    rcases fitRow_cases hfr with rfl | ⟨item, rest, rfl, hfi, hfrest⟩
    · have hin : i = n := by
        have h1 := HN.out
        rw [HD.out, List.append_nil, HAL.out] at h1
        omega
      subst hin
      clear hfr
      go_wp2_with fail
      go_ret
      obtain ⟨es, he, hr⟩ := someD_all (by decide) HN.out HS.out
      exact ⟨_, _, _, es, rfl, he, hr, HS.out.2.1⟩
    have hil : item.length = 3 := by have := fitL_len hfi; rw [erases_len] at this; exact this
    have hlt : i < n := by
      have h1 := HN.out
      rw [HD.out, List.length_append, List.length_append, HAL.out, hil] at h1
      omega
    have HFI := Lib.hid hfi
    have HFR := Lib.hid hfrest
    clear hil hfr hfrest
    obtain ⟨s0, e0, rfl, hfi_0⟩ := fitL_str hfi
    clear hfi
    obtain ⟨n1, e1, rfl, hfi_1⟩ := fitL_int hfi_0
    clear hfi_0
    obtain ⟨t2, v2, d2, e2, rfl, f2, hfi_2⟩ := fitL_row (k := 1) rfl hfi_1
    clear hfi_1
    obtain rfl := fitL_nil hfi_2
    clear hfi_2
    have hbw := HS.out.2.1
    have c0 := cell_keep hbw (row_at0 HC.out HD.out HAL.out (D.str s0) rfl)
    simp only [val] at c0
    have c1 := cell_keep hbw (row_at HC.out HD.out HAL.out 1 (D.int n1) rfl)
    simp only [val] at c1
    have c2 := cell_keep hbw (row_at HC.out HD.out HAL.out 2 (D.row t2 1 v2 d2) rfl)
    simp only [val] at c2
    have hit : Holdss lo wr [D.str s0, D.int n1, D.row t2 1 v2 d2] := ((Holdss.append.1 ((Holdss.append.1 (HD.out ▸ HDS.out)).2)).1).below hbw
    have hwi : weights (erases [D.str s0, D.int n1, D.row t2 1 v2 d2]) ≤ 1048576 := by have h1 := HWN.out; rw [HD.out, erases_append, erases_append, weights_append, weights_append] at h1; omega
    have KI := Lib.hid (to_ClassInfo lo wr [D.str s0, D.int n1, D.row t2 1 v2 d2] hwi HFI.out hit)
    have HD2 : Hid (ds = (A ++ [D.str s0, D.int n1, D.row t2 1 v2 d2]) ++ rest) := Lib.hid (by rw [HD.out, List.append_assoc])
    have HAL2 : Hid ((A ++ [D.str s0, D.int n1, D.row t2 1 v2 d2]).length = (i + 1) * 3) := Lib.hid (by rw [List.length_append, HAL.out, Nat.succ_mul]; rfl)
    clear hit hwi hbw f2
    rw [show agg [D.str s0, D.int n1, D.row t2 1 v2 d2] = Value.agg #[Value.string s0, Value.int .i64 n1, v2] from rfl] at KI
    go_wp2_with fail
    refine KI.out.mono ?_
    rintro e w2 ⟨es, rfl, he, ho, hb2⟩
    have hg : FitL (env 6) (erases es) := he ▸ HFI.out
    have HST := Lib.hid (someD_step HS.out hb2 ho he HD.out HAL.out rfl hlt)
    obtain ⟨ys0, ye0, rfl, hg_0⟩ := fitL_str hg
    clear hg
    obtain ⟨yn1, ye1, rfl, hg_1⟩ := fitL_int hg_0
    clear hg_0
    obtain ⟨yt2, yv2, yd2, ye2, rfl, yf2, hg_2⟩ := fitL_row (k := 1) rfl hg_1
    clear hg_1
    obtain rfl := fitL_nil hg_2
    clear hg_2
    replace he := he.symm
    simp only [erases, erase, List.cons.injEq, P.int.injEq, P.str.injEq, P.row.injEq, true_and,  and_true] at he
    obtain ⟨rfl, rfl, g2⟩ := he
    obtain ⟨ya2, yn2, yc2, rfl⟩ := row_slice (goods_iff.1 ho.good (D.row yt2 1 yv2 yd2) (by simp))
    rw [show agg [D.str s0, D.int n1, D.row yt2 1 (.slice ya2 yn2 yc2) yd2] = Value.agg #[Value.string s0, Value.int .i64 n1, .slice ya2 yn2 yc2] from rfl]
    obtain ⟨u0, d0'⟩ := HS.out.cell hb2 hlt 0 (by decide)
    obtain ⟨u1, d1'⟩ := HS.out.cell hb2 hlt 1 (by decide)
    obtain ⟨u2, d2'⟩ := HS.out.cell hb2 hlt 2 (by decide)
    rw [Nat.add_zero] at d0'
    have fz := HS.out.free hb2
    simp only [vals, List.map, val, puts] at HST
    clear ho hb2 KI HS c0 c1 c2
    go_wp2_with fail
    go_roundw
    case rel => exact ⟨i + 1, A ++ [D.str s0, D.int n1, D.row t2 1 v2 d2], rest, HD2.out, HAL2.out, HFR.out, by go_num, HST.out⟩
    case measure => simp [intOf]; omega
end Go.Proofs.YtoaocpfehdcfgaaGreatDoor.Data

namespace Go.Proofs.YtoaocpfehdcfgaaGreatDoor.Data
open Go.RowKit
open Strs Tree Texts
set_option linter.unusedSimpArgs false
set_option maxRecDepth 10000 in
set_option maxHeartbeats 4000000 in
theorem to_Store (lo : Nat) (w : World) (ds : List D) (hw : weights (erases ds) ≤ 1048576) (hf : FitL (env 12) (erases ds)) (hh : Holdss lo w ds) :
    Calls Tryz.prog 7 #[agg ds] w fun r w' => ∃ es, r = .returned (agg es) ∧ erases es = erases ds ∧ Own w.heap.size w' es ∧ Below w.heap.size w w' := by
  obtain ⟨t0, v0, d0, e0, rfl, f0, hf_0⟩ := fitL_row (k := 3) rfl hf
  clear hf
  obtain ⟨t1, v1, d1, e1, rfl, f1, hf_1⟩ := fitL_row (k := 4) rfl hf_0
  clear hf_0
  obtain ⟨t2, v2, d2, e2, rfl, f2, hf_2⟩ := fitL_row (k := 1) rfl hf_1
  clear hf_1
  obtain ⟨n3, e3, rfl, hf_3⟩ := fitL_int hf_2
  clear hf_2
  obtain ⟨n4, e4, rfl, hf_4⟩ := fitL_int hf_3
  clear hf_3
  obtain ⟨n5, e5, rfl, hf_5⟩ := fitL_int hf_4
  clear hf_4
  obtain rfl := fitL_nil hf_5
  clear hf_5
  simp only [Holdss, and_true] at hh
  obtain ⟨h0, h1, h2, h3, h4, h5⟩ := hh
  have hw0 : weight (.row 3 (erases d0)) ≤ 1048576 := by simp only [erases, erase, weights] at hw; omega
  have hw1 : weight (.row 4 (erases d1)) ≤ 1048576 := by simp only [erases, erase, weights] at hw; omega
  have hw2 : weight (.row 1 (erases d2)) ≤ 1048576 := by simp only [erases, erase, weights] at hw; omega
  have K0 := fun (w' : World) (hb : Below w.heap.size w w') => Lib.hid (toS_ClassInfo lo t0 w' v0 d0 hw0 f0 (h0.below hb))
  have K1 := fun (w' : World) (hb : Below w.heap.size w w') => Lib.hid (toS_Object lo t1 w' v1 d1 hw1 f1 (h1.below hb))
  have K2 := fun (w' : World) (hb : Below w.heap.size w w') => Lib.hid (toS_String lo t2 w' v2 d2 hw2 f2 (h2.below hb))
  have P3 := Lib.hid h3
  have P4 := Lib.hid h4
  have P5 := Lib.hid h5
  clear hw h0 h1 h2 h3 h4 h5 hw0 hw1 hw2 f0 f1 f2
  have B0 : Hid (Box w [D.row t0 3 v0 d0, D.row t1 4 v1 d1, D.row t2 1 v2 d2, D.int n3, D.int n4, D.int n5] [D.row 0 3 (.slice none 0 0) [], D.row 0 4 (.slice none 0 0) [], D.row 0 1 (.slice none 0 0) [], D.int 0, D.int 0, D.int 0] [D.row 0 3 (.slice none 0 0) [], D.row 0 4 (.slice none 0 0) [], D.row 0 1 (.slice none 0 0) [], D.int 0, D.int 0, D.int 0] (((w.alloc (Obj.cells #[v0, v1, v2, Value.int .i64 n3, Value.int .i64 n4, Value.int .i64 n5] 26)).alloc (Obj.cells #[Value.slice none 0 0, Value.slice none 0 0, Value.slice none 0 0, Value.int .i64 0, Value.int .i64 0, Value.int .i64 0] 35)).alloc (Obj.cells #[Value.slice none 0 0, Value.slice none 0 0, Value.slice none 0 0, Value.int .i64 0, Value.int .i64 0, Value.int .i64 0] 35))) := Lib.hid (box_new w [D.row t0 3 v0 d0, D.row t1 4 v1 d1, D.row t2 1 v2 d2, D.int n3, D.int n4, D.int n5] [D.row 0 3 (.slice none 0 0) [], D.row 0 4 (.slice none 0 0) [], D.row 0 1 (.slice none 0 0) [], D.int 0, D.int 0, D.int 0] [D.row 0 3 (.slice none 0 0) [], D.row 0 4 (.slice none 0 0) [], D.row 0 1 (.slice none 0 0) [], D.int 0, D.int 0, D.int 0] _ _ _)
  rw [show agg [D.row t0 3 v0 d0, D.row t1 4 v1 d1, D.row t2 1 v2 d2, D.int n3, D.int n4, D.int n5] = Value.agg #[v0, v1, v2, Value.int .i64 n3, Value.int .i64 n4, Value.int .i64 n5] from rfl]
  go_enter Tryz.func7, Tryz.ntmps7
  have a0 := B0.out.a.at 0 (D.row t0 3 v0 d0) rfl
  simp only [val] at a0
  go_wp2_with fail
  refine (K0 _ B0.out.below).out.mono ?_
  rintro e w1 ⟨ya0, yn0, yc0, yd0, rfl, he0, hr0, hb1⟩
  have HE0 := Lib.hid he0
  clear he0
  have on1 := row_iff.2 hr0
  have OW1 := Lib.hid (on1.mono (base' := w.heap.size + 3) B0.out.size)
  have B1 := Lib.hid (B0.out.step hb1)
  clear hb1 on1 K0 B0 a0 hr0
  have fc := B1.out.fc
  have c0 := B1.out.c.at 0 (D.row 0 3 (.slice none 0 0) []) rfl
  simp only [val] at c0
  have B1s := Lib.hid (B1.out.set 0 (D.row 78 3 (.slice ya0 yn0 yc0) yd0) (by simp))
  have OW1s := Lib.hid (OW1.out.setLow (g := w.heap.size + 1 + 1) (by omega) 0 (Value.slice ya0 yn0 yc0))
  clear B1 OW1
  have a1 := B1s.out.a.at 1 (D.row t1 4 v1 d1) rfl
  simp only [val] at a1
  go_wp2_with fail
  refine (K1 _ B1s.out.below).out.mono ?_
  rintro e w2 ⟨ya1, yn1, yc1, yd1, rfl, he1, hr1, hb2⟩
  have HE1 := Lib.hid he1
  clear he1
  have on2 := row_iff.2 hr1
  have OW2 := Lib.hid (OW1s.out.snoc hb2 (on2.mono (Nat.le_refl _)) B1s.out.size)
  have B2 := Lib.hid (B1s.out.step hb2)
  clear hb2 on2 K1 B1s fc c0 a1 hr1 OW1s
  have fc := B2.out.fc
  have c1 := B2.out.c.at 1 (D.row 0 4 (.slice none 0 0) []) rfl
  simp only [val] at c1
  have B2s := Lib.hid (B2.out.set 1 (D.row 72 4 (.slice ya1 yn1 yc1) yd1) (by simp))
  have OW2s := Lib.hid (OW2.out.setLow (g := w.heap.size + 1 + 1) (by omega) 1 (Value.slice ya1 yn1 yc1))
  clear B2 OW2
  have a2 := B2s.out.a.at 2 (D.row t2 1 v2 d2) rfl
  simp only [val] at a2
  go_wp2_with fail
  refine (K2 _ B2s.out.below).out.mono ?_
  rintro e w3 ⟨ya2, yn2, yc2, yd2, rfl, he2, hr2, hb3⟩
  have HE2 := Lib.hid he2
  clear he2
  have on3 := row_iff.2 hr2
  have OW3 := Lib.hid (OW2s.out.snoc hb3 (on3.mono (Nat.le_refl _)) B2s.out.size)
  have B3 := Lib.hid (B2s.out.step hb3)
  clear hb3 on3 K2 B2s fc c1 a2 hr2 OW2s
  have b0 := B3.out.b.at 0 (D.row 0 3 (.slice none 0 0) []) rfl
  have c0 := B3.out.c.at 0 (D.row 78 3 (.slice ya0 yn0 yc0) yd0) rfl
  simp only [val] at b0 c0
  have b1 := B3.out.b.at 1 (D.row 0 4 (.slice none 0 0) []) rfl
  have c1 := B3.out.c.at 1 (D.row 72 4 (.slice ya1 yn1 yc1) yd1) rfl
  simp only [val] at b1 c1
  have b2 := B3.out.b.at 2 (D.row 0 1 (.slice none 0 0) []) rfl
  have c2 := B3.out.c.at 2 (D.row 0 1 (.slice none 0 0) []) rfl
  simp only [val] at b2 c2
  have b3 := B3.out.b.at 3 (D.int 0) rfl
  have c3 := B3.out.c.at 3 (D.int 0) rfl
  simp only [val] at b3 c3
  have b4 := B3.out.b.at 4 (D.int 0) rfl
  have c4 := B3.out.c.at 4 (D.int 0) rfl
  simp only [val] at b4 c4
  have b5 := B3.out.b.at 5 (D.int 0) rfl
  have c5 := B3.out.c.at 5 (D.int 0) rfl
  simp only [val] at b5 c5
  have a3 := B3.out.a.at 3 (D.int n3) rfl
  simp only [val] at a3
  have a4 := B3.out.a.at 4 (D.int n4) rfl
  simp only [val] at a4
  have a5 := B3.out.a.at 5 (D.int n5) rfl
  simp only [val] at a5
  have fb := B3.out.fb
  have fc := B3.out.fc
  go_wp2_with fail
  refine bodyPost_ret (v := .agg #[Value.slice ya0 yn0 yc0, Value.slice ya1 yn1 yc1, Value.slice ya2 yn2 yc2, Value.int .i64 n3, Value.int .i64 n4, Value.int .i64 n5]) (by simp [results, Tryz.results7, go_sem, *]) rfl ?_
  have g1 : w.heap.size + 1 + 1 < w.heap.size + 3 := by omega
  have g2 : w.heap.size + 1 < w.heap.size + 3 := by omega
  have g3 : w.heap.size ≤ w.heap.size + 1 + 1 := by omega
  have g4 : w.heap.size ≤ w.heap.size + 1 := by omega
  have OWN := ((((((((((OW3.out.setLow g1 2 (Value.slice ya2 yn2 yc2)).setLow g1 3 (Value.int .i64 n3)).setLow g1 4 (Value.int .i64 n4)).setLow g1 5 (Value.int .i64 n5)).setLow g2 0 (Value.slice ya0 yn0 yc0)).setLow g2 1 (Value.slice ya1 yn1 yc1)).setLow g2 2 (Value.slice ya2 yn2 yc2)).setLow g2 3 (Value.int .i64 n3)).setLow g2 4 (Value.int .i64 n4)).setLow g2 5 (Value.int .i64 n5))
  refine ⟨[D.row 78 3 (.slice ya0 yn0 yc0) yd0, D.row 72 4 (.slice ya1 yn1 yc1) yd1, D.row 9 1 (.slice ya2 yn2 yc2) yd2, D.int n3, D.int n4, D.int n5], rfl, ?_, ?_, ((((((((((B3.out.below.setCell g3 _).setCell g3 _).setCell g3 _).setCell g3 _).setCell g4 _).setCell g4 _).setCell g4 _).setCell g4 _).setCell g4 _).setCell g4 _)⟩
  · simp only [erases, erase, HE0.out, HE1.out, HE2.out]
  · refine ⟨?_, ?_, ?_⟩
    · have hg := OWN.good
      simp only [goods_iff, List.mem_append, List.mem_cons, List.not_mem_nil, or_false] at hg ⊢
      intro d hd
      rcases hd with rfl | rfl | rfl | rfl | rfl | rfl
      · exact hg _ (by simp)
      · exact hg _ (by simp)
      · exact hg _ (by simp)
      · have h := P3.out; rw [Holds] at h; rw [Good]; exact h
      · have h := P4.out; rw [Holds] at h; rw [Good]; exact h
      · have h := P5.out; rw [Holds] at h; rw [Good]; exact h
    · have h := OWN.nd
      simp only [foots, foot, foots_append, List.append_nil, List.nil_append, List.append_assoc] at h ⊢
      exact h
    · have h := OWN.lo
      intro b hb
      refine Nat.le_trans (by omega) (h b ?_)
      simp only [foots, foot, foots_append, List.append_nil, List.nil_append, List.append_assoc] at hb ⊢
      exact hb
end Go.Proofs.YtoaocpfehdcfgaaGreatDoor.Data
