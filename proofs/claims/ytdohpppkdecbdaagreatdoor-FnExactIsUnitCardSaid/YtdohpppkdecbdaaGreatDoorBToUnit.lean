/-
  laws.toClassDef and toClassDefS: they copy into memory of their own.
  laws.toUnit and toUnitS: they copy into memory of their own.
-/
import Derived.Test.YtdohpppkdecbdaaGreatDoorBDataStr
import Derived.Test.YtdohpppkdecbdaaGreatDoorBSzExpr
import Derived.Test.YtdohpppkdecbdaaGreatDoorBToExpr
import Derived.Test.YtdohpppkdecbdaaGreatDoorBToMethod
namespace Go.Proofs.YtdohpppkdecbdaaGreatDoor.Data
open Go.RowKit
open Strs Tree Texts
set_option maxRecDepth 10000 in
set_option maxHeartbeats 4000000 in
theorem to_ClassDef (lo : Nat) (w : World) (ds : List D) (hw : weights (erases ds) ≤ 1048576) (hf : FitL (env 4) (erases ds)) (hh : Holdss lo w ds) :
    Calls Tryz.prog 32 #[agg ds] w fun r w' => ∃ es, r = .returned (agg es) ∧ erases es = erases ds ∧ Own w.heap.size w' es ∧ Below w.heap.size w w' := by
  obtain ⟨s0, e0, rfl, hf_0⟩ := fitL_str hf
  clear hf
  obtain ⟨s1, e1, rfl, hf_1⟩ := fitL_str hf_0
  clear hf_0
  obtain ⟨t2, v2, d2, e2, rfl, f2, hf_2⟩ := fitL_row (k := 1) rfl hf_1
  clear hf_1
  obtain ⟨t3, v3, d3, e3, rfl, f3, hf_3⟩ := fitL_row (k := 5) rfl hf_2
  clear hf_2
  obtain rfl := fitL_nil hf_3
  clear hf_3
  simp only [Holdss, and_true] at hh
  obtain ⟨h0, h1, h2, h3⟩ := hh
  have hw2 : weight (.row 1 (erases d2)) ≤ 1048576 := by simp only [erases, erase, weights] at hw; omega
  have hw3 : weight (.row 5 (erases d3)) ≤ 1048576 := by simp only [erases, erase, weights] at hw; omega
  have K2 := fun (w' : World) (hb : Below w.heap.size w w') => Lib.hid (toS_String lo t2 w' v2 d2 hw2 f2 (h2.below hb))
  have K3 := fun (w' : World) (hb : Below w.heap.size w w') => Lib.hid (toS_Method lo t3 w' v3 d3 hw3 f3 (h3.below hb))
  skip
  have P0 := Lib.hid h0
  have P1 := Lib.hid h1
  clear hw h0 h1 h2 h3 hw2 hw3 f2 f3
  have B0 : Hid (Box w [D.str s0, D.str s1, D.row t2 1 v2 d2, D.row t3 5 v3 d3] [D.str ⟨#[]⟩, D.str ⟨#[]⟩, D.row 0 1 (.slice none 0 0) [], D.row 0 5 (.slice none 0 0) []] [D.str s0, D.str s1, D.row 0 1 (.slice none 0 0) [], D.row 0 5 (.slice none 0 0) []] (((w.alloc (Obj.cells #[Value.string s0, Value.string s1, v2, v3] 62)).alloc (Obj.cells #[Value.string { data := #[] }, Value.string { data := #[] }, Value.slice none 0 0, Value.slice none 0 0] 48)).alloc (Obj.cells #[Value.string s0, Value.string s1, Value.slice none 0 0, Value.slice none 0 0] 48))) := Lib.hid (box_new w [D.str s0, D.str s1, D.row t2 1 v2 d2, D.row t3 5 v3 d3] [D.str ⟨#[]⟩, D.str ⟨#[]⟩, D.row 0 1 (.slice none 0 0) [], D.row 0 5 (.slice none 0 0) []] [D.str s0, D.str s1, D.row 0 1 (.slice none 0 0) [], D.row 0 5 (.slice none 0 0) []] _ _ _)
  rw [show agg [D.str s0, D.str s1, D.row t2 1 v2 d2, D.row t3 5 v3 d3] = Value.agg #[Value.string s0, Value.string s1, v2, v3] from rfl]
  go_enter Tryz.func32, Tryz.ntmps32
  have a2 := B0.out.a.at 2 (D.row t2 1 v2 d2) rfl
  simp only [val] at a2
  go_wp2_with fail
  refine (K2 _ B0.out.below).out.mono ?_
  rintro e w1 ⟨ya2, yn2, yc2, yd2, rfl, he2, hr2, hb1⟩
  have HE2 := Lib.hid he2
  clear he2
  have on1 := row_iff.2 hr2
  have OW1 := Lib.hid (on1.mono (base' := w.heap.size + 3) B0.out.size)
  have B1 := Lib.hid (B0.out.step hb1)
  clear hb1 on1 K2 B0 a2 hr2
  have fc := B1.out.fc
  have c2 := B1.out.c.at 2 (D.row 0 1 (.slice none 0 0) []) rfl
  simp only [val] at c2
  have B1s := Lib.hid (B1.out.set 2 (D.row 9 1 (.slice ya2 yn2 yc2) yd2) (by simp))
  have OW1s := Lib.hid (OW1.out.setLow (g := w.heap.size + 1 + 1) (by omega) 2 (Value.slice ya2 yn2 yc2))
  clear B1 OW1
  have a3 := B1s.out.a.at 3 (D.row t3 5 v3 d3) rfl
  simp only [val] at a3
  go_wp2_with fail
  refine (K3 _ B1s.out.below).out.mono ?_
  rintro e w2 ⟨ya3, yn3, yc3, yd3, rfl, he3, hr3, hb2⟩
  have HE3 := Lib.hid he3
  clear he3
  have on2 := row_iff.2 hr3
  have OW2 := Lib.hid (OW1s.out.snoc hb2 (on2.mono (Nat.le_refl _)) B1s.out.size)
  have B2 := Lib.hid (B1s.out.step hb2)
  clear hb2 on2 K3 B1s fc c2 a3 hr3 OW1s
  have b0 := B2.out.b.at 0 (D.str ⟨#[]⟩) rfl
  have c0 := B2.out.c.at 0 (D.str s0) rfl
  simp only [val] at b0 c0
  have b1 := B2.out.b.at 1 (D.str ⟨#[]⟩) rfl
  have c1 := B2.out.c.at 1 (D.str s1) rfl
  simp only [val] at b1 c1
  have b2 := B2.out.b.at 2 (D.row 0 1 (.slice none 0 0) []) rfl
  have c2 := B2.out.c.at 2 (D.row 9 1 (.slice ya2 yn2 yc2) yd2) rfl
  simp only [val] at b2 c2
  have b3 := B2.out.b.at 3 (D.row 0 5 (.slice none 0 0) []) rfl
  have c3 := B2.out.c.at 3 (D.row 0 5 (.slice none 0 0) []) rfl
  simp only [val] at b3 c3
  have fb := B2.out.fb
  have fc := B2.out.fc
  go_wp2_with fail
  refine bodyPost_ret (v := .agg #[Value.string s0, Value.string s1, Value.slice ya2 yn2 yc2, Value.slice ya3 yn3 yc3]) (by simp [results, Tryz.results32, go_sem, *]) rfl ?_
  have g1 : w.heap.size + 1 + 1 < w.heap.size + 3 := by omega
  have g2 : w.heap.size + 1 < w.heap.size + 3 := by omega
  have g3 : w.heap.size ≤ w.heap.size + 1 + 1 := by omega
  have g4 : w.heap.size ≤ w.heap.size + 1 := by omega
  have OWN := (((((OW2.out.setLow g1 3 (Value.slice ya3 yn3 yc3)).setLow g2 0 (Value.string s0)).setLow g2 1 (Value.string s1)).setLow g2 2 (Value.slice ya2 yn2 yc2)).setLow g2 3 (Value.slice ya3 yn3 yc3))
  refine ⟨[D.str s0, D.str s1, D.row 9 1 (.slice ya2 yn2 yc2) yd2, D.row 34 5 (.slice ya3 yn3 yc3) yd3], rfl, ?_, ?_, (((((B2.out.below.setCell g3 _).setCell g4 _).setCell g4 _).setCell g4 _).setCell g4 _)⟩
  · simp only [erases, erase, HE2.out, HE3.out]
  · refine ⟨?_, ?_, ?_⟩
    · have hg := OWN.good
      simp only [goods_iff, List.mem_append, List.mem_cons, List.not_mem_nil, or_false] at hg ⊢
      intro d hd
      rcases hd with rfl | rfl | rfl | rfl
      · have h := P0.out; rw [Holds] at h; rw [Good]; exact h
      · have h := P1.out; rw [Holds] at h; rw [Good]; exact h
      · exact hg _ (by simp)
      · exact hg _ (by simp)
    · have h := OWN.nd
      simp only [foots, foot, foots_append, List.append_nil, List.nil_append, List.append_assoc] at h ⊢
      exact h
    · have h := OWN.lo
      intro b hb
      refine Nat.le_trans (by omega) (h b ?_)
      simp only [foots, foot, foots_append, List.append_nil, List.nil_append, List.append_assoc] at hb ⊢
      exact hb
theorem info_ClassDef : (Tryz.prog.info? 48).map (fun i => (i.zero, i.size, i.bytes)) = some (some (.agg #[.string ByteArray.empty, .string ByteArray.empty, .slice none 0 0, .slice none 0 0]), 4, 80) := by kernel_rfl
set_option maxRecDepth 10000 in
set_option maxHeartbeats 8000000 in
theorem toS_ClassDef (lo t : Nat) (w : World) (v : Value) (ds : List D) (hw : weight (.row 4 (erases ds)) ≤ 1048576) (hf : FitRow 4 (erases ds)) (hh : Holds lo w (.row t 4 v ds)) :
    Calls Tryz.prog 15 #[v] w fun r w' => ∃ a n c es, r = .returned (.slice a n c) ∧ erases es = erases ds ∧ Row w.heap.size w' 48 4 (.slice a n c) es ∧ Below w.heap.size w w' := by
  rw [Holds] at hh
  obtain ⟨⟨a, n, cap, rfl, -, hn, hnc, hcm, hc⟩, hds⟩ := hh
  have hnw : n + weights (erases ds) ≤ 1048576 := by
    rw [weight, erases_len, hn, Nat.mul_div_cancel _ (by decide)] at hw
    exact hw
  have hm2 : n ≤ 1048576 := by omega
  obtain ⟨i0, hi, hz0, hz1, hz2⟩ := info_parts info_ClassDef
  have HN := Lib.hid hn
  have HF := Lib.hid hf
  have HDS := Lib.hid hds
  have HWN := Lib.hid hnw
  clear hn hf hds hcm hw hnw
  by_cases hp : 0 < n
  rotate_left
  · have hn0 : n = 0 := by omega
    subst hn0
    have hd0 : ds = [] := List.eq_nil_of_length_eq_zero (by have := HN.out; omega)
    subst hd0
    clear hc HN HF HDS HWN
    go_enter Tryz.func15, Tryz.ntmps15
    go_wp2_with (at_make; refine wpList_make_full _ rfl _ _ 31 rfl w.heap.size 48 i0 _ 4 Tryz.underlying31 hi hz0 hz1 .i64 .i64 _ _ 0 rfl rfl rfl rfl ?c2 ?c3 (Nat.le_refl _) ?_)
    case c2 => omega
    case c3 => unfold maxLen; omega
    intro w1 hown hgr
    have hbl : Below w.heap.size w w1 := (Below.refl _ _).grown hgr (Nat.le_refl _) (by simp)
    have HO : Hid (SomeD w 48 4 0 [] 0 w1) := Lib.hid (someD_start hown hbl)
    clear hown hgr
    go_wp2_with fail
    refine wp_loop_rounds 1 ?_
    rw [rounds_succ]
    go_wp2_with fail
    go_ret
    obtain ⟨es, he, hr⟩ := someD_all (by decide) (by simp) HO.out
    exact ⟨_, _, _, es, rfl, he, hr, hbl⟩
  obtain ⟨b, off, rfl, hb, hc⟩ := hc hp
  have HC := Lib.hid hc
  clear hc hb
  go_enter Tryz.func15, Tryz.ntmps15
  go_wp2_with (at_make; refine wpList_make_full _ rfl _ _ 31 rfl w.heap.size 48 i0 _ 4 Tryz.underlying31 hi hz0 hz1 .i64 .i64 _ _ n rfl rfl rfl rfl ?c2 ?c3 (Nat.le_refl _) ?_)
  case c2 => rw [hz2]; omega
  case c3 => unfold maxLen; omega
  intro w1 hown hgr
  have hbl : Below w.heap.size w w1 := (Below.refl _ _).grown hgr (Nat.le_refl _) (by simp)
  have HO : Hid (SomeD w 48 4 n ds 0 w1) := Lib.hid (someD_start hown hbl)
  clear hown hgr hbl
  go_wp2_with fail
  go_loopw [4] (fun j wr => ∃ (i : Nat) (A R : List D), ds = A ++ R ∧ A.length = i * 4 ∧ FitRow 4 (erases R) ∧ j = .int .i64 i ∧ SomeD w 48 4 n ds i wr) (fun j _ => n - (intOf j).toNat)
  case atStart => exact ⟨0, [], ds, rfl, by simp, HF.out, rfl, HO.out⟩
  case round =>
    obtain ⟨i, A, R, hds, hal, hfr, rfl, hs⟩ := hrel
    have HD := Lib.hid hds
    have HAL := Lib.hid hal
    have HS := Lib.hid hs
    clear hds hal hs
    rcases fitRow_cases hfr with rfl | ⟨item, rest, rfl, hfi, hfrest⟩
    · have hin : i = n := by
        have h1 := HN.out
        rw [HD.out, List.append_nil, HAL.out] at h1
        omega
      subst hin
      clear hfr
      go_wp2_with fail
      go_ret
      obtain ⟨es, he, hr⟩ := someD_all (by decide) HN.out HS.out
      exact ⟨_, _, _, es, rfl, he, hr, HS.out.2.1⟩
    have hil : item.length = 4 := by have := fitL_len hfi; rw [erases_len] at this; exact this
    have hlt : i < n := by
      have h1 := HN.out
      rw [HD.out, List.length_append, List.length_append, HAL.out, hil] at h1
      omega
    have HFI := Lib.hid hfi
    have HFR := Lib.hid hfrest
    clear hil hfr hfrest
    obtain ⟨s0, e0, rfl, hfi_0⟩ := fitL_str hfi
    clear hfi
    obtain ⟨s1, e1, rfl, hfi_1⟩ := fitL_str hfi_0
    clear hfi_0
    obtain ⟨t2, v2, d2, e2, rfl, f2, hfi_2⟩ := fitL_row (k := 1) rfl hfi_1
    clear hfi_1
    obtain ⟨t3, v3, d3, e3, rfl, f3, hfi_3⟩ := fitL_row (k := 5) rfl hfi_2
    clear hfi_2
    obtain rfl := fitL_nil hfi_3
    clear hfi_3
    have hbw := HS.out.2.1
    have c0 := cell_keep hbw (row_at0 HC.out HD.out HAL.out (D.str s0) rfl)
    simp only [val] at c0
    have c1 := cell_keep hbw (row_at HC.out HD.out HAL.out 1 (D.str s1) rfl)
    simp only [val] at c1
    have c2 := cell_keep hbw (row_at HC.out HD.out HAL.out 2 (D.row t2 1 v2 d2) rfl)
    simp only [val] at c2
    have c3 := cell_keep hbw (row_at HC.out HD.out HAL.out 3 (D.row t3 5 v3 d3) rfl)
    simp only [val] at c3
    have hit : Holdss lo wr [D.str s0, D.str s1, D.row t2 1 v2 d2, D.row t3 5 v3 d3] := ((Holdss.append.1 ((Holdss.append.1 (HD.out ▸ HDS.out)).2)).1).below hbw
    have hwi : weights (erases [D.str s0, D.str s1, D.row t2 1 v2 d2, D.row t3 5 v3 d3]) ≤ 1048576 := by have h1 := HWN.out; rw [HD.out, erases_append, erases_append, weights_append, weights_append] at h1; omega
    have KI := Lib.hid (to_ClassDef lo wr [D.str s0, D.str s1, D.row t2 1 v2 d2, D.row t3 5 v3 d3] hwi HFI.out hit)
    have HD2 : Hid (ds = (A ++ [D.str s0, D.str s1, D.row t2 1 v2 d2, D.row t3 5 v3 d3]) ++ rest) := Lib.hid (by rw [HD.out, List.append_assoc])
    have HAL2 : Hid ((A ++ [D.str s0, D.str s1, D.row t2 1 v2 d2, D.row t3 5 v3 d3]).length = (i + 1) * 4) := Lib.hid (by rw [List.length_append, HAL.out, Nat.succ_mul]; rfl)
    clear hit hwi hbw f2 f3
    rw [show agg [D.str s0, D.str s1, D.row t2 1 v2 d2, D.row t3 5 v3 d3] = Value.agg #[Value.string s0, Value.string s1, v2, v3] from rfl] at KI
    go_wp2_with fail
    refine KI.out.mono ?_
    rintro e w2 ⟨es, rfl, he, ho, hb2⟩
    have hg : FitL (env 4) (erases es) := he ▸ HFI.out
    have HST := Lib.hid (someD_step HS.out hb2 ho he HD.out HAL.out rfl hlt)
    obtain ⟨ys0, ye0, rfl, hg_0⟩ := fitL_str hg
    clear hg
    obtain ⟨ys1, ye1, rfl, hg_1⟩ := fitL_str hg_0
    clear hg_0
    obtain ⟨yt2, yv2, yd2, ye2, rfl, yf2, hg_2⟩ := fitL_row (k := 1) rfl hg_1
    clear hg_1
    obtain ⟨yt3, yv3, yd3, ye3, rfl, yf3, hg_3⟩ := fitL_row (k := 5) rfl hg_2
    clear hg_2
    obtain rfl := fitL_nil hg_3
    clear hg_3
    replace he := he.symm
    simp only [erases, erase, List.cons.injEq, P.str.injEq, P.row.injEq, true_and,  and_true] at he
    obtain ⟨rfl, rfl, g2, g3⟩ := he
    obtain ⟨ya2, yn2, yc2, rfl⟩ := row_slice (goods_iff.1 ho.good (D.row yt2 1 yv2 yd2) (by simp))
    obtain ⟨ya3, yn3, yc3, rfl⟩ := row_slice (goods_iff.1 ho.good (D.row yt3 5 yv3 yd3) (by simp))
    rw [show agg [D.str s0, D.str s1, D.row yt2 1 (.slice ya2 yn2 yc2) yd2, D.row yt3 5 (.slice ya3 yn3 yc3) yd3] = Value.agg #[Value.string s0, Value.string s1, .slice ya2 yn2 yc2, .slice ya3 yn3 yc3] from rfl]
    obtain ⟨u0, d0'⟩ := HS.out.cell hb2 hlt 0 (by decide)
    obtain ⟨u1, d1'⟩ := HS.out.cell hb2 hlt 1 (by decide)
    obtain ⟨u2, d2'⟩ := HS.out.cell hb2 hlt 2 (by decide)
    obtain ⟨u3, d3'⟩ := HS.out.cell hb2 hlt 3 (by decide)
    rw [Nat.add_zero] at d0'
    have fz := HS.out.free hb2
    simp only [vals, List.map, val, puts] at HST
    clear ho hb2 KI HS c0 c1 c2 c3
    go_wp2_with fail
    go_roundw
    case rel => exact ⟨i + 1, A ++ [D.str s0, D.str s1, D.row t2 1 v2 d2, D.row t3 5 v3 d3], rest, HD2.out, HAL2.out, HFR.out, by go_num, HST.out⟩
    case measure => simp [intOf]; omega
end Go.Proofs.YtdohpppkdecbdaaGreatDoor.Data

namespace Go.Proofs.YtdohpppkdecbdaaGreatDoor.Data
open Go.RowKit
open Strs Tree Texts
set_option maxRecDepth 10000 in
set_option maxHeartbeats 4000000 in
theorem to_Unit (lo : Nat) (w : World) (ds : List D) (hw : weights (erases ds) ≤ 1048576) (hf : FitL (env 5) (erases ds)) (hh : Holdss lo w ds) :
    Calls Tryz.prog 6 #[agg ds] w fun r w' => ∃ es, r = .returned (agg es) ∧ erases es = erases ds ∧ Own w.heap.size w' es ∧ Below w.heap.size w w' := by
  obtain ⟨t0, v0, d0, e0, rfl, f0, hf_0⟩ := fitL_row (k := 4) rfl hf
  clear hf
  obtain ⟨s1, e1, rfl, hf_1⟩ := fitL_str hf_0
  clear hf_0
  obtain ⟨x2, e2, rfl, hf_2⟩ := fitL_bool hf_1
  clear hf_1
  obtain ⟨t3, v3, d3, e3, rfl, f3, hf_3⟩ := fitL_row (k := 1) rfl hf_2
  clear hf_2
  obtain ⟨t4, v4, d4, e4, rfl, f4, hf_4⟩ := fitL_row (k := 1) rfl hf_3
  clear hf_3
  obtain ⟨t5, v5, d5, e5, rfl, f5, hf_5⟩ := fitL_row (k := 5) rfl hf_4
  clear hf_4
  obtain rfl := fitL_nil hf_5
  clear hf_5
  simp only [Holdss, and_true] at hh
  obtain ⟨h0, h1, h2, h3, h4, h5⟩ := hh
  have hw0 : weight (.row 4 (erases d0)) ≤ 1048576 := by simp only [erases, erase, weights] at hw; omega
  have hw1 : weights (erases [D.str s1, D.bool x2, D.row t3 1 v3 d3, D.row t4 1 v4 d4, D.row t5 5 v5 d5]) ≤ 1048576 := by simp only [erases, erase, weights] at hw ⊢; omega
  have K0 := fun (w' : World) (hb : Below w.heap.size w w') => Lib.hid (toS_ClassDef lo t0 w' v0 d0 hw0 f0 (h0.below hb))
  have K1 := fun (w' : World) (hb : Below w.heap.size w w') => Lib.hid (to_Method lo w' [D.str s1, D.bool x2, D.row t3 1 v3 d3, D.row t4 1 v4 d4, D.row t5 5 v5 d5] hw1 (FitL.cons _ _ _ _ (Fit.str _) (FitL.cons _ _ _ _ (Fit.bool _) (FitL.cons _ _ _ _ (Fit.row _ _ _ rfl f3) (FitL.cons _ _ _ _ (Fit.row _ _ _ rfl f4) (FitL.cons _ _ _ _ (Fit.row _ _ _ rfl f5) FitL.nil))))) (Holdss.below ⟨h1, h2, h3, h4, h5, trivial⟩ hb))
  have FN1 : Hid (FitL (env 3) (erases [D.str s1, D.bool x2, D.row t3 1 v3 d3, D.row t4 1 v4 d4, D.row t5 5 v5 d5])) := Lib.hid (FitL.cons _ _ _ _ (Fit.str _) (FitL.cons _ _ _ _ (Fit.bool _) (FitL.cons _ _ _ _ (Fit.row _ _ _ rfl f3) (FitL.cons _ _ _ _ (Fit.row _ _ _ rfl f4) (FitL.cons _ _ _ _ (Fit.row _ _ _ rfl f5) FitL.nil)))))
  have P1 := Lib.hid h1
  have P2 := Lib.hid h2
  clear hw h0 h1 h2 h3 h4 h5 hw0 hw1 f0 f3 f4 f5
  have B0 : Hid (Box w [D.row t0 4 v0 d0, D.str s1, D.bool x2, D.row t3 1 v3 d3, D.row t4 1 v4 d4, D.row t5 5 v5 d5] [D.row 0 4 (.slice none 0 0) [], D.str ⟨#[]⟩, D.bool false, D.row 0 1 (.slice none 0 0) [], D.row 0 1 (.slice none 0 0) [], D.row 0 5 (.slice none 0 0) []] [D.row 0 4 (.slice none 0 0) [], D.str ⟨#[]⟩, D.bool false, D.row 0 1 (.slice none 0 0) [], D.row 0 1 (.slice none 0 0) [], D.row 0 5 (.slice none 0 0) []] (((w.alloc (Obj.cells #[v0, Value.string s1, Value.bool x2, v3, v4, v5] 28)).alloc (Obj.cells #[Value.slice none 0 0, Value.string { data := #[] }, Value.bool false, Value.slice none 0 0, Value.slice none 0 0, Value.slice none 0 0] 36)).alloc (Obj.cells #[Value.slice none 0 0, Value.string { data := #[] }, Value.bool false, Value.slice none 0 0, Value.slice none 0 0, Value.slice none 0 0] 36))) := Lib.hid (box_new w [D.row t0 4 v0 d0, D.str s1, D.bool x2, D.row t3 1 v3 d3, D.row t4 1 v4 d4, D.row t5 5 v5 d5] [D.row 0 4 (.slice none 0 0) [], D.str ⟨#[]⟩, D.bool false, D.row 0 1 (.slice none 0 0) [], D.row 0 1 (.slice none 0 0) [], D.row 0 5 (.slice none 0 0) []] [D.row 0 4 (.slice none 0 0) [], D.str ⟨#[]⟩, D.bool false, D.row 0 1 (.slice none 0 0) [], D.row 0 1 (.slice none 0 0) [], D.row 0 5 (.slice none 0 0) []] _ _ _)
  rw [show agg [D.row t0 4 v0 d0, D.str s1, D.bool x2, D.row t3 1 v3 d3, D.row t4 1 v4 d4, D.row t5 5 v5 d5] = Value.agg #[v0, Value.string s1, Value.bool x2, v3, v4, v5] from rfl]
  go_enter Tryz.func6, Tryz.ntmps6
  have a0 := B0.out.a.at 0 (D.row t0 4 v0 d0) rfl
  simp only [val] at a0
  go_wp2_with fail
  refine (K0 _ B0.out.below).out.mono ?_
  rintro e w1 ⟨ya0, yn0, yc0, yd0, rfl, he0, hr0, hb1⟩
  have HE0 := Lib.hid he0
  clear he0
  have on1 := row_iff.2 hr0
  have OW1 := Lib.hid (on1.mono (base' := w.heap.size + 3) B0.out.size)
  have B1 := Lib.hid (B0.out.step hb1)
  clear hb1 on1 K0 B0 a0 hr0
  have fc := B1.out.fc
  have c0 := B1.out.c.at 0 (D.row 0 4 (.slice none 0 0) []) rfl
  simp only [val] at c0
  have B1s := Lib.hid (B1.out.set 0 (D.row 48 4 (.slice ya0 yn0 yc0) yd0) (by simp))
  have OW1s := Lib.hid (OW1.out.setLow (g := w.heap.size + 1 + 1) (by omega) 0 (Value.slice ya0 yn0 yc0))
  clear B1 OW1
  have a1 := B1s.out.a.at 1 (D.str s1) rfl
  simp only [val] at a1
  have a2 := B1s.out.a.at 2 (D.bool x2) rfl
  simp only [val] at a2
  have a3 := B1s.out.a.at 3 (D.row t3 1 v3 d3) rfl
  simp only [val] at a3
  have a4 := B1s.out.a.at 4 (D.row t4 1 v4 d4) rfl
  simp only [val] at a4
  have a5 := B1s.out.a.at 5 (D.row t5 5 v5 d5) rfl
  simp only [val] at a5
  go_wp2_with fail
  refine (K1 _ B1s.out.below).out.mono ?_
  rintro e w2 ⟨es, rfl, he, on2, hb2⟩
  have hg : FitL (env 3) (erases es) := he ▸ FN1.out
  obtain ⟨ys1, ye1, rfl, hg_1⟩ := fitL_str hg
  clear hg
  obtain ⟨yx2, ye2, rfl, hg_2⟩ := fitL_bool hg_1
  clear hg_1
  obtain ⟨yt3, yv3, yd3, ye3, rfl, yf3, hg_3⟩ := fitL_row (k := 1) rfl hg_2
  clear hg_2
  obtain ⟨yt4, yv4, yd4, ye4, rfl, yf4, hg_4⟩ := fitL_row (k := 1) rfl hg_3
  clear hg_3
  obtain ⟨yt5, yv5, yd5, ye5, rfl, yf5, hg_5⟩ := fitL_row (k := 5) rfl hg_4
  clear hg_4
  obtain rfl := fitL_nil hg_5
  clear hg_5
  replace he := he.symm
  simp only [erases, erase, List.cons.injEq, P.str.injEq, P.bool.injEq, P.row.injEq, true_and,  and_true] at he
  obtain ⟨rfl, rfl, g3, g4, g5⟩ := he
  obtain ⟨ya3, yn3, yc3, rfl⟩ := row_slice (goods_iff.1 on2.good (D.row yt3 1 yv3 yd3) (by simp))
  have HE3 := Lib.hid g3.symm
  clear g3 yf3
  obtain ⟨ya4, yn4, yc4, rfl⟩ := row_slice (goods_iff.1 on2.good (D.row yt4 1 yv4 yd4) (by simp))
  have HE4 := Lib.hid g4.symm
  clear g4 yf4
  obtain ⟨ya5, yn5, yc5, rfl⟩ := row_slice (goods_iff.1 on2.good (D.row yt5 5 yv5 yd5) (by simp))
  have HE5 := Lib.hid g5.symm
  clear g5 yf5
  rw [show agg [D.str s1, D.bool x2, D.row yt3 1 (.slice ya3 yn3 yc3) yd3, D.row yt4 1 (.slice ya4 yn4 yc4) yd4, D.row yt5 5 (.slice ya5 yn5 yc5) yd5] = Value.agg #[Value.string s1, Value.bool x2, Value.slice ya3 yn3 yc3, Value.slice ya4 yn4 yc4, Value.slice ya5 yn5 yc5] from rfl]
  have OW2 := Lib.hid (OW1s.out.snoc hb2 (on2.mono (Nat.le_refl _)) B1s.out.size)
  have B2 := Lib.hid (B1s.out.step hb2)
  clear hb2 on2 K1 B1s fc c0 a1 a2 a3 a4 a5 OW1s
  have b0 := B2.out.b.at 0 (D.row 0 4 (.slice none 0 0) []) rfl
  have c0 := B2.out.c.at 0 (D.row 48 4 (.slice ya0 yn0 yc0) yd0) rfl
  simp only [val] at b0 c0
  have b1 := B2.out.b.at 1 (D.str ⟨#[]⟩) rfl
  have c1 := B2.out.c.at 1 (D.str ⟨#[]⟩) rfl
  simp only [val] at b1 c1
  have b2 := B2.out.b.at 2 (D.bool false) rfl
  have c2 := B2.out.c.at 2 (D.bool false) rfl
  simp only [val] at b2 c2
  have b3 := B2.out.b.at 3 (D.row 0 1 (.slice none 0 0) []) rfl
  have c3 := B2.out.c.at 3 (D.row 0 1 (.slice none 0 0) []) rfl
  simp only [val] at b3 c3
  have b4 := B2.out.b.at 4 (D.row 0 1 (.slice none 0 0) []) rfl
  have c4 := B2.out.c.at 4 (D.row 0 1 (.slice none 0 0) []) rfl
  simp only [val] at b4 c4
  have b5 := B2.out.b.at 5 (D.row 0 5 (.slice none 0 0) []) rfl
  have c5 := B2.out.c.at 5 (D.row 0 5 (.slice none 0 0) []) rfl
  simp only [val] at b5 c5
  have a1 := B2.out.a.at 1 (D.str s1) rfl
  simp only [val] at a1
  have a2 := B2.out.a.at 2 (D.bool x2) rfl
  simp only [val] at a2
  have fb := B2.out.fb
  have fc := B2.out.fc
  go_wp2_with fail
  refine bodyPost_ret (v := .agg #[Value.slice ya0 yn0 yc0, Value.string s1, Value.bool x2, Value.slice ya3 yn3 yc3, Value.slice ya4 yn4 yc4, Value.slice ya5 yn5 yc5]) (by simp [results, Tryz.results6, go_sem, *]) rfl ?_
  have g1 : w.heap.size + 1 + 1 < w.heap.size + 3 := by omega
  have g2 : w.heap.size + 1 < w.heap.size + 3 := by omega
  have g3 : w.heap.size ≤ w.heap.size + 1 + 1 := by omega
  have g4 : w.heap.size ≤ w.heap.size + 1 := by omega
  have OWN := (((((((((((OW2.out.setLow g1 1 (Value.string s1)).setLow g1 2 (Value.bool x2)).setLow g1 3 (Value.slice ya3 yn3 yc3)).setLow g1 4 (Value.slice ya4 yn4 yc4)).setLow g1 5 (Value.slice ya5 yn5 yc5)).setLow g2 0 (Value.slice ya0 yn0 yc0)).setLow g2 1 (Value.string s1)).setLow g2 2 (Value.bool x2)).setLow g2 3 (Value.slice ya3 yn3 yc3)).setLow g2 4 (Value.slice ya4 yn4 yc4)).setLow g2 5 (Value.slice ya5 yn5 yc5))
  refine ⟨[D.row 48 4 (.slice ya0 yn0 yc0) yd0, D.str s1, D.bool x2, D.row yt3 1 (.slice ya3 yn3 yc3) yd3, D.row yt4 1 (.slice ya4 yn4 yc4) yd4, D.row yt5 5 (.slice ya5 yn5 yc5) yd5], rfl, ?_, ?_, (((((((((((B2.out.below.setCell g3 _).setCell g3 _).setCell g3 _).setCell g3 _).setCell g3 _).setCell g4 _).setCell g4 _).setCell g4 _).setCell g4 _).setCell g4 _).setCell g4 _)⟩
  · simp only [erases, erase, HE0.out, HE3.out, HE4.out, HE5.out]
  · refine ⟨?_, ?_, ?_⟩
    · have hg := OWN.good
      simp only [goods_iff, List.mem_append, List.mem_cons, List.not_mem_nil, or_false] at hg ⊢
      intro d hd
      rcases hd with rfl | rfl | rfl | rfl | rfl | rfl
      · exact hg _ (by simp)
      · have h := P1.out; rw [Holds] at h; rw [Good]; exact h
      · rw [Good]; trivial
      · exact hg _ (by simp)
      · exact hg _ (by simp)
      · exact hg _ (by simp)
    · have h := OWN.nd
      simp only [foots, foot, foots_append, List.append_nil, List.nil_append, List.append_assoc] at h ⊢
      exact h
    · have h := OWN.lo
      intro b hb
      refine Nat.le_trans (by omega) (h b ?_)
      simp only [foots, foot, foots_append, List.append_nil, List.nil_append, List.append_assoc] at hb ⊢
      exact hb
end Go.Proofs.YtdohpppkdecbdaaGreatDoor.Data
