/-
  laws.szClassInfo and szClassInfoS: what they answer, and that they write nothing that was there.
  laws.szSystem and szSystemS: what they answer, and that they write nothing that was there.
-/
import Derived.Test.YtekeondbbikkpaaGreatBDataStr
import Derived.Test.YtekeondbbikkpaaGreatBSzRoutine
import Derived.Test.YtekeondbbikkpaaGreatBToClassInfo
namespace Go.Proofs.YtekeondbbikkpaaGreat.Data
open Go.RowKit
open Strs Tree Texts
set_option maxRecDepth 10000 in
set_option maxHeartbeats 4000000 in
theorem sz_ClassInfo (lo left : Nat) (w : World) (ds : List D) (hl : left ≤ 1048576) (hf : FitL (env 6) (erases ds)) (hh : Holdss lo w ds) :
    Calls Tryz.prog 28 #[agg ds, .int .i64 left] w fun r w' => r = .returned (.int .i64 (after left (weights (erases ds)))) ∧ Below w.heap.size w w' := by
  obtain ⟨s0, e0, rfl, hf_0⟩ := fitL_str hf
  clear hf
  obtain ⟨n1, e1, rfl, hf_1⟩ := fitL_int hf_0
  clear hf_0
  obtain ⟨t2, v2, d2, e2, rfl, f2, hf_2⟩ := fitL_row (k := 1) rfl hf_1
  clear hf_1
  obtain rfl := fitL_nil hf_2
  clear hf_2
  replace hh : Holdss lo w [D.str s0, D.int n1, D.row t2 1 v2 d2] := hh
  simp only [Holdss, and_true] at hh
  obtain ⟨h0, h1, h2⟩ := hh
  rw [Holds] at h0
  unfold maxLen at h0
  clear h1
  have HW : weights (erases [D.str s0, D.int n1, D.row t2 1 v2 d2]) = s0.size + weight (.row 1 (erases d2)) := by
    first | (simp only [erases, erase, weights, weight]; done) | (simp only [erases, erase, weights, weight]; omega)
  have C0 : Hid (Cells w.heap.size [D.str s0, D.int n1, D.row t2 1 v2 d2] (w.alloc (Obj.cells #[Value.string s0, Value.int .i64 n1, v2] 66))) := Lib.hid (cells_new w [D.str s0, D.int n1, D.row t2 1 v2 d2] _)
  have B0 : Hid (Below w.heap.size w (w.alloc (Obj.cells #[Value.string s0, Value.int .i64 n1, v2] 66))) := Lib.hid ((Below.refl _ _).alloc (Nat.le_refl _) _)
  have K2 := fun (w' : World) (l : Nat) (hl : l ≤ 1048576) (hb : Below w.heap.size w w') => Lib.hid (szS_String lo l t2 w' v2 d2 hl f2 (h2.below hb))
  generalize weight (.row 1 (erases d2)) = q2 at *
  clear h2 f2
  generalize weights (erases [D.str s0, D.int n1, D.row t2 1 v2 d2]) = WW at *
  generalize hR : after left WW = R
  have HA := Lib.hid hR
  clear hR
  have HW := Lib.hid HW
  rw [show agg [D.str s0, D.int n1, D.row t2 1 v2 d2] = Value.agg #[Value.string s0, Value.int .i64 n1, v2] from rfl]
  by_cases hs1 : (left : Int) - (s0.size : Int) < 0
  · skip
    have hR : R = -1 := by rw [← HA.out]; exact after_no (by have h0' := HW.out; omega)
    subst hR
    go_enter Tryz.func28, Tryz.ntmps28
    go_wp2_with fail
    go_ret
    exact ⟨rfl, B0.out⟩
  obtain ⟨l1, hl1⟩ : ∃ l' : Nat, l' + s0.size = left := ⟨left - s0.size, by omega⟩
  have e1' : (left : Int) - (s0.size : Int) = (l1 : Int) := by omega
  have HL1 := Lib.hid hl1
  clear hl1
  go_enter Tryz.func28, Tryz.ntmps28
  have a2 := C0.out.at 2 (D.row t2 1 v2 d2) rfl
  simp only [val] at a2
  go_wp2_with fail
  refine (K2 _ l1 (by have h0' := HW.out; have h1' := HL1.out; omega) B0.out).out.mono ?_
  rintro e w1 ⟨rfl, hb1⟩
  have B1 := Lib.hid (B0.out.trans (hb1.mono B0.out.size))
  have C1 := Lib.hid (C0.out.step hb1)
  clear hb1 K2 B0 C0 a2
  by_cases hq2 : q2 ≤ l1
  rotate_left
  · rw [after_no (by omega)]
    have hR : R = -1 := by rw [← HA.out]; exact after_no (by have h0' := HW.out; have h1' := HL1.out; omega)
    subst hR
    go_wp2_with fail
    go_ret
    exact ⟨rfl, B1.out⟩
  rw [after_yes hq2]
  obtain ⟨l2, hl2⟩ : ∃ l' : Nat, l1 - q2 = l' := ⟨_, rfl⟩
  have HL2 : Hid (l2 + q2 = l1) := Lib.hid (by omega)
  rw [hl2]
  clear hl2 hq2
  have hR : R = (l2 : Int) := by rw [← HA.out, after_yes (by have h0' := HW.out; have h1' := HL1.out; have h2' := HL2.out; omega)]; have h0' := HW.out; have h1' := HL1.out; have h2' := HL2.out; omega
  subst hR
  go_wp2_with fail
  go_ret
  exact ⟨rfl, B1.out⟩
set_option maxRecDepth 10000 in
set_option maxHeartbeats 4000000 in
theorem szS_ClassInfo (lo left t : Nat) (w : World) (v : Value) (ds : List D) (hl : left ≤ 1048576) (hf : FitRow 6 (erases ds)) (hh : Holds lo w (.row t 3 v ds)) :
    Calls Tryz.prog 9 #[v, .int .i64 left] w fun r w' => r = .returned (.int .i64 (after left (weight (.row 3 (erases ds))))) ∧ Below w.heap.size w w' := by
  rw [Holds] at hh
  obtain ⟨⟨a, n, cap, rfl, -, hn, hnc, hcm, hc⟩, hds⟩ := hh
  unfold maxLen at hcm
  have HWT : weight (.row 3 (erases ds)) = n + weights (erases ds) := by
    rw [weight, erases_len, hn, Nat.mul_div_cancel _ (by decide)]
  have HN := Lib.hid hn
  have HF := Lib.hid hf
  have HDS := Lib.hid hds
  clear hn hf hds
  by_cases hp : 0 < n
  rotate_left
  · have hn0 : n = 0 := by omega
    subst hn0
    have hd0 : ds = [] := List.eq_nil_of_length_eq_zero (by have := HN.out; omega)
    subst hd0
    rw [HWT]
    simp only [erases, weights]
    rw [after_yes (Nat.zero_le _)]
    clear hc HWT HN HF HDS
    go_enter Tryz.func9, Tryz.ntmps9
    go_wp2_with fail
    refine wp_loop_rounds 1 ?_
    rw [rounds_succ]
    go_wp2_with fail
    go_ret
    exact ⟨by simp, Below.refl _ _⟩
  obtain ⟨b, off, rfl, hb, hc⟩ := hc hp
  have HC := Lib.hid hc
  clear hc hb
  generalize hR : after left (weight (.row 3 (erases ds))) = R
  rw [HWT] at hR
  have HA := Lib.hid hR
  clear hR HWT
  by_cases hbig : (left : Int) - (n : Int) < 0
  · have hR : R = -1 := by rw [← HA.out]; exact after_no (by omega)
    subst hR
    go_enter Tryz.func9, Tryz.ntmps9
    go_wp2_with fail
    go_ret
    exact ⟨rfl, Below.refl _ _⟩
  go_enter Tryz.func9, Tryz.ntmps9
  go_wp2_with fail
  go_loopw [1, 5] (fun t j wr => ∃ (i r : Nat) (A R : List D), ds = A ++ R ∧ A.length = i * 3 ∧ FitRow 6 (erases R) ∧ j = .int .i64 i ∧ r + n + weights (erases A) = left ∧ t = .int .i64 r ∧ Below w.heap.size w wr) (fun _ j _ => n - (intOf j).toNat)
  case atStart => exact ⟨0, left - n, [], ds, rfl, by simp, HF.out, rfl, by simp [erases, weights]; omega, by go_num, Below.refl _ _⟩
  case round =>
    obtain ⟨i, r, A, R', hds, hal, hfr, rfl, hq, rfl, hbw⟩ := hrel
    have HD := Lib.hid hds
    have HAL := Lib.hid hal
    have HQ := Lib.hid hq
    clear hds hal hq
    rcases fitRow_cases hfr with rfl | ⟨item, rest, rfl, hfi, hfrest⟩
    · have hin : i = n := by
        have h1 := HN.out
        rw [HD.out, List.append_nil, HAL.out] at h1
        omega
      have hR : R = (r : Int) := by
        have h1 := HQ.out
        rw [← HA.out, HD.out, List.append_nil, after_yes (by omega)]
        omega
      subst hin
      have HR2 := Lib.hid hR
      clear hR hfr
      go_wp2_with fail
      go_ret
      exact ⟨by rw [HR2.out]; rfl, hbw⟩
    have hil : item.length = 3 := by have := fitL_len hfi; rw [erases_len] at this; exact this
    have hlt : i < n := by
      have h1 := HN.out
      rw [HD.out, List.length_append, List.length_append, HAL.out, hil] at h1
      omega
    have HIT := Lib.hid hfi
    clear hil hfr
    obtain ⟨s0, e0, rfl, hfi_0⟩ := fitL_str hfi
    clear hfi
    obtain ⟨n1, e1, rfl, hfi_1⟩ := fitL_int hfi_0
    clear hfi_0
    obtain ⟨t2, v2, d2, e2, rfl, f2, hfi_2⟩ := fitL_row (k := 1) rfl hfi_1
    clear hfi_1
    obtain rfl := fitL_nil hfi_2
    clear hfi_2
    have c0 := cell_keep hbw (row_at0 HC.out HD.out HAL.out (D.str s0) rfl)
    simp only [val] at c0
    have c1 := cell_keep hbw (row_at HC.out HD.out HAL.out 1 (D.int n1) rfl)
    simp only [val] at c1
    have c2 := cell_keep hbw (row_at HC.out HD.out HAL.out 2 (D.row t2 1 v2 d2) rfl)
    simp only [val] at c2
    have hit : Holdss lo wr [D.str s0, D.int n1, D.row t2 1 v2 d2] := ((Holdss.append.1 ((Holdss.append.1 (HD.out ▸ HDS.out)).2)).1).below hbw
    have KI := Lib.hid (sz_ClassInfo lo r wr [D.str s0, D.int n1, D.row t2 1 v2 d2] (by have := HQ.out; omega) HIT.out hit)
    have HWA : Hid (weights (erases (A ++ [D.str s0, D.int n1, D.row t2 1 v2 d2])) = weights (erases A) + weights (erases [D.str s0, D.int n1, D.row t2 1 v2 d2])) := Lib.hid (by rw [erases_append, weights_append])
    have HWB : Hid (weights (erases ds) = weights (erases A) + weights (erases [D.str s0, D.int n1, D.row t2 1 v2 d2]) + weights (erases rest)) := Lib.hid (by rw [HD.out, erases_append, erases_append, weights_append, weights_append, Nat.add_assoc])
    have HD2 : Hid (ds = (A ++ [D.str s0, D.int n1, D.row t2 1 v2 d2]) ++ rest) := Lib.hid (by rw [HD.out, List.append_assoc])
    have HAL2 : Hid ((A ++ [D.str s0, D.int n1, D.row t2 1 v2 d2]).length = (i + 1) * 3) := Lib.hid (by rw [List.length_append, HAL.out, Nat.succ_mul]; rfl)
    have HFR := Lib.hid hfrest
    generalize hqi : weights (erases [D.str s0, D.int n1, D.row t2 1 v2 d2]) = qi at *
    have HB := Lib.hid hbw
    clear hit hfrest hqi hbw HIT HD HAL
    clear f2
    simp only [agg, vals, List.map, val] at KI
    go_wp2_with fail
    refine KI.out.mono ?_
    rintro e w1 ⟨rfl, hb1⟩
    have HB1 := Lib.hid (HB.out.trans (hb1.mono HB.out.size))
    clear hb1 KI HB
    by_cases hle : qi ≤ r
    · rw [after_yes hle]
      have HT2 : Hid (r - qi + n + weights (erases (A ++ [D.str s0, D.int n1, D.row t2 1 v2 d2])) = left) := Lib.hid (by
        have h1 := HWA.out
        have h2 := HQ.out
        omega)
      generalize r - qi = r' at *
      go_wp2_with fail
      go_roundw
      case rel => exact ⟨i + 1, r', A ++ [D.str s0, D.int n1, D.row t2 1 v2 d2], rest, HD2.out, HAL2.out, HFR.out, by go_num, HT2.out, rfl, HB1.out⟩
      case measure => simp [intOf]; omega
    · rw [after_no (by omega)]
      have hR : R = -1 := by
        rw [← HA.out]
        have h1 := HWB.out
        have h2 := HQ.out
        exact after_no (by omega)
      subst hR
      go_wp2_with fail
      go_ret
      exact ⟨rfl, HB1.out⟩
end Go.Proofs.YtekeondbbikkpaaGreat.Data

namespace Go.Proofs.YtekeondbbikkpaaGreat.Data
open Go.RowKit
open Strs Tree Texts
set_option maxRecDepth 10000 in
set_option maxHeartbeats 4000000 in
theorem sz_System (lo left : Nat) (w : World) (ds : List D) (hl : left ≤ 1048576) (hf : FitL (env 9) (erases ds)) (hh : Holdss lo w ds) :
    Calls Tryz.prog 4 #[agg ds, .int .i64 left] w fun r w' => r = .returned (.int .i64 (after left (weights (erases ds)))) ∧ Below w.heap.size w w' := by
  obtain ⟨t0, v0, d0, e0, rfl, f0, hf_0⟩ := fitL_row (k := 3) rfl hf
  clear hf
  obtain ⟨t1, v1, d1, e1, rfl, f1, hf_1⟩ := fitL_row (k := 10) rfl hf_0
  clear hf_0
  obtain ⟨s2, e2, rfl, hf_2⟩ := fitL_str hf_1
  clear hf_1
  obtain ⟨n3, e3, rfl, hf_3⟩ := fitL_int hf_2
  clear hf_2
  obtain ⟨x4, e4, rfl, hf_4⟩ := fitL_bool hf_3
  clear hf_3
  obtain ⟨n5, e5, rfl, hf_5⟩ := fitL_int hf_4
  clear hf_4
  obtain ⟨n6, e6, rfl, hf_6⟩ := fitL_int hf_5
  clear hf_5
  obtain ⟨n7, e7, rfl, hf_7⟩ := fitL_int hf_6
  clear hf_6
  obtain ⟨s8, e8, rfl, hf_8⟩ := fitL_str hf_7
  clear hf_7
  obtain ⟨n9, e9, rfl, hf_9⟩ := fitL_int hf_8
  clear hf_8
  obtain ⟨n10, e10, rfl, hf_10⟩ := fitL_int hf_9
  clear hf_9
  obtain ⟨t11, v11, d11, e11, rfl, f11, hf_11⟩ := fitL_row (k := 5) rfl hf_10
  clear hf_10
  obtain rfl := fitL_nil hf_11
  clear hf_11
  replace hh : Holdss lo w [D.row t0 3 v0 d0, D.row t1 10 v1 d1, D.str s2, D.int n3, D.bool x4, D.int n5, D.int n6, D.int n7, D.str s8, D.int n9, D.int n10, D.row t11 5 v11 d11] := hh
  simp only [Holdss, and_true] at hh
  obtain ⟨h0, h1, h2, h3, h4, h5, h6, h7, h8, h9, h10, h11⟩ := hh
  have HW : weights (erases [D.row t0 3 v0 d0, D.row t1 10 v1 d1, D.str s2, D.int n3, D.bool x4, D.int n5, D.int n6, D.int n7, D.str s8, D.int n9, D.int n10, D.row t11 5 v11 d11]) = weight (.row 3 (erases d0)) + weight (.row 10 (erases d1)) + weights (erases [D.str s2, D.int n3, D.bool x4, D.int n5, D.int n6, D.int n7, D.str s8, D.int n9, D.int n10, D.row t11 5 v11 d11]) := by
    first | (simp only [erases, erase, weights, weight]; done) | (simp only [erases, erase, weights, weight]; omega)
  have C0 : Hid (Cells w.heap.size [D.row t0 3 v0 d0, D.row t1 10 v1 d1, D.str s2, D.int n3, D.bool x4, D.int n5, D.int n6, D.int n7, D.str s8, D.int n9, D.int n10, D.row t11 5 v11 d11] (w.alloc (Obj.cells #[v0, v1, Value.string s2, Value.int .i64 n3, Value.bool x4, Value.int .i64 n5, Value.int .i64 n6, Value.int .i64 n7, Value.string s8, Value.int .i64 n9, Value.int .i64 n10, v11] 30))) := Lib.hid (cells_new w [D.row t0 3 v0 d0, D.row t1 10 v1 d1, D.str s2, D.int n3, D.bool x4, D.int n5, D.int n6, D.int n7, D.str s8, D.int n9, D.int n10, D.row t11 5 v11 d11] _)
  have B0 : Hid (Below w.heap.size w (w.alloc (Obj.cells #[v0, v1, Value.string s2, Value.int .i64 n3, Value.bool x4, Value.int .i64 n5, Value.int .i64 n6, Value.int .i64 n7, Value.string s8, Value.int .i64 n9, Value.int .i64 n10, v11] 30))) := Lib.hid ((Below.refl _ _).alloc (Nat.le_refl _) _)
  have K0 := fun (w' : World) (l : Nat) (hl : l ≤ 1048576) (hb : Below w.heap.size w w') => Lib.hid (szS_ClassInfo lo l t0 w' v0 d0 hl f0 (h0.below hb))
  have K1 := fun (w' : World) (l : Nat) (hl : l ≤ 1048576) (hb : Below w.heap.size w w') => Lib.hid (szS_Routine lo l t1 w' v1 d1 hl f1 (h1.below hb))
  have K2 := fun (w' : World) (l : Nat) (hl : l ≤ 1048576) (hb : Below w.heap.size w w') => Lib.hid (sz_Routine lo l w' [D.str s2, D.int n3, D.bool x4, D.int n5, D.int n6, D.int n7, D.str s8, D.int n9, D.int n10, D.row t11 5 v11 d11] hl (FitL.cons _ _ _ _ (Fit.str _) (FitL.cons _ _ _ _ (Fit.int _) (FitL.cons _ _ _ _ (Fit.bool _) (FitL.cons _ _ _ _ (Fit.int _) (FitL.cons _ _ _ _ (Fit.int _) (FitL.cons _ _ _ _ (Fit.int _) (FitL.cons _ _ _ _ (Fit.str _) (FitL.cons _ _ _ _ (Fit.int _) (FitL.cons _ _ _ _ (Fit.int _) (FitL.cons _ _ _ _ (Fit.row _ _ _ rfl f11) FitL.nil)))))))))) (Holdss.below ⟨h2, h3, h4, h5, h6, h7, h8, h9, h10, h11, trivial⟩ hb))
  generalize weight (.row 3 (erases d0)) = q0 at *
  generalize weight (.row 10 (erases d1)) = q1 at *
  generalize weights (erases [D.str s2, D.int n3, D.bool x4, D.int n5, D.int n6, D.int n7, D.str s8, D.int n9, D.int n10, D.row t11 5 v11 d11]) = q2 at *
  clear h0 f0
  clear h1 f1
  clear h2
  clear h3
  clear h4
  clear h5
  clear h6
  clear h7
  clear h8
  clear h9
  clear h10
  clear h11 f11
  generalize weights (erases [D.row t0 3 v0 d0, D.row t1 10 v1 d1, D.str s2, D.int n3, D.bool x4, D.int n5, D.int n6, D.int n7, D.str s8, D.int n9, D.int n10, D.row t11 5 v11 d11]) = WW at *
  generalize hR : after left WW = R
  have HA := Lib.hid hR
  clear hR
  have HW := Lib.hid HW
  rw [show agg [D.row t0 3 v0 d0, D.row t1 10 v1 d1, D.str s2, D.int n3, D.bool x4, D.int n5, D.int n6, D.int n7, D.str s8, D.int n9, D.int n10, D.row t11 5 v11 d11] = Value.agg #[v0, v1, Value.string s2, Value.int .i64 n3, Value.bool x4, Value.int .i64 n5, Value.int .i64 n6, Value.int .i64 n7, Value.string s8, Value.int .i64 n9, Value.int .i64 n10, v11] from rfl]
  go_enter Tryz.func4, Tryz.ntmps4
  have a0 := C0.out.at 0 (D.row t0 3 v0 d0) rfl
  simp only [val] at a0
  go_wp2_with fail
  refine (K0 _ left (by have h0' := HW.out; omega) B0.out).out.mono ?_
  rintro e w1 ⟨rfl, hb1⟩
  have B1 := Lib.hid (B0.out.trans (hb1.mono B0.out.size))
  have C1 := Lib.hid (C0.out.step hb1)
  clear hb1 K0 B0 C0 a0
  by_cases hq1 : q0 ≤ left
  rotate_left
  · rw [after_no (by omega)]
    have hR : R = -1 := by rw [← HA.out]; exact after_no (by have h0' := HW.out; omega)
    subst hR
    go_wp2_with fail
    go_ret
    exact ⟨rfl, B1.out⟩
  rw [after_yes hq1]
  obtain ⟨l1, hl1⟩ : ∃ l' : Nat, left - q0 = l' := ⟨_, rfl⟩
  have HL1 : Hid (l1 + q0 = left) := Lib.hid (by omega)
  rw [hl1]
  clear hl1 hq1
  have a1 := C1.out.at 1 (D.row t1 10 v1 d1) rfl
  simp only [val] at a1
  go_wp2_with fail
  refine (K1 _ l1 (by have h0' := HW.out; have h1' := HL1.out; omega) B1.out).out.mono ?_
  rintro e w2 ⟨rfl, hb2⟩
  have B2 := Lib.hid (B1.out.trans (hb2.mono B1.out.size))
  have C2 := Lib.hid (C1.out.step hb2)
  clear hb2 K1 B1 C1 a1
  by_cases hq2 : q1 ≤ l1
  rotate_left
  · rw [after_no (by omega)]
    have hR : R = -1 := by rw [← HA.out]; exact after_no (by have h0' := HW.out; have h1' := HL1.out; omega)
    subst hR
    go_wp2_with fail
    go_ret
    exact ⟨rfl, B2.out⟩
  rw [after_yes hq2]
  obtain ⟨l2, hl2⟩ : ∃ l' : Nat, l1 - q1 = l' := ⟨_, rfl⟩
  have HL2 : Hid (l2 + q1 = l1) := Lib.hid (by omega)
  rw [hl2]
  clear hl2 hq2
  have a2 := C2.out.at 2 (D.str s2) rfl
  simp only [val] at a2
  have a3 := C2.out.at 3 (D.int n3) rfl
  simp only [val] at a3
  have a4 := C2.out.at 4 (D.bool x4) rfl
  simp only [val] at a4
  have a5 := C2.out.at 5 (D.int n5) rfl
  simp only [val] at a5
  have a6 := C2.out.at 6 (D.int n6) rfl
  simp only [val] at a6
  have a7 := C2.out.at 7 (D.int n7) rfl
  simp only [val] at a7
  have a8 := C2.out.at 8 (D.str s8) rfl
  simp only [val] at a8
  have a9 := C2.out.at 9 (D.int n9) rfl
  simp only [val] at a9
  have a10 := C2.out.at 10 (D.int n10) rfl
  simp only [val] at a10
  have a11 := C2.out.at 11 (D.row t11 5 v11 d11) rfl
  simp only [val] at a11
  go_wp2_with fail
  refine (K2 _ l2 (by have h0' := HW.out; have h1' := HL1.out; have h2' := HL2.out; omega) B2.out).out.mono ?_
  rintro e w3 ⟨rfl, hb3⟩
  have B3 := Lib.hid (B2.out.trans (hb3.mono B2.out.size))
  have C3 := Lib.hid (C2.out.step hb3)
  clear hb3 K2 B2 C2 a2 a3 a4 a5 a6 a7 a8 a9 a10 a11
  by_cases hq3 : q2 ≤ l2
  rotate_left
  · rw [after_no (by omega)]
    have hR : R = -1 := by rw [← HA.out]; exact after_no (by have h0' := HW.out; have h1' := HL1.out; have h2' := HL2.out; omega)
    subst hR
    go_wp2_with fail
    go_ret
    exact ⟨rfl, B3.out⟩
  rw [after_yes hq3]
  obtain ⟨l3, hl3⟩ : ∃ l' : Nat, l2 - q2 = l' := ⟨_, rfl⟩
  have HL3 : Hid (l3 + q2 = l2) := Lib.hid (by omega)
  rw [hl3]
  clear hl3 hq3
  have hR : R = (l3 : Int) := by rw [← HA.out, after_yes (by have h0' := HW.out; have h1' := HL1.out; have h2' := HL2.out; have h3' := HL3.out; omega)]; have h0' := HW.out; have h1' := HL1.out; have h2' := HL2.out; have h3' := HL3.out; omega
  subst hR
  go_wp2_with fail
  go_ret
  exact ⟨rfl, B3.out⟩
end Go.Proofs.YtekeondbbikkpaaGreat.Data
