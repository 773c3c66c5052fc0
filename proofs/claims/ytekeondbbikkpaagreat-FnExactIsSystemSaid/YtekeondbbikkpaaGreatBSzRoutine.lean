/-
  laws.szCore and szCoreS: what they answer, and that they write nothing that was there.
  laws.szRoutine and szRoutineS: what they answer, and that they write nothing that was there.
-/
import Derived.Test.YtekeondbbikkpaaGreatBDataStr
import Derived.Test.YtekeondbbikkpaaGreatBToClassInfo
namespace Go.Proofs.YtekeondbbikkpaaGreat.Data
open Go.RowKit
open Strs Tree Texts
set_option maxRecDepth 10000 in
set_option maxHeartbeats 4000000 in
theorem sz_Core_of (NN : Nat) (KR : ∀ (lo left t : Nat) (w : World) (v : Value) (ds : List D), masses (erases ds) < NN → left ≤ 1048576 → FitRow 7 (erases ds) → Holds lo w (.row t 5 v ds) → Calls Tryz.prog 53 #[v, .int .i64 left] w fun r w' => r = .returned (.int .i64 (after left (weight (.row 5 (erases ds))))) ∧ Below w.heap.size w w') (lo left : Nat) (w : World) (ds : List D) (hm : masses (erases ds) ≤ NN) (hl : left ≤ 1048576) (hf : FitL (env 7) (erases ds)) (hh : Holdss lo w ds) :
    Calls Tryz.prog 29 #[agg ds, .int .i64 left] w fun r w' => r = .returned (.int .i64 (after left (weights (erases ds)))) ∧ Below w.heap.size w w' := by
  obtain ⟨n0, e0, rfl, hf_0⟩ := fitL_int hf
  clear hf
  obtain ⟨s1, e1, rfl, hf_1⟩ := fitL_str hf_0
  clear hf_0
  obtain ⟨n2, e2, rfl, hf_2⟩ := fitL_int hf_1
  clear hf_1
  obtain ⟨n3, e3, rfl, hf_3⟩ := fitL_int hf_2
  clear hf_2
  obtain ⟨t4, v4, d4, e4, rfl, f4, hf_4⟩ := fitL_row (k := 5) rfl hf_3
  clear hf_3
  obtain rfl := fitL_nil hf_4
  clear hf_4
  replace hh : Holdss lo w [D.int n0, D.str s1, D.int n2, D.int n3, D.row t4 5 v4 d4] := hh
  replace hm : masses (erases [D.int n0, D.str s1, D.int n2, D.int n3, D.row t4 5 v4 d4]) ≤ NN := hm
  simp only [erases, erase, masses, mass] at hm
  simp only [Holdss, and_true] at hh
  obtain ⟨h0, h1, h2, h3, h4⟩ := hh
  clear h0
  rw [Holds] at h1
  unfold maxLen at h1
  clear h2
  clear h3
  have HW : weights (erases [D.int n0, D.str s1, D.int n2, D.int n3, D.row t4 5 v4 d4]) = s1.size + weight (.row 5 (erases d4)) := by
    first | (simp only [erases, erase, weights, weight]; done) | (simp only [erases, erase, weights, weight]; omega)
  have C0 : Hid (Cells w.heap.size [D.int n0, D.str s1, D.int n2, D.int n3, D.row t4 5 v4 d4] (w.alloc (Obj.cells #[Value.int .i64 n0, Value.string s1, Value.int .i64 n2, Value.int .i64 n3, v4] 26))) := Lib.hid (cells_new w [D.int n0, D.str s1, D.int n2, D.int n3, D.row t4 5 v4 d4] _)
  have B0 : Hid (Below w.heap.size w (w.alloc (Obj.cells #[Value.int .i64 n0, Value.string s1, Value.int .i64 n2, Value.int .i64 n3, v4] 26))) := Lib.hid ((Below.refl _ _).alloc (Nat.le_refl _) _)
  have K4 := fun (w' : World) (l : Nat) (hl : l ≤ 1048576) (hb : Below w.heap.size w w') => Lib.hid (KR lo l t4 w' v4 d4 (by omega) hl f4 (h4.below hb))
  generalize weight (.row 5 (erases d4)) = q4 at *
  clear h4 f4
  clear KR hm
  generalize weights (erases [D.int n0, D.str s1, D.int n2, D.int n3, D.row t4 5 v4 d4]) = WW at *
  generalize hR : after left WW = R
  have HA := Lib.hid hR
  clear hR
  have HW := Lib.hid HW
  rw [show agg [D.int n0, D.str s1, D.int n2, D.int n3, D.row t4 5 v4 d4] = Value.agg #[Value.int .i64 n0, Value.string s1, Value.int .i64 n2, Value.int .i64 n3, v4] from rfl]
  by_cases hs1 : (left : Int) - (s1.size : Int) < 0
  · skip
    have hR : R = -1 := by rw [← HA.out]; exact after_no (by have h0' := HW.out; omega)
    subst hR
    go_enter Tryz.func29, Tryz.ntmps29
    go_wp2_with fail
    go_ret
    exact ⟨rfl, B0.out⟩
  obtain ⟨l1, hl1⟩ : ∃ l' : Nat, l' + s1.size = left := ⟨left - s1.size, by omega⟩
  have e1' : (left : Int) - (s1.size : Int) = (l1 : Int) := by omega
  have HL1 := Lib.hid hl1
  clear hl1
  go_enter Tryz.func29, Tryz.ntmps29
  have a4 := C0.out.at 4 (D.row t4 5 v4 d4) rfl
  simp only [val] at a4
  go_wp2_with fail
  refine (K4 _ l1 (by have h0' := HW.out; have h1' := HL1.out; omega) B0.out).out.mono ?_
  rintro e w1 ⟨rfl, hb1⟩
  have B1 := Lib.hid (B0.out.trans (hb1.mono B0.out.size))
  have C1 := Lib.hid (C0.out.step hb1)
  clear hb1 K4 B0 C0 a4
  by_cases hq2 : q4 ≤ l1
  rotate_left
  · rw [after_no (by omega)]
    have hR : R = -1 := by rw [← HA.out]; exact after_no (by have h0' := HW.out; have h1' := HL1.out; omega)
    subst hR
    go_wp2_with fail
    go_ret
    exact ⟨rfl, B1.out⟩
  rw [after_yes hq2]
  obtain ⟨l2, hl2⟩ : ∃ l' : Nat, l1 - q4 = l' := ⟨_, rfl⟩
  have HL2 : Hid (l2 + q4 = l1) := Lib.hid (by omega)
  rw [hl2]
  clear hl2 hq2
  have hR : R = (l2 : Int) := by rw [← HA.out, after_yes (by have h0' := HW.out; have h1' := HL1.out; have h2' := HL2.out; omega)]; have h0' := HW.out; have h1' := HL1.out; have h2' := HL2.out; omega
  subst hR
  go_wp2_with fail
  go_ret
  exact ⟨rfl, B1.out⟩
set_option maxRecDepth 10000 in
set_option maxHeartbeats 4000000 in
theorem szS_Core_of (NN : Nat) (KT : ∀ (lo left : Nat) (w : World) (ds : List D), masses (erases ds) ≤ NN → left ≤ 1048576 → FitL (env 7) (erases ds) → Holdss lo w ds → Calls Tryz.prog 29 #[agg ds, .int .i64 left] w fun r w' => r = .returned (.int .i64 (after left (weights (erases ds)))) ∧ Below w.heap.size w w') (lo left t : Nat) (w : World) (v : Value) (ds : List D) (hm : masses (erases ds) ≤ NN) (hl : left ≤ 1048576) (hf : FitRow 7 (erases ds)) (hh : Holds lo w (.row t 5 v ds)) :
    Calls Tryz.prog 53 #[v, .int .i64 left] w fun r w' => r = .returned (.int .i64 (after left (weight (.row 5 (erases ds))))) ∧ Below w.heap.size w w' := by
  rw [Holds] at hh
  obtain ⟨⟨a, n, cap, rfl, -, hn, hnc, hcm, hc⟩, hds⟩ := hh
  unfold maxLen at hcm
  have HWT : weight (.row 5 (erases ds)) = n + weights (erases ds) := by
    rw [weight, erases_len, hn, Nat.mul_div_cancel _ (by decide)]
  have HN := Lib.hid hn
  have HF := Lib.hid hf
  have HDS := Lib.hid hds
  clear hn hf hds
  by_cases hp : 0 < n
  rotate_left
  · have hn0 : n = 0 := by omega
    subst hn0
    have hd0 : ds = [] := List.eq_nil_of_length_eq_zero (by have := HN.out; omega)
    subst hd0
    rw [HWT]
    simp only [erases, weights]
    rw [after_yes (Nat.zero_le _)]
    clear hc HWT HN HF HDS KT hm
    go_enter Tryz.func53, Tryz.ntmps53
    go_wp2_with fail
    refine wp_loop_rounds 1 ?_
    rw [rounds_succ]
    go_wp2_with fail
    go_ret
    exact ⟨by simp, Below.refl _ _⟩
  obtain ⟨b, off, rfl, hb, hc⟩ := hc hp
  have HC := Lib.hid hc
  clear hc hb
  generalize hR : after left (weight (.row 5 (erases ds))) = R
  rw [HWT] at hR
  have HA := Lib.hid hR
  clear hR HWT
  by_cases hbig : (left : Int) - (n : Int) < 0
  · have hR : R = -1 := by rw [← HA.out]; exact after_no (by omega)
    subst hR
    go_enter Tryz.func53, Tryz.ntmps53
    go_wp2_with fail
    go_ret
    exact ⟨rfl, Below.refl _ _⟩
  go_enter Tryz.func53, Tryz.ntmps53
  go_wp2_with fail
  go_loopw [1, 5] (fun t j wr => ∃ (i r : Nat) (A R : List D), ds = A ++ R ∧ A.length = i * 5 ∧ FitRow 7 (erases R) ∧ j = .int .i64 i ∧ r + n + weights (erases A) = left ∧ t = .int .i64 r ∧ Below w.heap.size w wr) (fun _ j _ => n - (intOf j).toNat)
  case atStart => exact ⟨0, left - n, [], ds, rfl, by simp, HF.out, rfl, by simp [erases, weights]; omega, by go_num, Below.refl _ _⟩
  case round =>
    obtain ⟨i, r, A, R', hds, hal, hfr, rfl, hq, rfl, hbw⟩ := hrel
    have HD := Lib.hid hds
    have HAL := Lib.hid hal
    have HQ := Lib.hid hq
    clear hds hal hq
    rcases fitRow_cases hfr with rfl | ⟨item, rest, rfl, hfi, hfrest⟩
    · have hin : i = n := by
        have h1 := HN.out
        rw [HD.out, List.append_nil, HAL.out] at h1
        omega
      have hR : R = (r : Int) := by
        have h1 := HQ.out
        rw [← HA.out, HD.out, List.append_nil, after_yes (by omega)]
        omega
      subst hin
      have HR2 := Lib.hid hR
      clear hR hfr
      go_wp2_with fail
      go_ret
      exact ⟨by rw [HR2.out]; rfl, hbw⟩
    have hil : item.length = 5 := by have := fitL_len hfi; rw [erases_len] at this; exact this
    have hlt : i < n := by
      have h1 := HN.out
      rw [HD.out, List.length_append, List.length_append, HAL.out, hil] at h1
      omega
    have HIT := Lib.hid hfi
    clear hil hfr
    obtain ⟨n0, e0, rfl, hfi_0⟩ := fitL_int hfi
    clear hfi
    obtain ⟨s1, e1, rfl, hfi_1⟩ := fitL_str hfi_0
    clear hfi_0
    obtain ⟨n2, e2, rfl, hfi_2⟩ := fitL_int hfi_1
    clear hfi_1
    obtain ⟨n3, e3, rfl, hfi_3⟩ := fitL_int hfi_2
    clear hfi_2
    obtain ⟨t4, v4, d4, e4, rfl, f4, hfi_4⟩ := fitL_row (k := 5) rfl hfi_3
    clear hfi_3
    obtain rfl := fitL_nil hfi_4
    clear hfi_4
    have c0 := cell_keep hbw (row_at0 HC.out HD.out HAL.out (D.int n0) rfl)
    simp only [val] at c0
    have c1 := cell_keep hbw (row_at HC.out HD.out HAL.out 1 (D.str s1) rfl)
    simp only [val] at c1
    have c2 := cell_keep hbw (row_at HC.out HD.out HAL.out 2 (D.int n2) rfl)
    simp only [val] at c2
    have c3 := cell_keep hbw (row_at HC.out HD.out HAL.out 3 (D.int n3) rfl)
    simp only [val] at c3
    have c4 := cell_keep hbw (row_at HC.out HD.out HAL.out 4 (D.row t4 5 v4 d4) rfl)
    simp only [val] at c4
    have hit : Holdss lo wr [D.int n0, D.str s1, D.int n2, D.int n3, D.row t4 5 v4 d4] := ((Holdss.append.1 ((Holdss.append.1 (HD.out ▸ HDS.out)).2)).1).below hbw
    have KI := Lib.hid (KT lo r wr [D.int n0, D.str s1, D.int n2, D.int n3, D.row t4 5 v4 d4] (by have h1 := hm; rw [HD.out, erases_append, erases_append, masses_append, masses_append] at h1; omega) (by have := HQ.out; omega) HIT.out hit)
    have HWA : Hid (weights (erases (A ++ [D.int n0, D.str s1, D.int n2, D.int n3, D.row t4 5 v4 d4])) = weights (erases A) + weights (erases [D.int n0, D.str s1, D.int n2, D.int n3, D.row t4 5 v4 d4])) := Lib.hid (by rw [erases_append, weights_append])
    have HWB : Hid (weights (erases ds) = weights (erases A) + weights (erases [D.int n0, D.str s1, D.int n2, D.int n3, D.row t4 5 v4 d4]) + weights (erases rest)) := Lib.hid (by rw [HD.out, erases_append, erases_append, weights_append, weights_append, Nat.add_assoc])
    have HD2 : Hid (ds = (A ++ [D.int n0, D.str s1, D.int n2, D.int n3, D.row t4 5 v4 d4]) ++ rest) := Lib.hid (by rw [HD.out, List.append_assoc])
    have HAL2 : Hid ((A ++ [D.int n0, D.str s1, D.int n2, D.int n3, D.row t4 5 v4 d4]).length = (i + 1) * 5) := Lib.hid (by rw [List.length_append, HAL.out, Nat.succ_mul]; rfl)
    have HFR := Lib.hid hfrest
    generalize hqi : weights (erases [D.int n0, D.str s1, D.int n2, D.int n3, D.row t4 5 v4 d4]) = qi at *
    have HB := Lib.hid hbw
    clear hit hfrest hqi hbw HIT HD HAL
    clear f4
    simp only [agg, vals, List.map, val] at KI
    go_wp2_with fail
    refine KI.out.mono ?_
    rintro e w1 ⟨rfl, hb1⟩
    have HB1 := Lib.hid (HB.out.trans (hb1.mono HB.out.size))
    clear hb1 KI HB
    by_cases hle : qi ≤ r
    · rw [after_yes hle]
      have HT2 : Hid (r - qi + n + weights (erases (A ++ [D.int n0, D.str s1, D.int n2, D.int n3, D.row t4 5 v4 d4])) = left) := Lib.hid (by
        have h1 := HWA.out
        have h2 := HQ.out
        omega)
      generalize r - qi = r' at *
      go_wp2_with fail
      go_roundw
      case rel => exact ⟨i + 1, r', A ++ [D.int n0, D.str s1, D.int n2, D.int n3, D.row t4 5 v4 d4], rest, HD2.out, HAL2.out, HFR.out, by go_num, HT2.out, rfl, HB1.out⟩
      case measure => simp [intOf]; omega
    · rw [after_no (by omega)]
      have hR : R = -1 := by
        rw [← HA.out]
        have h1 := HWB.out
        have h2 := HQ.out
        exact after_no (by omega)
      subst hR
      go_wp2_with fail
      go_ret
      exact ⟨rfl, HB1.out⟩
theorem szS_Core_all (NN : Nat) : (∀ (lo left t : Nat) (w : World) (v : Value) (ds : List D), masses (erases ds) < NN → left ≤ 1048576 → FitRow 7 (erases ds) → Holds lo w (.row t 5 v ds) → Calls Tryz.prog 53 #[v, .int .i64 left] w fun r w' => r = .returned (.int .i64 (after left (weight (.row 5 (erases ds))))) ∧ Below w.heap.size w w') := by
  induction NN with
  | zero => intro _ _ _ _ _ _ h; omega
  | succ NN ih =>
    intro lo left t w v ds hm hl hf hh
    exact szS_Core_of NN (fun lo left w ds hm hl hf hh => sz_Core_of NN ih lo left w ds hm hl hf hh) lo left t w v ds (by omega) hl hf hh
theorem szS_Core (lo left t : Nat) (w : World) (v : Value) (ds : List D) (hl : left ≤ 1048576) (hf : FitRow 7 (erases ds)) (hh : Holds lo w (.row t 5 v ds)) :
    Calls Tryz.prog 53 #[v, .int .i64 left] w fun r w' => r = .returned (.int .i64 (after left (weight (.row 5 (erases ds))))) ∧ Below w.heap.size w w' := szS_Core_all _ lo left t w v ds (Nat.lt_succ_self _) hl hf hh
theorem sz_Core (lo left : Nat) (w : World) (ds : List D) (hl : left ≤ 1048576) (hf : FitL (env 7) (erases ds)) (hh : Holdss lo w ds) :
    Calls Tryz.prog 29 #[agg ds, .int .i64 left] w fun r w' => r = .returned (.int .i64 (after left (weights (erases ds)))) ∧ Below w.heap.size w w' := sz_Core_of _ (szS_Core_all _) lo left w ds (Nat.le_refl _) hl hf hh
end Go.Proofs.YtekeondbbikkpaaGreat.Data

namespace Go.Proofs.YtekeondbbikkpaaGreat.Data
open Go.RowKit
open Strs Tree Texts
set_option maxRecDepth 10000 in
set_option maxHeartbeats 4000000 in
theorem sz_Routine (lo left : Nat) (w : World) (ds : List D) (hl : left ≤ 1048576) (hf : FitL (env 8) (erases ds)) (hh : Holdss lo w ds) :
    Calls Tryz.prog 11 #[agg ds, .int .i64 left] w fun r w' => r = .returned (.int .i64 (after left (weights (erases ds)))) ∧ Below w.heap.size w w' := by
  obtain ⟨s0, e0, rfl, hf_0⟩ := fitL_str hf
  clear hf
  obtain ⟨n1, e1, rfl, hf_1⟩ := fitL_int hf_0
  clear hf_0
  obtain ⟨x2, e2, rfl, hf_2⟩ := fitL_bool hf_1
  clear hf_1
  obtain ⟨n3, e3, rfl, hf_3⟩ := fitL_int hf_2
  clear hf_2
  obtain ⟨n4, e4, rfl, hf_4⟩ := fitL_int hf_3
  clear hf_3
  obtain ⟨n5, e5, rfl, hf_5⟩ := fitL_int hf_4
  clear hf_4
  obtain ⟨s6, e6, rfl, hf_6⟩ := fitL_str hf_5
  clear hf_5
  obtain ⟨n7, e7, rfl, hf_7⟩ := fitL_int hf_6
  clear hf_6
  obtain ⟨n8, e8, rfl, hf_8⟩ := fitL_int hf_7
  clear hf_7
  obtain ⟨t9, v9, d9, e9, rfl, f9, hf_9⟩ := fitL_row (k := 5) rfl hf_8
  clear hf_8
  obtain rfl := fitL_nil hf_9
  clear hf_9
  replace hh : Holdss lo w [D.str s0, D.int n1, D.bool x2, D.int n3, D.int n4, D.int n5, D.str s6, D.int n7, D.int n8, D.row t9 5 v9 d9] := hh
  simp only [Holdss, and_true] at hh
  obtain ⟨h0, h1, h2, h3, h4, h5, h6, h7, h8, h9⟩ := hh
  rw [Holds] at h0
  unfold maxLen at h0
  clear h1
  clear h2
  clear h3
  clear h4
  have HW : weights (erases [D.str s0, D.int n1, D.bool x2, D.int n3, D.int n4, D.int n5, D.str s6, D.int n7, D.int n8, D.row t9 5 v9 d9]) = s0.size + weights (erases [D.int n5, D.str s6, D.int n7, D.int n8, D.row t9 5 v9 d9]) := by
    first | (simp only [erases, erase, weights, weight]; done) | (simp only [erases, erase, weights, weight]; omega)
  have C0 : Hid (Cells w.heap.size [D.str s0, D.int n1, D.bool x2, D.int n3, D.int n4, D.int n5, D.str s6, D.int n7, D.int n8, D.row t9 5 v9 d9] (w.alloc (Obj.cells #[Value.string s0, Value.int .i64 n1, Value.bool x2, Value.int .i64 n3, Value.int .i64 n4, Value.int .i64 n5, Value.string s6, Value.int .i64 n7, Value.int .i64 n8, v9] 28))) := Lib.hid (cells_new w [D.str s0, D.int n1, D.bool x2, D.int n3, D.int n4, D.int n5, D.str s6, D.int n7, D.int n8, D.row t9 5 v9 d9] _)
  have B0 : Hid (Below w.heap.size w (w.alloc (Obj.cells #[Value.string s0, Value.int .i64 n1, Value.bool x2, Value.int .i64 n3, Value.int .i64 n4, Value.int .i64 n5, Value.string s6, Value.int .i64 n7, Value.int .i64 n8, v9] 28))) := Lib.hid ((Below.refl _ _).alloc (Nat.le_refl _) _)
  have K5 := fun (w' : World) (l : Nat) (hl : l ≤ 1048576) (hb : Below w.heap.size w w') => Lib.hid (sz_Core lo l w' [D.int n5, D.str s6, D.int n7, D.int n8, D.row t9 5 v9 d9] hl (FitL.cons _ _ _ _ (Fit.int _) (FitL.cons _ _ _ _ (Fit.str _) (FitL.cons _ _ _ _ (Fit.int _) (FitL.cons _ _ _ _ (Fit.int _) (FitL.cons _ _ _ _ (Fit.row _ _ _ rfl f9) FitL.nil))))) (Holdss.below ⟨h5, h6, h7, h8, h9, trivial⟩ hb))
  generalize weights (erases [D.int n5, D.str s6, D.int n7, D.int n8, D.row t9 5 v9 d9]) = q5 at *
  clear h5
  clear h6
  clear h7
  clear h8
  clear h9 f9
  generalize weights (erases [D.str s0, D.int n1, D.bool x2, D.int n3, D.int n4, D.int n5, D.str s6, D.int n7, D.int n8, D.row t9 5 v9 d9]) = WW at *
  generalize hR : after left WW = R
  have HA := Lib.hid hR
  clear hR
  have HW := Lib.hid HW
  rw [show agg [D.str s0, D.int n1, D.bool x2, D.int n3, D.int n4, D.int n5, D.str s6, D.int n7, D.int n8, D.row t9 5 v9 d9] = Value.agg #[Value.string s0, Value.int .i64 n1, Value.bool x2, Value.int .i64 n3, Value.int .i64 n4, Value.int .i64 n5, Value.string s6, Value.int .i64 n7, Value.int .i64 n8, v9] from rfl]
  by_cases hs1 : (left : Int) - (s0.size : Int) < 0
  · skip
    have hR : R = -1 := by rw [← HA.out]; exact after_no (by have h0' := HW.out; omega)
    subst hR
    go_enter Tryz.func11, Tryz.ntmps11
    go_wp2_with fail
    go_ret
    exact ⟨rfl, B0.out⟩
  obtain ⟨l1, hl1⟩ : ∃ l' : Nat, l' + s0.size = left := ⟨left - s0.size, by omega⟩
  have e1' : (left : Int) - (s0.size : Int) = (l1 : Int) := by omega
  have HL1 := Lib.hid hl1
  clear hl1
  go_enter Tryz.func11, Tryz.ntmps11
  have a5 := C0.out.at 5 (D.int n5) rfl
  simp only [val] at a5
  have a6 := C0.out.at 6 (D.str s6) rfl
  simp only [val] at a6
  have a7 := C0.out.at 7 (D.int n7) rfl
  simp only [val] at a7
  have a8 := C0.out.at 8 (D.int n8) rfl
  simp only [val] at a8
  have a9 := C0.out.at 9 (D.row t9 5 v9 d9) rfl
  simp only [val] at a9
  go_wp2_with fail
  refine (K5 _ l1 (by have h0' := HW.out; have h1' := HL1.out; omega) B0.out).out.mono ?_
  rintro e w1 ⟨rfl, hb1⟩
  have B1 := Lib.hid (B0.out.trans (hb1.mono B0.out.size))
  have C1 := Lib.hid (C0.out.step hb1)
  clear hb1 K5 B0 C0 a5 a6 a7 a8 a9
  by_cases hq2 : q5 ≤ l1
  rotate_left
  · rw [after_no (by omega)]
    have hR : R = -1 := by rw [← HA.out]; exact after_no (by have h0' := HW.out; have h1' := HL1.out; omega)
    subst hR
    go_wp2_with fail
    go_ret
    exact ⟨rfl, B1.out⟩
  rw [after_yes hq2]
  obtain ⟨l2, hl2⟩ : ∃ l' : Nat, l1 - q5 = l' := ⟨_, rfl⟩
  have HL2 : Hid (l2 + q5 = l1) := Lib.hid (by omega)
  rw [hl2]
  clear hl2 hq2
  have hR : R = (l2 : Int) := by rw [← HA.out, after_yes (by have h0' := HW.out; have h1' := HL1.out; have h2' := HL2.out; omega)]; have h0' := HW.out; have h1' := HL1.out; have h2' := HL2.out; omega
  subst hR
  go_wp2_with fail
  go_ret
  exact ⟨rfl, B1.out⟩
set_option maxRecDepth 10000 in
set_option maxHeartbeats 4000000 in
theorem szS_Routine (lo left t : Nat) (w : World) (v : Value) (ds : List D) (hl : left ≤ 1048576) (hf : FitRow 8 (erases ds)) (hh : Holds lo w (.row t 10 v ds)) :
    Calls Tryz.prog 10 #[v, .int .i64 left] w fun r w' => r = .returned (.int .i64 (after left (weight (.row 10 (erases ds))))) ∧ Below w.heap.size w w' := by
  rw [Holds] at hh
  obtain ⟨⟨a, n, cap, rfl, -, hn, hnc, hcm, hc⟩, hds⟩ := hh
  unfold maxLen at hcm
  have HWT : weight (.row 10 (erases ds)) = n + weights (erases ds) := by
    rw [weight, erases_len, hn, Nat.mul_div_cancel _ (by decide)]
  have HN := Lib.hid hn
  have HF := Lib.hid hf
  have HDS := Lib.hid hds
  clear hn hf hds
  by_cases hp : 0 < n
  rotate_left
  · have hn0 : n = 0 := by omega
    subst hn0
    have hd0 : ds = [] := List.eq_nil_of_length_eq_zero (by have := HN.out; omega)
    subst hd0
    rw [HWT]
    simp only [erases, weights]
    rw [after_yes (Nat.zero_le _)]
    clear hc HWT HN HF HDS
    go_enter Tryz.func10, Tryz.ntmps10
    go_wp2_with fail
    refine wp_loop_rounds 1 ?_
    rw [rounds_succ]
    go_wp2_with fail
    go_ret
    exact ⟨by simp, Below.refl _ _⟩
  obtain ⟨b, off, rfl, hb, hc⟩ := hc hp
  have HC := Lib.hid hc
  clear hc hb
  generalize hR : after left (weight (.row 10 (erases ds))) = R
  rw [HWT] at hR
  have HA := Lib.hid hR
  clear hR HWT
  by_cases hbig : (left : Int) - (n : Int) < 0
  · have hR : R = -1 := by rw [← HA.out]; exact after_no (by omega)
    subst hR
    go_enter Tryz.func10, Tryz.ntmps10
    go_wp2_with fail
    go_ret
    exact ⟨rfl, Below.refl _ _⟩
  go_enter Tryz.func10, Tryz.ntmps10
  go_wp2_with fail
  go_loopw [1, 5] (fun t j wr => ∃ (i r : Nat) (A R : List D), ds = A ++ R ∧ A.length = i * 10 ∧ FitRow 8 (erases R) ∧ j = .int .i64 i ∧ r + n + weights (erases A) = left ∧ t = .int .i64 r ∧ Below w.heap.size w wr) (fun _ j _ => n - (intOf j).toNat)
  case atStart => exact ⟨0, left - n, [], ds, rfl, by simp, HF.out, rfl, by simp [erases, weights]; omega, by go_num, Below.refl _ _⟩
  case round =>
    obtain ⟨i, r, A, R', hds, hal, hfr, rfl, hq, rfl, hbw⟩ := hrel
    have HD := Lib.hid hds
    have HAL := Lib.hid hal
    have HQ := Lib.hid hq
    clear hds hal hq
    rcases fitRow_cases hfr with rfl | ⟨item, rest, rfl, hfi, hfrest⟩
    · have hin : i = n := by
        have h1 := HN.out
        rw [HD.out, List.append_nil, HAL.out] at h1
        omega
      have hR : R = (r : Int) := by
        have h1 := HQ.out
        rw [← HA.out, HD.out, List.append_nil, after_yes (by omega)]
        omega
      subst hin
      have HR2 := Lib.hid hR
      clear hR hfr
      go_wp2_with fail
      go_ret
      exact ⟨by rw [HR2.out]; rfl, hbw⟩
    have hil : item.length = 10 := by have := fitL_len hfi; rw [erases_len] at this; exact this
    have hlt : i < n := by
      have h1 := HN.out
      rw [HD.out, List.length_append, List.length_append, HAL.out, hil] at h1
      omega
    have HIT := Lib.hid hfi
    clear hil hfr
    obtain ⟨s0, e0, rfl, hfi_0⟩ := fitL_str hfi
    clear hfi
    obtain ⟨n1, e1, rfl, hfi_1⟩ := fitL_int hfi_0
    clear hfi_0
    obtain ⟨x2, e2, rfl, hfi_2⟩ := fitL_bool hfi_1
    clear hfi_1
    obtain ⟨n3, e3, rfl, hfi_3⟩ := fitL_int hfi_2
    clear hfi_2
    obtain ⟨n4, e4, rfl, hfi_4⟩ := fitL_int hfi_3
    clear hfi_3
    obtain ⟨n5, e5, rfl, hfi_5⟩ := fitL_int hfi_4
    clear hfi_4
    obtain ⟨s6, e6, rfl, hfi_6⟩ := fitL_str hfi_5
    clear hfi_5
    obtain ⟨n7, e7, rfl, hfi_7⟩ := fitL_int hfi_6
    clear hfi_6
    obtain ⟨n8, e8, rfl, hfi_8⟩ := fitL_int hfi_7
    clear hfi_7
    obtain ⟨t9, v9, d9, e9, rfl, f9, hfi_9⟩ := fitL_row (k := 5) rfl hfi_8
    clear hfi_8
    obtain rfl := fitL_nil hfi_9
    clear hfi_9
    have c0 := cell_keep hbw (row_at0 HC.out HD.out HAL.out (D.str s0) rfl)
    simp only [val] at c0
    have c1 := cell_keep hbw (row_at HC.out HD.out HAL.out 1 (D.int n1) rfl)
    simp only [val] at c1
    have c2 := cell_keep hbw (row_at HC.out HD.out HAL.out 2 (D.bool x2) rfl)
    simp only [val] at c2
    have c3 := cell_keep hbw (row_at HC.out HD.out HAL.out 3 (D.int n3) rfl)
    simp only [val] at c3
    have c4 := cell_keep hbw (row_at HC.out HD.out HAL.out 4 (D.int n4) rfl)
    simp only [val] at c4
    have c5 := cell_keep hbw (row_at HC.out HD.out HAL.out 5 (D.int n5) rfl)
    simp only [val] at c5
    have c6 := cell_keep hbw (row_at HC.out HD.out HAL.out 6 (D.str s6) rfl)
    simp only [val] at c6
    have c7 := cell_keep hbw (row_at HC.out HD.out HAL.out 7 (D.int n7) rfl)
    simp only [val] at c7
    have c8 := cell_keep hbw (row_at HC.out HD.out HAL.out 8 (D.int n8) rfl)
    simp only [val] at c8
    have c9 := cell_keep hbw (row_at HC.out HD.out HAL.out 9 (D.row t9 5 v9 d9) rfl)
    simp only [val] at c9
    have hit : Holdss lo wr [D.str s0, D.int n1, D.bool x2, D.int n3, D.int n4, D.int n5, D.str s6, D.int n7, D.int n8, D.row t9 5 v9 d9] := ((Holdss.append.1 ((Holdss.append.1 (HD.out ▸ HDS.out)).2)).1).below hbw
    have KI := Lib.hid (sz_Routine lo r wr [D.str s0, D.int n1, D.bool x2, D.int n3, D.int n4, D.int n5, D.str s6, D.int n7, D.int n8, D.row t9 5 v9 d9] (by have := HQ.out; omega) HIT.out hit)
    have HWA : Hid (weights (erases (A ++ [D.str s0, D.int n1, D.bool x2, D.int n3, D.int n4, D.int n5, D.str s6, D.int n7, D.int n8, D.row t9 5 v9 d9])) = weights (erases A) + weights (erases [D.str s0, D.int n1, D.bool x2, D.int n3, D.int n4, D.int n5, D.str s6, D.int n7, D.int n8, D.row t9 5 v9 d9])) := Lib.hid (by rw [erases_append, weights_append])
    have HWB : Hid (weights (erases ds) = weights (erases A) + weights (erases [D.str s0, D.int n1, D.bool x2, D.int n3, D.int n4, D.int n5, D.str s6, D.int n7, D.int n8, D.row t9 5 v9 d9]) + weights (erases rest)) := Lib.hid (by rw [HD.out, erases_append, erases_append, weights_append, weights_append, Nat.add_assoc])
    have HD2 : Hid (ds = (A ++ [D.str s0, D.int n1, D.bool x2, D.int n3, D.int n4, D.int n5, D.str s6, D.int n7, D.int n8, D.row t9 5 v9 d9]) ++ rest) := Lib.hid (by rw [HD.out, List.append_assoc])
    have HAL2 : Hid ((A ++ [D.str s0, D.int n1, D.bool x2, D.int n3, D.int n4, D.int n5, D.str s6, D.int n7, D.int n8, D.row t9 5 v9 d9]).length = (i + 1) * 10) := Lib.hid (by rw [List.length_append, HAL.out, Nat.succ_mul]; rfl)
    have HFR := Lib.hid hfrest
    generalize hqi : weights (erases [D.str s0, D.int n1, D.bool x2, D.int n3, D.int n4, D.int n5, D.str s6, D.int n7, D.int n8, D.row t9 5 v9 d9]) = qi at *
    have HB := Lib.hid hbw
    clear hit hfrest hqi hbw HIT HD HAL
    clear f9
    simp only [agg, vals, List.map, val] at KI
    go_wp2_with fail
    refine KI.out.mono ?_
    rintro e w1 ⟨rfl, hb1⟩
    have HB1 := Lib.hid (HB.out.trans (hb1.mono HB.out.size))
    clear hb1 KI HB
    by_cases hle : qi ≤ r
    · rw [after_yes hle]
      have HT2 : Hid (r - qi + n + weights (erases (A ++ [D.str s0, D.int n1, D.bool x2, D.int n3, D.int n4, D.int n5, D.str s6, D.int n7, D.int n8, D.row t9 5 v9 d9])) = left) := Lib.hid (by
        have h1 := HWA.out
        have h2 := HQ.out
        omega)
      generalize r - qi = r' at *
      go_wp2_with fail
      go_roundw
      case rel => exact ⟨i + 1, r', A ++ [D.str s0, D.int n1, D.bool x2, D.int n3, D.int n4, D.int n5, D.str s6, D.int n7, D.int n8, D.row t9 5 v9 d9], rest, HD2.out, HAL2.out, HFR.out, by go_num, HT2.out, rfl, HB1.out⟩
      case measure => simp [intOf]; omega
    · rw [after_no (by omega)]
      have hR : R = -1 := by
        rw [← HA.out]
        have h1 := HWB.out
        have h2 := HQ.out
        exact after_no (by omega)
      subst hR
      go_wp2_with fail
      go_ret
      exact ⟨rfl, HB1.out⟩
end Go.Proofs.YtekeondbbikkpaaGreat.Data
