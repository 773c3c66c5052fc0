/-
  laws.szClassDef and szClassDefS: what they answer, and that they write nothing that was there.
  laws.szUnit and szUnitS: what they answer, and that they write nothing that was there.
-/
import Derived.Test.YtdohpppkdecbdaaGreatDoorBDataStr
import Derived.Test.YtdohpppkdecbdaaGreatDoorBSzExpr
import Derived.Test.YtdohpppkdecbdaaGreatDoorBSzMethod
namespace Go.Proofs.YtdohpppkdecbdaaGreatDoor.Data
open Go.RowKit
open Strs Tree Texts
set_option maxRecDepth 10000 in
set_option maxHeartbeats 4000000 in
theorem sz_ClassDef (lo left : Nat) (w : World) (ds : List D) (hl : left ≤ 1048576) (hf : FitL (env 4) (erases ds)) (hh : Holdss lo w ds) :
    Calls Tryz.prog 21 #[agg ds, .int .i64 left] w fun r w' => r = .returned (.int .i64 (after left (weights (erases ds)))) ∧ Below w.heap.size w w' := by
  obtain ⟨s0, e0, rfl, hf_0⟩ := fitL_str hf
  clear hf
  obtain ⟨s1, e1, rfl, hf_1⟩ := fitL_str hf_0
  clear hf_0
  obtain ⟨t2, v2, d2, e2, rfl, f2, hf_2⟩ := fitL_row (k := 1) rfl hf_1
  clear hf_1
  obtain ⟨t3, v3, d3, e3, rfl, f3, hf_3⟩ := fitL_row (k := 5) rfl hf_2
  clear hf_2
  obtain rfl := fitL_nil hf_3
  clear hf_3
  replace hh : Holdss lo w [D.str s0, D.str s1, D.row t2 1 v2 d2, D.row t3 5 v3 d3] := hh
  simp only [Holdss, and_true] at hh
  obtain ⟨h0, h1, h2, h3⟩ := hh
  rw [Holds] at h0
  unfold maxLen at h0
  rw [Holds] at h1
  unfold maxLen at h1
  have HW : weights (erases [D.str s0, D.str s1, D.row t2 1 v2 d2, D.row t3 5 v3 d3]) = s0.size + s1.size + weight (.row 1 (erases d2)) + weight (.row 5 (erases d3)) := by
    simp only [erases, erase, weights, weight]
    omega
  have C0 : Hid (Cells w.heap.size [D.str s0, D.str s1, D.row t2 1 v2 d2, D.row t3 5 v3 d3] (w.alloc (Obj.cells #[Value.string s0, Value.string s1, v2, v3] 62))) := Lib.hid (cells_new w [D.str s0, D.str s1, D.row t2 1 v2 d2, D.row t3 5 v3 d3] _)
  have B0 : Hid (Below w.heap.size w (w.alloc (Obj.cells #[Value.string s0, Value.string s1, v2, v3] 62))) := Lib.hid ((Below.refl _ _).alloc (Nat.le_refl _) _)
  have K2 := fun (w' : World) (l : Nat) (hl : l ≤ 1048576) (hb : Below w.heap.size w w') => Lib.hid (szS_String lo l t2 w' v2 d2 hl f2 (h2.below hb))
  have K3 := fun (w' : World) (l : Nat) (hl : l ≤ 1048576) (hb : Below w.heap.size w w') => Lib.hid (szS_Method lo l t3 w' v3 d3 hl f3 (h3.below hb))
  generalize weight (.row 1 (erases d2)) = q2 at *
  generalize weight (.row 5 (erases d3)) = q3 at *
  clear h2 f2
  clear h3 f3
  generalize weights (erases [D.str s0, D.str s1, D.row t2 1 v2 d2, D.row t3 5 v3 d3]) = WW at *
  generalize hR : after left WW = R
  have HA := Lib.hid hR
  clear hR
  have HW := Lib.hid HW
  rw [show agg [D.str s0, D.str s1, D.row t2 1 v2 d2, D.row t3 5 v3 d3] = Value.agg #[Value.string s0, Value.string s1, v2, v3] from rfl]
  by_cases hs1 : (left : Int) - (s0.size : Int) < 0
  · skip
    have hR : R = -1 := by rw [← HA.out]; exact after_no (by have h0' := HW.out; omega)
    subst hR
    go_enter Tryz.func21, Tryz.ntmps21
    go_wp2_with fail
    go_ret
    exact ⟨rfl, B0.out⟩
  obtain ⟨l1, hl1⟩ : ∃ l' : Nat, l' + s0.size = left := ⟨left - s0.size, by omega⟩
  have e1' : (left : Int) - (s0.size : Int) = (l1 : Int) := by omega
  have HL1 := Lib.hid hl1
  clear hl1
  by_cases hs2 : (l1 : Int) - (s1.size : Int) < 0
  · skip
    have hR : R = -1 := by rw [← HA.out]; exact after_no (by have h0' := HW.out; have h1' := HL1.out; omega)
    subst hR
    go_enter Tryz.func21, Tryz.ntmps21
    go_wp2_with fail
    go_ret
    exact ⟨rfl, B0.out⟩
  obtain ⟨l2, hl2⟩ : ∃ l' : Nat, l' + s1.size = l1 := ⟨l1 - s1.size, by omega⟩
  have e2' : (l1 : Int) - (s1.size : Int) = (l2 : Int) := by omega
  have HL2 := Lib.hid hl2
  clear hl2
  go_enter Tryz.func21, Tryz.ntmps21
  have a2 := C0.out.at 2 (D.row t2 1 v2 d2) rfl
  simp only [val] at a2
  go_wp2_with fail
  refine (K2 _ l2 (by have h0' := HW.out; have h1' := HL1.out; have h2' := HL2.out; omega) B0.out).out.mono ?_
  rintro e w1 ⟨rfl, hb1⟩
  have B1 := Lib.hid (B0.out.trans (hb1.mono B0.out.size))
  have C1 := Lib.hid (C0.out.step hb1)
  clear hb1 K2 B0 C0 a2
  by_cases hq3 : q2 ≤ l2
  rotate_left
  · rw [after_no (by omega)]
    have hR : R = -1 := by rw [← HA.out]; exact after_no (by have h0' := HW.out; have h1' := HL1.out; have h2' := HL2.out; omega)
    subst hR
    go_wp2_with fail
    go_ret
    exact ⟨rfl, B1.out⟩
  rw [after_yes hq3]
  obtain ⟨l3, hl3⟩ : ∃ l' : Nat, l2 - q2 = l' := ⟨_, rfl⟩
  have HL3 : Hid (l3 + q2 = l2) := Lib.hid (by omega)
  rw [hl3]
  clear hl3 hq3
  have a3 := C1.out.at 3 (D.row t3 5 v3 d3) rfl
  simp only [val] at a3
  go_wp2_with fail
  refine (K3 _ l3 (by have h0' := HW.out; have h1' := HL1.out; have h2' := HL2.out; have h3' := HL3.out; omega) B1.out).out.mono ?_
  rintro e w2 ⟨rfl, hb2⟩
  have B2 := Lib.hid (B1.out.trans (hb2.mono B1.out.size))
  have C2 := Lib.hid (C1.out.step hb2)
  clear hb2 K3 B1 C1 a3
  by_cases hq4 : q3 ≤ l3
  rotate_left
  · rw [after_no (by omega)]
    have hR : R = -1 := by rw [← HA.out]; exact after_no (by have h0' := HW.out; have h1' := HL1.out; have h2' := HL2.out; have h3' := HL3.out; omega)
    subst hR
    go_wp2_with fail
    go_ret
    exact ⟨rfl, B2.out⟩
  rw [after_yes hq4]
  obtain ⟨l4, hl4⟩ : ∃ l' : Nat, l3 - q3 = l' := ⟨_, rfl⟩
  have HL4 : Hid (l4 + q3 = l3) := Lib.hid (by omega)
  rw [hl4]
  clear hl4 hq4
  have hR : R = (l4 : Int) := by rw [← HA.out, after_yes (by have h0' := HW.out; have h1' := HL1.out; have h2' := HL2.out; have h3' := HL3.out; have h4' := HL4.out; omega)]; have h0' := HW.out; have h1' := HL1.out; have h2' := HL2.out; have h3' := HL3.out; have h4' := HL4.out; omega
  subst hR
  go_wp2_with fail
  go_ret
  exact ⟨rfl, B2.out⟩
set_option maxRecDepth 10000 in
set_option maxHeartbeats 4000000 in
theorem szS_ClassDef (lo left t : Nat) (w : World) (v : Value) (ds : List D) (hl : left ≤ 1048576) (hf : FitRow 4 (erases ds)) (hh : Holds lo w (.row t 4 v ds)) :
    Calls Tryz.prog 9 #[v, .int .i64 left] w fun r w' => r = .returned (.int .i64 (after left (weight (.row 4 (erases ds))))) ∧ Below w.heap.size w w' := by
  rw [Holds] at hh
  obtain ⟨⟨a, n, cap, rfl, -, hn, hnc, hcm, hc⟩, hds⟩ := hh
  unfold maxLen at hcm
  have HWT : weight (.row 4 (erases ds)) = n + weights (erases ds) := by
    rw [weight, erases_len, hn, Nat.mul_div_cancel _ (by decide)]
  have HN := Lib.hid hn
  have HF := Lib.hid hf
  have HDS := Lib.hid hds
  clear hn hf hds
  by_cases hp : 0 < n
  rotate_left
  · have hn0 : n = 0 := by omega
    subst hn0
    have hd0 : ds = [] := List.eq_nil_of_length_eq_zero (by have := HN.out; omega)
    subst hd0
    rw [HWT]
    simp only [erases, weights]
    rw [after_yes (Nat.zero_le _)]
    clear hc HWT HN HF HDS
    go_enter Tryz.func9, Tryz.ntmps9
    go_wp2_with fail
    refine wp_loop_rounds 1 ?_
    rw [rounds_succ]
    go_wp2_with fail
    go_ret
    exact ⟨by simp, Below.refl _ _⟩
  obtain ⟨b, off, rfl, hb, hc⟩ := hc hp
  have HC := Lib.hid hc
  clear hc hb
  generalize hR : after left (weight (.row 4 (erases ds))) = R
  rw [HWT] at hR
  have HA := Lib.hid hR
  clear hR HWT
  by_cases hbig : (left : Int) - (n : Int) < 0
  · have hR : R = -1 := by rw [← HA.out]; exact after_no (by omega)
    subst hR
    go_enter Tryz.func9, Tryz.ntmps9
    go_wp2_with fail
    go_ret
    exact ⟨rfl, Below.refl _ _⟩
  go_enter Tryz.func9, Tryz.ntmps9
  go_wp2_with fail
  go_loopw [1, 5] (fun t j wr => ∃ (i r : Nat) (A R : List D), ds = A ++ R ∧ A.length = i * 4 ∧ FitRow 4 (erases R) ∧ j = .int .i64 i ∧ r + n + weights (erases A) = left ∧ t = .int .i64 r ∧ Below w.heap.size w wr) (fun _ j _ => n - (intOf j).toNat)
  case atStart => exact ⟨0, left - n, [], ds, rfl, by simp, HF.out, rfl, by simp [erases, weights]; omega, by go_num, Below.refl _ _⟩
  case round =>
    obtain ⟨i, r, A, R', hds, hal, hfr, rfl, hq, rfl, hbw⟩ := hrel
    have HD := Lib.hid hds
    have HAL := Lib.hid hal
    have HQ := Lib.hid hq
    clear hds hal hq
    rcases fitRow_cases hfr with rfl | ⟨item, rest, rfl, hfi, hfrest⟩
    · have hin : i = n := by
        have h1 := HN.out
        rw [HD.out, List.append_nil, HAL.out] at h1
        omega
      have hR : R = (r : Int) := by
        have h1 := HQ.out
        rw [← HA.out, HD.out, List.append_nil, after_yes (by omega)]
        omega
      subst hin
      have HR2 := Lib.hid hR
      clear hR hfr
      go_wp2_with fail
      go_ret
      exact ⟨by rw [HR2.out]; rfl, hbw⟩
    have hil : item.length = 4 := by have := fitL_len hfi; rw [erases_len] at this; exact this
    have hlt : i < n := by
      have h1 := HN.out
      rw [HD.out, List.length_append, List.length_append, HAL.out, hil] at h1
      omega
    have HIT := Lib.hid hfi
    clear hil hfr
    obtain ⟨s0, e0, rfl, hfi_0⟩ := fitL_str hfi
    clear hfi
    obtain ⟨s1, e1, rfl, hfi_1⟩ := fitL_str hfi_0
    clear hfi_0
    obtain ⟨t2, v2, d2, e2, rfl, f2, hfi_2⟩ := fitL_row (k := 1) rfl hfi_1
    clear hfi_1
    obtain ⟨t3, v3, d3, e3, rfl, f3, hfi_3⟩ := fitL_row (k := 5) rfl hfi_2
    clear hfi_2
    obtain rfl := fitL_nil hfi_3
    clear hfi_3
    have c0 := cell_keep hbw (row_at0 HC.out HD.out HAL.out (D.str s0) rfl)
    simp only [val] at c0
    have c1 := cell_keep hbw (row_at HC.out HD.out HAL.out 1 (D.str s1) rfl)
    simp only [val] at c1
    have c2 := cell_keep hbw (row_at HC.out HD.out HAL.out 2 (D.row t2 1 v2 d2) rfl)
    simp only [val] at c2
    have c3 := cell_keep hbw (row_at HC.out HD.out HAL.out 3 (D.row t3 5 v3 d3) rfl)
    simp only [val] at c3
    have hit : Holdss lo wr [D.str s0, D.str s1, D.row t2 1 v2 d2, D.row t3 5 v3 d3] := ((Holdss.append.1 ((Holdss.append.1 (HD.out ▸ HDS.out)).2)).1).below hbw
    have KI := Lib.hid (sz_ClassDef lo r wr [D.str s0, D.str s1, D.row t2 1 v2 d2, D.row t3 5 v3 d3] (by have := HQ.out; omega) HIT.out hit)
    have HWA : Hid (weights (erases (A ++ [D.str s0, D.str s1, D.row t2 1 v2 d2, D.row t3 5 v3 d3])) = weights (erases A) + weights (erases [D.str s0, D.str s1, D.row t2 1 v2 d2, D.row t3 5 v3 d3])) := Lib.hid (by rw [erases_append, weights_append])
    have HWB : Hid (weights (erases ds) = weights (erases A) + weights (erases [D.str s0, D.str s1, D.row t2 1 v2 d2, D.row t3 5 v3 d3]) + weights (erases rest)) := Lib.hid (by rw [HD.out, erases_append, erases_append, weights_append, weights_append, Nat.add_assoc])
    have HD2 : Hid (ds = (A ++ [D.str s0, D.str s1, D.row t2 1 v2 d2, D.row t3 5 v3 d3]) ++ rest) := Lib.hid (by rw [HD.out, List.append_assoc])
    have HAL2 : Hid ((A ++ [D.str s0, D.str s1, D.row t2 1 v2 d2, D.row t3 5 v3 d3]).length = (i + 1) * 4) := Lib.hid (by rw [List.length_append, HAL.out, Nat.succ_mul]; rfl)
    have HFR := Lib.hid hfrest
    generalize hqi : weights (erases [D.str s0, D.str s1, D.row t2 1 v2 d2, D.row t3 5 v3 d3]) = qi at *
    have HB := Lib.hid hbw
    clear hit hfrest hqi hbw HIT HD HAL
    clear f2
    clear f3
    simp only [agg, vals, List.map, val] at KI
    go_wp2_with fail
    refine KI.out.mono ?_
    rintro e w1 ⟨rfl, hb1⟩
    have HB1 := Lib.hid (HB.out.trans (hb1.mono HB.out.size))
    clear hb1 KI HB
    by_cases hle : qi ≤ r
    · rw [after_yes hle]
      have HT2 : Hid (r - qi + n + weights (erases (A ++ [D.str s0, D.str s1, D.row t2 1 v2 d2, D.row t3 5 v3 d3])) = left) := Lib.hid (by
        have h1 := HWA.out
        have h2 := HQ.out
        omega)
      generalize r - qi = r' at *
      go_wp2_with fail
      go_roundw
      case rel => exact ⟨i + 1, r', A ++ [D.str s0, D.str s1, D.row t2 1 v2 d2, D.row t3 5 v3 d3], rest, HD2.out, HAL2.out, HFR.out, by go_num, HT2.out, rfl, HB1.out⟩
      case measure => simp [intOf]; omega
    · rw [after_no (by omega)]
      have hR : R = -1 := by
        rw [← HA.out]
        have h1 := HWB.out
        have h2 := HQ.out
        exact after_no (by omega)
      subst hR
      go_wp2_with fail
      go_ret
      exact ⟨rfl, HB1.out⟩
end Go.Proofs.YtdohpppkdecbdaaGreatDoor.Data

namespace Go.Proofs.YtdohpppkdecbdaaGreatDoor.Data
open Go.RowKit
open Strs Tree Texts
set_option maxRecDepth 10000 in
set_option maxHeartbeats 4000000 in
theorem sz_Unit (lo left : Nat) (w : World) (ds : List D) (hl : left ≤ 1048576) (hf : FitL (env 5) (erases ds)) (hh : Holdss lo w ds) :
    Calls Tryz.prog 4 #[agg ds, .int .i64 left] w fun r w' => r = .returned (.int .i64 (after left (weights (erases ds)))) ∧ Below w.heap.size w w' := by
  obtain ⟨t0, v0, d0, e0, rfl, f0, hf_0⟩ := fitL_row (k := 4) rfl hf
  clear hf
  obtain ⟨s1, e1, rfl, hf_1⟩ := fitL_str hf_0
  clear hf_0
  obtain ⟨x2, e2, rfl, hf_2⟩ := fitL_bool hf_1
  clear hf_1
  obtain ⟨t3, v3, d3, e3, rfl, f3, hf_3⟩ := fitL_row (k := 1) rfl hf_2
  clear hf_2
  obtain ⟨t4, v4, d4, e4, rfl, f4, hf_4⟩ := fitL_row (k := 1) rfl hf_3
  clear hf_3
  obtain ⟨t5, v5, d5, e5, rfl, f5, hf_5⟩ := fitL_row (k := 5) rfl hf_4
  clear hf_4
  obtain rfl := fitL_nil hf_5
  clear hf_5
  replace hh : Holdss lo w [D.row t0 4 v0 d0, D.str s1, D.bool x2, D.row t3 1 v3 d3, D.row t4 1 v4 d4, D.row t5 5 v5 d5] := hh
  simp only [Holdss, and_true] at hh
  obtain ⟨h0, h1, h2, h3, h4, h5⟩ := hh
  have HW : weights (erases [D.row t0 4 v0 d0, D.str s1, D.bool x2, D.row t3 1 v3 d3, D.row t4 1 v4 d4, D.row t5 5 v5 d5]) = weight (.row 4 (erases d0)) + weights (erases [D.str s1, D.bool x2, D.row t3 1 v3 d3, D.row t4 1 v4 d4, D.row t5 5 v5 d5]) := by
    first | (simp only [erases, erase, weights, weight]; done) | (simp only [erases, erase, weights, weight]; omega)
  have C0 : Hid (Cells w.heap.size [D.row t0 4 v0 d0, D.str s1, D.bool x2, D.row t3 1 v3 d3, D.row t4 1 v4 d4, D.row t5 5 v5 d5] (w.alloc (Obj.cells #[v0, Value.string s1, Value.bool x2, v3, v4, v5] 28))) := Lib.hid (cells_new w [D.row t0 4 v0 d0, D.str s1, D.bool x2, D.row t3 1 v3 d3, D.row t4 1 v4 d4, D.row t5 5 v5 d5] _)
  have B0 : Hid (Below w.heap.size w (w.alloc (Obj.cells #[v0, Value.string s1, Value.bool x2, v3, v4, v5] 28))) := Lib.hid ((Below.refl _ _).alloc (Nat.le_refl _) _)
  have K0 := fun (w' : World) (l : Nat) (hl : l ≤ 1048576) (hb : Below w.heap.size w w') => Lib.hid (szS_ClassDef lo l t0 w' v0 d0 hl f0 (h0.below hb))
  have K1 := fun (w' : World) (l : Nat) (hl : l ≤ 1048576) (hb : Below w.heap.size w w') => Lib.hid (sz_Method lo l w' [D.str s1, D.bool x2, D.row t3 1 v3 d3, D.row t4 1 v4 d4, D.row t5 5 v5 d5] hl (FitL.cons _ _ _ _ (Fit.str _) (FitL.cons _ _ _ _ (Fit.bool _) (FitL.cons _ _ _ _ (Fit.row _ _ _ rfl f3) (FitL.cons _ _ _ _ (Fit.row _ _ _ rfl f4) (FitL.cons _ _ _ _ (Fit.row _ _ _ rfl f5) FitL.nil))))) (Holdss.below ⟨h1, h2, h3, h4, h5, trivial⟩ hb))
  generalize weight (.row 4 (erases d0)) = q0 at *
  generalize weights (erases [D.str s1, D.bool x2, D.row t3 1 v3 d3, D.row t4 1 v4 d4, D.row t5 5 v5 d5]) = q1 at *
  clear h0 f0
  clear h1
  clear h2
  clear h3 f3
  clear h4 f4
  clear h5 f5
  generalize weights (erases [D.row t0 4 v0 d0, D.str s1, D.bool x2, D.row t3 1 v3 d3, D.row t4 1 v4 d4, D.row t5 5 v5 d5]) = WW at *
  generalize hR : after left WW = R
  have HA := Lib.hid hR
  clear hR
  have HW := Lib.hid HW
  rw [show agg [D.row t0 4 v0 d0, D.str s1, D.bool x2, D.row t3 1 v3 d3, D.row t4 1 v4 d4, D.row t5 5 v5 d5] = Value.agg #[v0, Value.string s1, Value.bool x2, v3, v4, v5] from rfl]
  go_enter Tryz.func4, Tryz.ntmps4
  have a0 := C0.out.at 0 (D.row t0 4 v0 d0) rfl
  simp only [val] at a0
  go_wp2_with fail
  refine (K0 _ left (by have h0' := HW.out; omega) B0.out).out.mono ?_
  rintro e w1 ⟨rfl, hb1⟩
  have B1 := Lib.hid (B0.out.trans (hb1.mono B0.out.size))
  have C1 := Lib.hid (C0.out.step hb1)
  clear hb1 K0 B0 C0 a0
  by_cases hq1 : q0 ≤ left
  rotate_left
  · rw [after_no (by omega)]
    have hR : R = -1 := by rw [← HA.out]; exact after_no (by have h0' := HW.out; omega)
    subst hR
    go_wp2_with fail
    go_ret
    exact ⟨rfl, B1.out⟩
  rw [after_yes hq1]
  obtain ⟨l1, hl1⟩ : ∃ l' : Nat, left - q0 = l' := ⟨_, rfl⟩
  have HL1 : Hid (l1 + q0 = left) := Lib.hid (by omega)
  rw [hl1]
  clear hl1 hq1
  have a1 := C1.out.at 1 (D.str s1) rfl
  simp only [val] at a1
  have a2 := C1.out.at 2 (D.bool x2) rfl
  simp only [val] at a2
  have a3 := C1.out.at 3 (D.row t3 1 v3 d3) rfl
  simp only [val] at a3
  have a4 := C1.out.at 4 (D.row t4 1 v4 d4) rfl
  simp only [val] at a4
  have a5 := C1.out.at 5 (D.row t5 5 v5 d5) rfl
  simp only [val] at a5
  go_wp2_with fail
  refine (K1 _ l1 (by have h0' := HW.out; have h1' := HL1.out; omega) B1.out).out.mono ?_
  rintro e w2 ⟨rfl, hb2⟩
  have B2 := Lib.hid (B1.out.trans (hb2.mono B1.out.size))
  have C2 := Lib.hid (C1.out.step hb2)
  clear hb2 K1 B1 C1 a1 a2 a3 a4 a5
  by_cases hq2 : q1 ≤ l1
  rotate_left
  · rw [after_no (by omega)]
    have hR : R = -1 := by rw [← HA.out]; exact after_no (by have h0' := HW.out; have h1' := HL1.out; omega)
    subst hR
    go_wp2_with fail
    go_ret
    exact ⟨rfl, B2.out⟩
  rw [after_yes hq2]
  obtain ⟨l2, hl2⟩ : ∃ l' : Nat, l1 - q1 = l' := ⟨_, rfl⟩
  have HL2 : Hid (l2 + q1 = l1) := Lib.hid (by omega)
  rw [hl2]
  clear hl2 hq2
  have hR : R = (l2 : Int) := by rw [← HA.out, after_yes (by have h0' := HW.out; have h1' := HL1.out; have h2' := HL2.out; omega)]; have h0' := HW.out; have h1' := HL1.out; have h2' := HL2.out; omega
  subst hR
  go_wp2_with fail
  go_ret
  exact ⟨rfl, B2.out⟩
end Go.Proofs.YtdohpppkdecbdaaGreatDoor.Data
