/-
  The model's messages to integers with an argument, name by name.
-/
import Derived.Test.YtkmclgofghaeoaaGreatBSpecBasB
namespace Go.Proofs.YtkmclgofghaeoaaGreat.SpecBas
open Go.RowKit
open Strs Sto Bas
set_option linter.unusedVariables false
set_option maxHeartbeats 4000000 in
theorem two_add (a b : Int) (sel : ByteArray) (w : World) (ha : numB a = true) (hb : numB b = true) (g0 : (sel.toList == [43]) = true) :
    Calls Tryz.prog 50 #[.int .i64 a, .string sel, .int .i64 b] w fun e w' => e = .returned (numR (a + b)).val ∧ Below w.heap.size w w' := by
  have HA := Lib.hid ha
  have HN := Lib.hid hb
  rw [num_iff] at ha hb
  obtain ⟨m1, m2⟩ := ha
  obtain ⟨n1, n2⟩ := hb
  have BX := Lib.hid (rb_new w 29)
  go_enter Tryz.func50, Tryz.ntmps50
  go_wp2_with fail
  refine (number_is (a + b) _).mono ?_
  rintro e w1 ⟨rfl, hb1⟩
  have BX1 := Lib.hid (BX.out.step hb1)
  clear hb1 BX
  obtain ⟨hB, hge, hlt, a0, a1, a2, a3, a4, fz⟩ := BX1.out
  unfold R.val
  go_wp2_with fail
  exact bodyPost_ret (v := (numR (a + b)).val) (by simp [results, Tryz.results50, go_sem, *]; try rfl) rfl ⟨rfl, BX1.out.put _ _ _ _ _⟩
set_option maxHeartbeats 4000000 in
theorem two_sub (a b : Int) (sel : ByteArray) (w : World) (ha : numB a = true) (hb : numB b = true) (g0 : (sel.toList == [43]) = false) (g1 : (sel.toList == [45]) = true) :
    Calls Tryz.prog 50 #[.int .i64 a, .string sel, .int .i64 b] w fun e w' => e = .returned (numR (a - b)).val ∧ Below w.heap.size w w' := by
  have HA := Lib.hid ha
  have HN := Lib.hid hb
  rw [num_iff] at ha hb
  obtain ⟨m1, m2⟩ := ha
  obtain ⟨n1, n2⟩ := hb
  have BX := Lib.hid (rb_new w 29)
  go_enter Tryz.func50, Tryz.ntmps50
  go_wp2_with fail
  refine (number_is (a - b) _).mono ?_
  rintro e w1 ⟨rfl, hb1⟩
  have BX1 := Lib.hid (BX.out.step hb1)
  clear hb1 BX
  obtain ⟨hB, hge, hlt, a0, a1, a2, a3, a4, fz⟩ := BX1.out
  unfold R.val
  go_wp2_with fail
  exact bodyPost_ret (v := (numR (a - b)).val) (by simp [results, Tryz.results50, go_sem, *]; try rfl) rfl ⟨rfl, BX1.out.put _ _ _ _ _⟩
set_option maxHeartbeats 4000000 in
theorem two_mul (a b : Int) (sel : ByteArray) (w : World) (ha : numB a = true) (hb : numB b = true) (g0 : (sel.toList == [43]) = false) (g1 : (sel.toList == [45]) = false) (g2 : (sel.toList == [42]) = true) :
    Calls Tryz.prog 50 #[.int .i64 a, .string sel, .int .i64 b] w fun e w' => e = .returned (numR (a * b)).val ∧ Below w.heap.size w w' := by
  have HA := Lib.hid ha
  have HN := Lib.hid hb
  rw [num_iff] at ha hb
  obtain ⟨m1, m2⟩ := ha
  obtain ⟨n1, n2⟩ := hb
  have BX := Lib.hid (rb_new w 29)
  have p1 : a * b ≤ 999999998000000001 := by
    have h := Int.natAbs_mul a b
    have h2 : a.natAbs * b.natAbs ≤ 999999999 * 999999999 := Nat.mul_le_mul (by omega) (by omega)
    omega
  have p2 : -999999998000000001 ≤ a * b := by
    have h := Int.natAbs_mul a b
    have h2 : a.natAbs * b.natAbs ≤ 999999999 * 999999999 := Nat.mul_le_mul (by omega) (by omega)
    omega
  go_enter Tryz.func50, Tryz.ntmps50
  go_wp2_with fail
  refine (number_is (a * b) _).mono ?_
  rintro e w1 ⟨rfl, hb1⟩
  have BX1 := Lib.hid (BX.out.step hb1)
  clear hb1 BX
  obtain ⟨hB, hge, hlt, a0, a1, a2, a3, a4, fz⟩ := BX1.out
  unfold R.val
  go_wp2_with fail
  exact bodyPost_ret (v := (numR (a * b)).val) (by simp [results, Tryz.results50, go_sem, *]; try rfl) rfl ⟨rfl, BX1.out.put _ _ _ _ _⟩
set_option maxHeartbeats 4000000 in
theorem two_lt (a b : Int) (sel : ByteArray) (w : World) (ha : numB a = true) (hb : numB b = true) (g0 : (sel.toList == [43]) = false) (g1 : (sel.toList == [45]) = false) (g2 : (sel.toList == [42]) = false) (g3 : (sel.toList == [60]) = true) :
    Calls Tryz.prog 50 #[.int .i64 a, .string sel, .int .i64 b] w fun e w' => e = .returned (doneR (boolV (decide (a < b)))).val ∧ Below w.heap.size w w' := by
  have HA := Lib.hid ha
  have HN := Lib.hid hb
  rw [num_iff] at ha hb
  obtain ⟨m1, m2⟩ := ha
  obtain ⟨n1, n2⟩ := hb
  have BX := Lib.hid (rb_new w 29)
  go_enter Tryz.func50, Tryz.ntmps50
  go_wp2_with fail
  refine (bool_is (decide (a < b)) _).mono ?_
  rintro e w1 ⟨rfl, hb1⟩
  have BX1 := Lib.hid (BX.out.step hb1)
  clear hb1 BX
  go_wp2_with fail
  refine (done_is (boolV (decide (a < b))) _).mono ?_
  rintro e w2 ⟨rfl, hb2⟩
  have BX2 := Lib.hid (BX1.out.step hb2)
  clear hb2 BX1
  obtain ⟨hB, hge, hlt, a0, a1, a2, a3, a4, fz⟩ := BX2.out
  unfold R.val
  go_wp2_with fail
  exact bodyPost_ret (v := (doneR (boolV (decide (a < b)))).val) (by simp [results, Tryz.results50, go_sem, *]; try rfl) rfl ⟨rfl, BX2.out.put _ _ _ _ _⟩
set_option maxHeartbeats 4000000 in
theorem two_gt (a b : Int) (sel : ByteArray) (w : World) (ha : numB a = true) (hb : numB b = true) (g0 : (sel.toList == [43]) = false) (g1 : (sel.toList == [45]) = false) (g2 : (sel.toList == [42]) = false) (g3 : (sel.toList == [60]) = false) (g4 : (sel.toList == [62]) = true) :
    Calls Tryz.prog 50 #[.int .i64 a, .string sel, .int .i64 b] w fun e w' => e = .returned (doneR (boolV (decide (b < a)))).val ∧ Below w.heap.size w w' := by
  have HA := Lib.hid ha
  have HN := Lib.hid hb
  rw [num_iff] at ha hb
  obtain ⟨m1, m2⟩ := ha
  obtain ⟨n1, n2⟩ := hb
  have BX := Lib.hid (rb_new w 29)
  go_enter Tryz.func50, Tryz.ntmps50
  go_wp2_with fail
  refine (bool_is (decide (b < a)) _).mono ?_
  rintro e w1 ⟨rfl, hb1⟩
  have BX1 := Lib.hid (BX.out.step hb1)
  clear hb1 BX
  go_wp2_with fail
  refine (done_is (boolV (decide (b < a))) _).mono ?_
  rintro e w2 ⟨rfl, hb2⟩
  have BX2 := Lib.hid (BX1.out.step hb2)
  clear hb2 BX1
  obtain ⟨hB, hge, hlt, a0, a1, a2, a3, a4, fz⟩ := BX2.out
  unfold R.val
  go_wp2_with fail
  exact bodyPost_ret (v := (doneR (boolV (decide (b < a)))).val) (by simp [results, Tryz.results50, go_sem, *]; try rfl) rfl ⟨rfl, BX2.out.put _ _ _ _ _⟩
set_option maxHeartbeats 4000000 in
theorem two_le (a b : Int) (sel : ByteArray) (w : World) (ha : numB a = true) (hb : numB b = true) (g0 : (sel.toList == [43]) = false) (g1 : (sel.toList == [45]) = false) (g2 : (sel.toList == [42]) = false) (g3 : (sel.toList == [60]) = false) (g4 : (sel.toList == [62]) = false) (g5 : (sel.toList == [60, 61]) = true) :
    Calls Tryz.prog 50 #[.int .i64 a, .string sel, .int .i64 b] w fun e w' => e = .returned (doneR (boolV (decide (a ≤ b)))).val ∧ Below w.heap.size w w' := by
  have HA := Lib.hid ha
  have HN := Lib.hid hb
  rw [num_iff] at ha hb
  obtain ⟨m1, m2⟩ := ha
  obtain ⟨n1, n2⟩ := hb
  have BX := Lib.hid (rb_new w 29)
  go_enter Tryz.func50, Tryz.ntmps50
  go_wp2_with fail
  refine (bool_is (decide (a ≤ b)) _).mono ?_
  rintro e w1 ⟨rfl, hb1⟩
  have BX1 := Lib.hid (BX.out.step hb1)
  clear hb1 BX
  go_wp2_with fail
  refine (done_is (boolV (decide (a ≤ b))) _).mono ?_
  rintro e w2 ⟨rfl, hb2⟩
  have BX2 := Lib.hid (BX1.out.step hb2)
  clear hb2 BX1
  obtain ⟨hB, hge, hlt, a0, a1, a2, a3, a4, fz⟩ := BX2.out
  unfold R.val
  go_wp2_with fail
  exact bodyPost_ret (v := (doneR (boolV (decide (a ≤ b)))).val) (by simp [results, Tryz.results50, go_sem, *]; try rfl) rfl ⟨rfl, BX2.out.put _ _ _ _ _⟩
set_option maxHeartbeats 4000000 in
theorem two_ge (a b : Int) (sel : ByteArray) (w : World) (ha : numB a = true) (hb : numB b = true) (g0 : (sel.toList == [43]) = false) (g1 : (sel.toList == [45]) = false) (g2 : (sel.toList == [42]) = false) (g3 : (sel.toList == [60]) = false) (g4 : (sel.toList == [62]) = false) (g5 : (sel.toList == [60, 61]) = false) (g6 : (sel.toList == [62, 61]) = true) :
    Calls Tryz.prog 50 #[.int .i64 a, .string sel, .int .i64 b] w fun e w' => e = .returned (doneR (boolV (decide (b ≤ a)))).val ∧ Below w.heap.size w w' := by
  have HA := Lib.hid ha
  have HN := Lib.hid hb
  rw [num_iff] at ha hb
  obtain ⟨m1, m2⟩ := ha
  obtain ⟨n1, n2⟩ := hb
  have BX := Lib.hid (rb_new w 29)
  go_enter Tryz.func50, Tryz.ntmps50
  go_wp2_with fail
  refine (bool_is (decide (b ≤ a)) _).mono ?_
  rintro e w1 ⟨rfl, hb1⟩
  have BX1 := Lib.hid (BX.out.step hb1)
  clear hb1 BX
  go_wp2_with fail
  refine (done_is (boolV (decide (b ≤ a))) _).mono ?_
  rintro e w2 ⟨rfl, hb2⟩
  have BX2 := Lib.hid (BX1.out.step hb2)
  clear hb2 BX1
  obtain ⟨hB, hge, hlt, a0, a1, a2, a3, a4, fz⟩ := BX2.out
  unfold R.val
  go_wp2_with fail
  exact bodyPost_ret (v := (doneR (boolV (decide (b ≤ a)))).val) (by simp [results, Tryz.results50, go_sem, *]; try rfl) rfl ⟨rfl, BX2.out.put _ _ _ _ _⟩
set_option maxHeartbeats 4000000 in
theorem two_max (a b : Int) (sel : ByteArray) (w : World) (ha : numB a = true) (hb : numB b = true) (g0 : (sel.toList == [43]) = false) (g1 : (sel.toList == [45]) = false) (g2 : (sel.toList == [42]) = false) (g3 : (sel.toList == [60]) = false) (g4 : (sel.toList == [62]) = false) (g5 : (sel.toList == [60, 61]) = false) (g6 : (sel.toList == [62, 61]) = false) (g7 : (sel.toList == [109, 97, 120, 58]) = true) :
    Calls Tryz.prog 50 #[.int .i64 a, .string sel, .int .i64 b] w fun e w' => e = .returned (doneR (intV (max a b))).val ∧ Below w.heap.size w w' := by
  have HA := Lib.hid ha
  have HN := Lib.hid hb
  rw [num_iff] at ha hb
  obtain ⟨m1, m2⟩ := ha
  obtain ⟨n1, n2⟩ := hb
  have BX := Lib.hid (rb_new w 29)
  go_enter Tryz.func50, Tryz.ntmps50
  go_wp2_with fail
  refine (max_is a b _).mono ?_
  rintro e w1 ⟨rfl, rfl⟩
  go_wp2_with fail
  refine (int_is (max a b) _).mono ?_
  rintro e w2 ⟨rfl, hb2⟩
  have BX2 := Lib.hid (BX.out.step hb2)
  clear hb2 BX
  go_wp2_with fail
  refine (done_is (intV (max a b)) _).mono ?_
  rintro e w3 ⟨rfl, hb3⟩
  have BX3 := Lib.hid (BX2.out.step hb3)
  clear hb3 BX2
  obtain ⟨hB, hge, hlt, a0, a1, a2, a3, a4, fz⟩ := BX3.out
  unfold R.val
  go_wp2_with fail
  exact bodyPost_ret (v := (doneR (intV (max a b))).val) (by simp [results, Tryz.results50, go_sem, *]; try rfl) rfl ⟨rfl, BX3.out.put _ _ _ _ _⟩
set_option maxHeartbeats 4000000 in
theorem two_min (a b : Int) (sel : ByteArray) (w : World) (ha : numB a = true) (hb : numB b = true) (g0 : (sel.toList == [43]) = false) (g1 : (sel.toList == [45]) = false) (g2 : (sel.toList == [42]) = false) (g3 : (sel.toList == [60]) = false) (g4 : (sel.toList == [62]) = false) (g5 : (sel.toList == [60, 61]) = false) (g6 : (sel.toList == [62, 61]) = false) (g7 : (sel.toList == [109, 97, 120, 58]) = false) (g8 : (sel.toList == [109, 105, 110, 58]) = true) :
    Calls Tryz.prog 50 #[.int .i64 a, .string sel, .int .i64 b] w fun e w' => e = .returned (doneR (intV (min a b))).val ∧ Below w.heap.size w w' := by
  have HA := Lib.hid ha
  have HN := Lib.hid hb
  rw [num_iff] at ha hb
  obtain ⟨m1, m2⟩ := ha
  obtain ⟨n1, n2⟩ := hb
  have BX := Lib.hid (rb_new w 29)
  go_enter Tryz.func50, Tryz.ntmps50
  go_wp2_with fail
  refine (min_is a b _).mono ?_
  rintro e w1 ⟨rfl, rfl⟩
  go_wp2_with fail
  refine (int_is (min a b) _).mono ?_
  rintro e w2 ⟨rfl, hb2⟩
  have BX2 := Lib.hid (BX.out.step hb2)
  clear hb2 BX
  go_wp2_with fail
  refine (done_is (intV (min a b)) _).mono ?_
  rintro e w3 ⟨rfl, hb3⟩
  have BX3 := Lib.hid (BX2.out.step hb3)
  clear hb3 BX2
  obtain ⟨hB, hge, hlt, a0, a1, a2, a3, a4, fz⟩ := BX3.out
  unfold R.val
  go_wp2_with fail
  exact bodyPost_ret (v := (doneR (intV (min a b))).val) (by simp [results, Tryz.results50, go_sem, *]; try rfl) rfl ⟨rfl, BX3.out.put _ _ _ _ _⟩
set_option maxHeartbeats 4000000 in
theorem two_zero (a b : Int) (sel : ByteArray) (w : World) (ha : numB a = true) (hb : numB b = true) (g0 : (sel.toList == [43]) = false) (g1 : (sel.toList == [45]) = false) (g2 : (sel.toList == [42]) = false) (g3 : (sel.toList == [60]) = false) (g4 : (sel.toList == [62]) = false) (g5 : (sel.toList == [60, 61]) = false) (g6 : (sel.toList == [62, 61]) = false) (g7 : (sel.toList == [109, 97, 120, 58]) = false) (g8 : (sel.toList == [109, 105, 110, 58]) = false) (z : (b == 0) = true) :
    Calls Tryz.prog 50 #[.int .i64 a, .string sel, .int .i64 b] w fun e w' => e = .returned (zeroR).val ∧ Below w.heap.size w w' := by
  have HA := Lib.hid ha
  have HN := Lib.hid hb
  rw [num_iff] at ha hb
  obtain ⟨m1, m2⟩ := ha
  obtain ⟨n1, n2⟩ := hb
  have BX := Lib.hid (rb_new w 29)
  go_enter Tryz.func50, Tryz.ntmps50
  obtain ⟨hB, hge, hlt, a0, a1, a2, a3, a4, fz⟩ := BX.out
  go_wp2_with fail
  exact bodyPost_ret (v := (zeroR).val) (by simp [results, Tryz.results50, go_sem, *]; try rfl) rfl ⟨rfl, (Below.refl _ _).alloc (Nat.le_refl _) _⟩
set_option maxHeartbeats 4000000 in
theorem two_quot (a b : Int) (sel : ByteArray) (w : World) (ha : numB a = true) (hb : numB b = true) (g0 : (sel.toList == [43]) = false) (g1 : (sel.toList == [45]) = false) (g2 : (sel.toList == [42]) = false) (g3 : (sel.toList == [60]) = false) (g4 : (sel.toList == [62]) = false) (g5 : (sel.toList == [60, 61]) = false) (g6 : (sel.toList == [62, 61]) = false) (g7 : (sel.toList == [109, 97, 120, 58]) = false) (g8 : (sel.toList == [109, 105, 110, 58]) = false) (hz : ¬ b = 0) (g9 : (sel.toList == [47, 47]) = true) :
    Calls Tryz.prog 50 #[.int .i64 a, .string sel, .int .i64 b] w fun e w' => e = .returned (numR (quotI a b)).val ∧ Below w.heap.size w w' := by
  have HA := Lib.hid ha
  have HN := Lib.hid hb
  rw [num_iff] at ha hb
  obtain ⟨m1, m2⟩ := ha
  obtain ⟨n1, n2⟩ := hb
  have BX := Lib.hid (rb_new w 29)
  have HZ := Lib.hid hz
  have z := (SpecSto.eq_no hz).1
  clear hz
  go_enter Tryz.func50, Tryz.ntmps50
  go_wp2_with fail
  refine (floor_is a b _ HA.out HN.out HZ.out).mono ?_
  rintro e w1 ⟨rfl, rfl⟩
  go_wp2_with fail
  refine (number_is (quotI a b) _).mono ?_
  rintro e w2 ⟨rfl, hb2⟩
  have BX2 := Lib.hid (BX.out.step hb2)
  clear hb2 BX
  obtain ⟨hB, hge, hlt, a0, a1, a2, a3, a4, fz⟩ := BX2.out
  unfold R.val
  go_wp2_with fail
  exact bodyPost_ret (v := (numR (quotI a b)).val) (by simp [results, Tryz.results50, go_sem, *]; try rfl) rfl ⟨rfl, BX2.out.put _ _ _ _ _⟩
set_option maxHeartbeats 4000000 in
theorem two_rest (a b : Int) (sel : ByteArray) (w : World) (ha : numB a = true) (hb : numB b = true) (g0 : (sel.toList == [43]) = false) (g1 : (sel.toList == [45]) = false) (g2 : (sel.toList == [42]) = false) (g3 : (sel.toList == [60]) = false) (g4 : (sel.toList == [62]) = false) (g5 : (sel.toList == [60, 61]) = false) (g6 : (sel.toList == [62, 61]) = false) (g7 : (sel.toList == [109, 97, 120, 58]) = false) (g8 : (sel.toList == [109, 105, 110, 58]) = false) (hz : ¬ b = 0) (g9 : (sel.toList == [47, 47]) = false) :
    Calls Tryz.prog 50 #[.int .i64 a, .string sel, .int .i64 b] w fun e w' => e = .returned (numR (restI a b)).val ∧ Below w.heap.size w w' := by
  have HA := Lib.hid ha
  have HN := Lib.hid hb
  rw [num_iff] at ha hb
  obtain ⟨m1, m2⟩ := ha
  obtain ⟨n1, n2⟩ := hb
  have BX := Lib.hid (rb_new w 29)
  have HZ := Lib.hid hz
  have z := (SpecSto.eq_no hz).1
  clear hz
  go_enter Tryz.func50, Tryz.ntmps50
  go_wp2_with fail
  refine (floor_is a b _ HA.out HN.out HZ.out).mono ?_
  rintro e w1 ⟨rfl, rfl⟩
  go_wp2_with fail
  refine (number_is (restI a b) _).mono ?_
  rintro e w2 ⟨rfl, hb2⟩
  have BX2 := Lib.hid (BX.out.step hb2)
  clear hb2 BX
  obtain ⟨hB, hge, hlt, a0, a1, a2, a3, a4, fz⟩ := BX2.out
  unfold R.val
  go_wp2_with fail
  exact bodyPost_ret (v := (numR (restI a b)).val) (by simp [results, Tryz.results50, go_sem, *]; try rfl) rfl ⟨rfl, BX2.out.put _ _ _ _ _⟩
end Go.Proofs.YtkmclgofghaeoaaGreat.SpecBas
