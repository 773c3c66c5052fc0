/-
  impl's messages to simple values, one by one.
-/
import Derived.Test.YtkmclgofghaeoaaBImplBasA
import Derived.Test.YtkmclgofghaeoaaBSpecPint
namespace Go.Proofs.Ytkmclgofghaeoaa.ImplBas
open Go.RowKit
open Strs Sto Bas SpecBas
set_option linter.unusedVariables false
set_option maxHeartbeats 4000000 in
theorem op_not (v a : V) (w : World) :
    Calls Try.prog 58 #[.agg #[.int .i64 v.kind, .int .i64 v.num, .string v.text], .agg #[.int .i64 a.kind, .int .i64 a.num, .string a.text]] w fun e w' => e = .returned (doneR (boolV (decide (v.num = 0)))).val ∧ Below w.heap.size w w' := by
  have BX := Lib.hid (rb_three (w := w) v a 25 25 31)
  rw [show decide (v.num = 0) = (v.num == 0) by rw [Bool.eq_iff_iff]; simp]
  go_enter Try.func58, Try.ntmps58
  go_wp2_with fail
  refine (bool_is _ _).mono ?_
  rintro e w1 ⟨rfl, hb1⟩
  have BX1 := Lib.hid (BX.out.step hb1)
  clear hb1 BX
  go_wp2_with fail
  refine (done_is _ _).mono ?_
  rintro e w2 ⟨rfl, hb2⟩
  have BX2 := Lib.hid (BX1.out.step hb2)
  clear hb2 BX1
  obtain ⟨hB, hge, hlt, a0, a1, a2, a3, a4, fz⟩ := BX2.out
  unfold R.val
  go_wp2_with fail
  exact bodyPost_ret (v := (doneR (boolV (v.num == 0))).val) (by simp [results, Try.results58, go_sem, *]; try rfl) rfl ⟨rfl, BX2.out.put _ _ _ _ _⟩
set_option maxHeartbeats 4000000 in
theorem op_and (v a : V) (w : World) (hv : v.num = 0 ∨ v.num = 1) (ha : a.num = 0 ∨ a.num = 1) :
    Calls Try.prog 61 #[.agg #[.int .i64 v.kind, .int .i64 v.num, .string v.text], .agg #[.int .i64 a.kind, .int .i64 a.num, .string a.text]] w fun e w' => e = .returned (doneR (boolV (decide (v.num = 1) && decide (a.num = 1)))).val ∧ Below w.heap.size w w' := by
  have BX := Lib.hid (rb_three (w := w) v a 25 25 31)
  obtain ⟨vk, vn, vt⟩ := v
  obtain ⟨ak, an, at'⟩ := a
  simp only at *
  rcases hv with rfl | rfl <;> rcases ha with rfl | rfl
  · rw [show (decide ((0 : Int) = 1) && decide ((0 : Int) = 1)) = false from rfl]
    go_enter Try.func61, Try.ntmps61
    go_wp2_with fail
    refine (bool_is _ _).mono ?_
    rintro e w1 ⟨rfl, hb1⟩
    have BX1 := Lib.hid (BX.out.step hb1)
    clear hb1 BX
    go_wp2_with fail
    refine (done_is _ _).mono ?_
    rintro e w2 ⟨rfl, hb2⟩
    have BX2 := Lib.hid (BX1.out.step hb2)
    clear hb2 BX1
    obtain ⟨hB, hge, hlt, a0, a1, a2, a3, a4, fz⟩ := BX2.out
    unfold R.val
    go_wp2_with fail
    exact bodyPost_ret (v := (doneR (boolV false)).val) (by simp [results, Try.results61, go_sem, *]; try rfl) rfl ⟨rfl, BX2.out.put _ _ _ _ _⟩
  · rw [show (decide ((0 : Int) = 1) && decide ((1 : Int) = 1)) = false from rfl]
    go_enter Try.func61, Try.ntmps61
    go_wp2_with fail
    refine (bool_is _ _).mono ?_
    rintro e w1 ⟨rfl, hb1⟩
    have BX1 := Lib.hid (BX.out.step hb1)
    clear hb1 BX
    go_wp2_with fail
    refine (done_is _ _).mono ?_
    rintro e w2 ⟨rfl, hb2⟩
    have BX2 := Lib.hid (BX1.out.step hb2)
    clear hb2 BX1
    obtain ⟨hB, hge, hlt, a0, a1, a2, a3, a4, fz⟩ := BX2.out
    unfold R.val
    go_wp2_with fail
    exact bodyPost_ret (v := (doneR (boolV false)).val) (by simp [results, Try.results61, go_sem, *]; try rfl) rfl ⟨rfl, BX2.out.put _ _ _ _ _⟩
  · rw [show (decide ((1 : Int) = 1) && decide ((0 : Int) = 1)) = false from rfl]
    go_enter Try.func61, Try.ntmps61
    go_wp2_with fail
    refine (bool_is _ _).mono ?_
    rintro e w1 ⟨rfl, hb1⟩
    have BX1 := Lib.hid (BX.out.step hb1)
    clear hb1 BX
    go_wp2_with fail
    refine (done_is _ _).mono ?_
    rintro e w2 ⟨rfl, hb2⟩
    have BX2 := Lib.hid (BX1.out.step hb2)
    clear hb2 BX1
    obtain ⟨hB, hge, hlt, a0, a1, a2, a3, a4, fz⟩ := BX2.out
    unfold R.val
    go_wp2_with fail
    exact bodyPost_ret (v := (doneR (boolV false)).val) (by simp [results, Try.results61, go_sem, *]; try rfl) rfl ⟨rfl, BX2.out.put _ _ _ _ _⟩
  · rw [show (decide ((1 : Int) = 1) && decide ((1 : Int) = 1)) = true from rfl]
    go_enter Try.func61, Try.ntmps61
    go_wp2_with fail
    refine (bool_is _ _).mono ?_
    rintro e w1 ⟨rfl, hb1⟩
    have BX1 := Lib.hid (BX.out.step hb1)
    clear hb1 BX
    go_wp2_with fail
    refine (done_is _ _).mono ?_
    rintro e w2 ⟨rfl, hb2⟩
    have BX2 := Lib.hid (BX1.out.step hb2)
    clear hb2 BX1
    obtain ⟨hB, hge, hlt, a0, a1, a2, a3, a4, fz⟩ := BX2.out
    unfold R.val
    go_wp2_with fail
    exact bodyPost_ret (v := (doneR (boolV true)).val) (by simp [results, Try.results61, go_sem, *]; try rfl) rfl ⟨rfl, BX2.out.put _ _ _ _ _⟩
set_option maxHeartbeats 4000000 in
theorem op_add (v a : V) (w : World) (hv : numB v.num = true) (ha : numB a.num = true) :
    Calls Try.prog 62 #[.agg #[.int .i64 v.kind, .int .i64 v.num, .string v.text], .agg #[.int .i64 a.kind, .int .i64 a.num, .string a.text]] w fun e w' => e = .returned (numR (v.num + a.num)).val ∧ Below w.heap.size w w' := by
  have BX := Lib.hid (rb_three (w := w) v a 25 25 31)
  rw [num_iff] at hv ha
  obtain ⟨m1, m2⟩ := hv
  obtain ⟨n1, n2⟩ := ha
  go_enter Try.func62, Try.ntmps62
  go_wp2_with fail
  refine (bounded_is (v.num + a.num) _).mono ?_
  rintro e w1 ⟨rfl, hb1⟩
  have BX1 := Lib.hid (BX.out.step hb1)
  clear hb1 BX
  obtain ⟨hB, hge, hlt, a0, a1, a2, a3, a4, fz⟩ := BX1.out
  unfold R.val
  go_wp2_with fail
  exact bodyPost_ret (v := (numR (v.num + a.num)).val) (by simp [results, Try.results62, go_sem, *]; try rfl) rfl ⟨rfl, BX1.out.put _ _ _ _ _⟩
set_option maxHeartbeats 4000000 in
theorem op_sub (v a : V) (w : World) (hv : numB v.num = true) (ha : numB a.num = true) :
    Calls Try.prog 64 #[.agg #[.int .i64 v.kind, .int .i64 v.num, .string v.text], .agg #[.int .i64 a.kind, .int .i64 a.num, .string a.text]] w fun e w' => e = .returned (numR (v.num - a.num)).val ∧ Below w.heap.size w w' := by
  have BX := Lib.hid (rb_three (w := w) v a 25 25 31)
  rw [num_iff] at hv ha
  obtain ⟨m1, m2⟩ := hv
  obtain ⟨n1, n2⟩ := ha
  go_enter Try.func64, Try.ntmps64
  go_wp2_with fail
  refine (bounded_is (v.num - a.num) _).mono ?_
  rintro e w1 ⟨rfl, hb1⟩
  have BX1 := Lib.hid (BX.out.step hb1)
  clear hb1 BX
  obtain ⟨hB, hge, hlt, a0, a1, a2, a3, a4, fz⟩ := BX1.out
  unfold R.val
  go_wp2_with fail
  exact bodyPost_ret (v := (numR (v.num - a.num)).val) (by simp [results, Try.results64, go_sem, *]; try rfl) rfl ⟨rfl, BX1.out.put _ _ _ _ _⟩
set_option maxHeartbeats 4000000 in
theorem op_mul (v a : V) (w : World) (hv : numB v.num = true) (ha : numB a.num = true) :
    Calls Try.prog 65 #[.agg #[.int .i64 v.kind, .int .i64 v.num, .string v.text], .agg #[.int .i64 a.kind, .int .i64 a.num, .string a.text]] w fun e w' => e = .returned (numR (v.num * a.num)).val ∧ Below w.heap.size w w' := by
  have BX := Lib.hid (rb_three (w := w) v a 25 25 31)
  rw [num_iff] at hv ha
  obtain ⟨m1, m2⟩ := hv
  obtain ⟨n1, n2⟩ := ha
  have p1 : v.num * a.num ≤ 999999998000000001 := by
    have h := Int.natAbs_mul v.num a.num
    have h2 : v.num.natAbs * a.num.natAbs ≤ 999999999 * 999999999 := Nat.mul_le_mul (by omega) (by omega)
    omega
  have p2 : -999999998000000001 ≤ v.num * a.num := by
    have h := Int.natAbs_mul v.num a.num
    have h2 : v.num.natAbs * a.num.natAbs ≤ 999999999 * 999999999 := Nat.mul_le_mul (by omega) (by omega)
    omega
  go_enter Try.func65, Try.ntmps65
  go_wp2_with fail
  refine (bounded_is (v.num * a.num) _).mono ?_
  rintro e w1 ⟨rfl, hb1⟩
  have BX1 := Lib.hid (BX.out.step hb1)
  clear hb1 BX
  obtain ⟨hB, hge, hlt, a0, a1, a2, a3, a4, fz⟩ := BX1.out
  unfold R.val
  go_wp2_with fail
  exact bodyPost_ret (v := (numR (v.num * a.num)).val) (by simp [results, Try.results65, go_sem, *]; try rfl) rfl ⟨rfl, BX1.out.put _ _ _ _ _⟩
set_option maxHeartbeats 4000000 in
theorem op_lt (v a : V) (w : World) :
    Calls Try.prog 68 #[.agg #[.int .i64 v.kind, .int .i64 v.num, .string v.text], .agg #[.int .i64 a.kind, .int .i64 a.num, .string a.text]] w fun e w' => e = .returned (doneR (boolV (decide (v.num < a.num)))).val ∧ Below w.heap.size w w' := by
  have BX := Lib.hid (rb_three (w := w) v a 25 25 31)
  go_enter Try.func68, Try.ntmps68
  go_wp2_with fail
  refine (bool_is _ _).mono ?_
  rintro e w1 ⟨rfl, hb1⟩
  have BX1 := Lib.hid (BX.out.step hb1)
  clear hb1 BX
  go_wp2_with fail
  refine (done_is _ _).mono ?_
  rintro e w2 ⟨rfl, hb2⟩
  have BX2 := Lib.hid (BX1.out.step hb2)
  clear hb2 BX1
  obtain ⟨hB, hge, hlt, a0, a1, a2, a3, a4, fz⟩ := BX2.out
  unfold R.val
  go_wp2_with fail
  exact bodyPost_ret (v := (doneR (boolV (decide (v.num < a.num)))).val) (by simp [results, Try.results68, go_sem, *]; try rfl) rfl ⟨rfl, BX2.out.put _ _ _ _ _⟩
set_option maxHeartbeats 4000000 in
theorem op_gt (v a : V) (w : World) :
    Calls Try.prog 69 #[.agg #[.int .i64 v.kind, .int .i64 v.num, .string v.text], .agg #[.int .i64 a.kind, .int .i64 a.num, .string a.text]] w fun e w' => e = .returned (doneR (boolV (decide (a.num < v.num)))).val ∧ Below w.heap.size w w' := by
  have BX := Lib.hid (rb_three (w := w) v a 25 25 31)
  go_enter Try.func69, Try.ntmps69
  go_wp2_with fail
  refine (bool_is _ _).mono ?_
  rintro e w1 ⟨rfl, hb1⟩
  have BX1 := Lib.hid (BX.out.step hb1)
  clear hb1 BX
  go_wp2_with fail
  refine (done_is _ _).mono ?_
  rintro e w2 ⟨rfl, hb2⟩
  have BX2 := Lib.hid (BX1.out.step hb2)
  clear hb2 BX1
  obtain ⟨hB, hge, hlt, a0, a1, a2, a3, a4, fz⟩ := BX2.out
  unfold R.val
  go_wp2_with fail
  exact bodyPost_ret (v := (doneR (boolV (decide (a.num < v.num)))).val) (by simp [results, Try.results69, go_sem, *]; try rfl) rfl ⟨rfl, BX2.out.put _ _ _ _ _⟩
set_option maxHeartbeats 4000000 in
theorem op_le (v a : V) (w : World) :
    Calls Try.prog 70 #[.agg #[.int .i64 v.kind, .int .i64 v.num, .string v.text], .agg #[.int .i64 a.kind, .int .i64 a.num, .string a.text]] w fun e w' => e = .returned (doneR (boolV (decide (v.num ≤ a.num)))).val ∧ Below w.heap.size w w' := by
  have BX := Lib.hid (rb_three (w := w) v a 25 25 31)
  go_enter Try.func70, Try.ntmps70
  go_wp2_with fail
  refine (bool_is _ _).mono ?_
  rintro e w1 ⟨rfl, hb1⟩
  have BX1 := Lib.hid (BX.out.step hb1)
  clear hb1 BX
  go_wp2_with fail
  refine (done_is _ _).mono ?_
  rintro e w2 ⟨rfl, hb2⟩
  have BX2 := Lib.hid (BX1.out.step hb2)
  clear hb2 BX1
  obtain ⟨hB, hge, hlt, a0, a1, a2, a3, a4, fz⟩ := BX2.out
  unfold R.val
  go_wp2_with fail
  exact bodyPost_ret (v := (doneR (boolV (decide (v.num ≤ a.num)))).val) (by simp [results, Try.results70, go_sem, *]; try rfl) rfl ⟨rfl, BX2.out.put _ _ _ _ _⟩
set_option maxHeartbeats 4000000 in
theorem op_ge (v a : V) (w : World) :
    Calls Try.prog 71 #[.agg #[.int .i64 v.kind, .int .i64 v.num, .string v.text], .agg #[.int .i64 a.kind, .int .i64 a.num, .string a.text]] w fun e w' => e = .returned (doneR (boolV (decide (a.num ≤ v.num)))).val ∧ Below w.heap.size w w' := by
  have BX := Lib.hid (rb_three (w := w) v a 25 25 31)
  go_enter Try.func71, Try.ntmps71
  go_wp2_with fail
  refine (bool_is _ _).mono ?_
  rintro e w1 ⟨rfl, hb1⟩
  have BX1 := Lib.hid (BX.out.step hb1)
  clear hb1 BX
  go_wp2_with fail
  refine (done_is _ _).mono ?_
  rintro e w2 ⟨rfl, hb2⟩
  have BX2 := Lib.hid (BX1.out.step hb2)
  clear hb2 BX1
  obtain ⟨hB, hge, hlt, a0, a1, a2, a3, a4, fz⟩ := BX2.out
  unfold R.val
  go_wp2_with fail
  exact bodyPost_ret (v := (doneR (boolV (decide (a.num ≤ v.num)))).val) (by simp [results, Try.results71, go_sem, *]; try rfl) rfl ⟨rfl, BX2.out.put _ _ _ _ _⟩
set_option maxHeartbeats 4000000 in
theorem op_max (v a : V) (w : World) :
    Calls Try.prog 72 #[.agg #[.int .i64 v.kind, .int .i64 v.num, .string v.text], .agg #[.int .i64 a.kind, .int .i64 a.num, .string a.text]] w fun e w' => e = .returned (doneR (intV (max v.num a.num))).val ∧ Below w.heap.size w w' := by
  have BX := Lib.hid (rb_three (w := w) v a 25 25 31)
  go_enter Try.func72, Try.ntmps72
  go_wp2_with fail
  refine (int_is _ _).mono ?_
  rintro e w1 ⟨rfl, hb1⟩
  have BX1 := Lib.hid (BX.out.step hb1)
  clear hb1 BX
  go_wp2_with fail
  refine (done_is _ _).mono ?_
  rintro e w2 ⟨rfl, hb2⟩
  have BX2 := Lib.hid (BX1.out.step hb2)
  clear hb2 BX1
  obtain ⟨hB, hge, hlt, a0, a1, a2, a3, a4, fz⟩ := BX2.out
  unfold R.val
  go_wp2_with fail
  exact bodyPost_ret (v := (doneR (intV (max v.num a.num))).val) (by simp [results, Try.results72, go_sem, *]; try rfl) rfl ⟨rfl, BX2.out.put _ _ _ _ _⟩
set_option maxHeartbeats 4000000 in
theorem op_min (v a : V) (w : World) :
    Calls Try.prog 74 #[.agg #[.int .i64 v.kind, .int .i64 v.num, .string v.text], .agg #[.int .i64 a.kind, .int .i64 a.num, .string a.text]] w fun e w' => e = .returned (doneR (intV (min v.num a.num))).val ∧ Below w.heap.size w w' := by
  have BX := Lib.hid (rb_three (w := w) v a 25 25 31)
  go_enter Try.func74, Try.ntmps74
  go_wp2_with fail
  refine (int_is _ _).mono ?_
  rintro e w1 ⟨rfl, hb1⟩
  have BX1 := Lib.hid (BX.out.step hb1)
  clear hb1 BX
  go_wp2_with fail
  refine (done_is _ _).mono ?_
  rintro e w2 ⟨rfl, hb2⟩
  have BX2 := Lib.hid (BX1.out.step hb2)
  clear hb2 BX1
  obtain ⟨hB, hge, hlt, a0, a1, a2, a3, a4, fz⟩ := BX2.out
  unfold R.val
  go_wp2_with fail
  exact bodyPost_ret (v := (doneR (intV (min v.num a.num))).val) (by simp [results, Try.results74, go_sem, *]; try rfl) rfl ⟨rfl, BX2.out.put _ _ _ _ _⟩
set_option maxHeartbeats 4000000 in
theorem op_neg (v a : V) (w : World) (hv : numB v.num = true) :
    Calls Try.prog 75 #[.agg #[.int .i64 v.kind, .int .i64 v.num, .string v.text], .agg #[.int .i64 a.kind, .int .i64 a.num, .string a.text]] w fun e w' => e = .returned (doneR (intV (-v.num))).val ∧ Below w.heap.size w w' := by
  have BX := Lib.hid (rb_three (w := w) v a 25 25 31)
  rw [num_iff] at hv
  obtain ⟨m1, m2⟩ := hv
  go_enter Try.func75, Try.ntmps75
  go_wp2_with fail
  refine (int_is _ _).mono ?_
  rintro e w1 ⟨rfl, hb1⟩
  have BX1 := Lib.hid (BX.out.step hb1)
  clear hb1 BX
  go_wp2_with fail
  refine (done_is _ _).mono ?_
  rintro e w2 ⟨rfl, hb2⟩
  have BX2 := Lib.hid (BX1.out.step hb2)
  clear hb2 BX1
  obtain ⟨hB, hge, hlt, a0, a1, a2, a3, a4, fz⟩ := BX2.out
  unfold R.val
  go_wp2_with fail
  exact bodyPost_ret (v := (doneR (intV (-v.num))).val) (by simp [results, Try.results75, go_sem, *]; try rfl) rfl ⟨rfl, BX2.out.put _ _ _ _ _⟩
set_option maxHeartbeats 4000000 in
theorem op_abs (v a : V) (w : World) (hv : numB v.num = true) :
    Calls Try.prog 76 #[.agg #[.int .i64 v.kind, .int .i64 v.num, .string v.text], .agg #[.int .i64 a.kind, .int .i64 a.num, .string a.text]] w fun e w' => e = .returned (doneR (intV (max v.num (-v.num)))).val ∧ Below w.heap.size w w' := by
  have BX := Lib.hid (rb_three (w := w) v a 25 25 31)
  rw [num_iff] at hv
  obtain ⟨m1, m2⟩ := hv
  go_enter Try.func76, Try.ntmps76
  go_wp2_with fail
  refine (int_is _ _).mono ?_
  rintro e w1 ⟨rfl, hb1⟩
  have BX1 := Lib.hid (BX.out.step hb1)
  clear hb1 BX
  go_wp2_with fail
  refine (done_is _ _).mono ?_
  rintro e w2 ⟨rfl, hb2⟩
  have BX2 := Lib.hid (BX1.out.step hb2)
  clear hb2 BX1
  obtain ⟨hB, hge, hlt, a0, a1, a2, a3, a4, fz⟩ := BX2.out
  unfold R.val
  go_wp2_with fail
  exact bodyPost_ret (v := (doneR (intV (max v.num (-v.num)))).val) (by simp [results, Try.results76, go_sem, *]; try rfl) rfl ⟨rfl, BX2.out.put _ _ _ _ _⟩
set_option maxHeartbeats 4000000 in
theorem op_rest (v a : V) (w : World) (hv : numB v.num = true) (ha : numB a.num = true) :
    Calls Try.prog 67 #[.agg #[.int .i64 v.kind, .int .i64 v.num, .string v.text], .agg #[.int .i64 a.kind, .int .i64 a.num, .string a.text]] w fun e w' => e = .returned (if a.num = 0 then zeroR else doneR (intV (restI v.num a.num))).val ∧ Below w.heap.size w w' := by
  have BX := Lib.hid (rb_three (w := w) v a 25 25 31)
  by_cases hz : a.num = 0
  · rw [if_pos hz]
    have z := (SpecBas.eq_yes hz).1
    clear hz
    go_enter Try.func67, Try.ntmps67
    go_wp2_with fail
    refine (zero_is _).mono ?_
    rintro e w1 ⟨rfl, hb1⟩
    have BX1 := Lib.hid (BX.out.step hb1)
    clear hb1 BX
    obtain ⟨hB, hge, hlt, a0, a1, a2, a3, a4, fz⟩ := BX1.out
    unfold R.val
    go_wp2_with fail
    exact bodyPost_ret (v := (zeroR).val) (by simp [results, Try.results67, go_sem, *]; try rfl) rfl ⟨rfl, BX1.out.put _ _ _ _ _⟩
  · rw [if_neg hz]
    have z := (SpecBas.eq_no hz).1
    have KR := fun w' => Lib.hid (rest_of v.num a.num w' hv ha hz)
    clear hz
    go_enter Try.func67, Try.ntmps67
    go_wp2_with fail
    refine ((KR _).out).mono ?_
    rintro e w1 ⟨rfl, rfl⟩
    go_wp2_with fail
    refine (int_is _ _).mono ?_
    rintro e w2 ⟨rfl, hb2⟩
    have BX2 := Lib.hid (BX.out.step hb2)
    clear hb2 BX
    go_wp2_with fail
    refine (done_is _ _).mono ?_
    rintro e w3 ⟨rfl, hb3⟩
    have BX3 := Lib.hid (BX2.out.step hb3)
    clear hb3 BX2
    clear KR
    obtain ⟨hB, hge, hlt, a0, a1, a2, a3, a4, fz⟩ := BX3.out
    unfold R.val
    go_wp2_with fail
    exact bodyPost_ret (v := (doneR (intV (restI v.num a.num))).val) (by simp [results, Try.results67, go_sem, *]; try rfl) rfl ⟨rfl, BX3.out.put _ _ _ _ _⟩
set_option maxHeartbeats 4000000 in
theorem op_size (v a : V) (w : World) :
    Calls Try.prog 77 #[.agg #[.int .i64 v.kind, .int .i64 v.num, .string v.text], .agg #[.int .i64 a.kind, .int .i64 a.num, .string a.text]] w fun e w' => e = .returned (doneR (intV v.text.size)).val ∧ Below w.heap.size w w' := by
  have BX := Lib.hid (rb_three (w := w) v a 25 25 31)
  go_enter Try.func77, Try.ntmps77
  go_wp2_with fail
  refine (int_is _ _).mono ?_
  rintro e w1 ⟨rfl, hb1⟩
  have BX1 := Lib.hid (BX.out.step hb1)
  clear hb1 BX
  go_wp2_with fail
  refine (done_is _ _).mono ?_
  rintro e w2 ⟨rfl, hb2⟩
  have BX2 := Lib.hid (BX1.out.step hb2)
  clear hb2 BX1
  obtain ⟨hB, hge, hlt, a0, a1, a2, a3, a4, fz⟩ := BX2.out
  unfold R.val
  go_wp2_with fail
  exact bodyPost_ret (v := (doneR (intV v.text.size)).val) (by simp [results, Try.results77, go_sem, *]; try rfl) rfl ⟨rfl, BX2.out.put _ _ _ _ _⟩
set_option maxHeartbeats 4000000 in
theorem op_tlt (v a : V) (w : World) :
    Calls Try.prog 79 #[.agg #[.int .i64 v.kind, .int .i64 v.num, .string v.text], .agg #[.int .i64 a.kind, .int .i64 a.num, .string a.text]] w fun e w' => e = .returned (doneR (boolV (ltB v.text a.text))).val ∧ Below w.heap.size w w' := by
  have BX := Lib.hid (rb_three (w := w) v a 25 25 31)
  unfold ltB
  go_enter Try.func79, Try.ntmps79
  go_wp2_with fail
  refine (bool_is _ _).mono ?_
  rintro e w1 ⟨rfl, hb1⟩
  have BX1 := Lib.hid (BX.out.step hb1)
  clear hb1 BX
  go_wp2_with fail
  refine (done_is _ _).mono ?_
  rintro e w2 ⟨rfl, hb2⟩
  have BX2 := Lib.hid (BX1.out.step hb2)
  clear hb2 BX1
  obtain ⟨hB, hge, hlt, a0, a1, a2, a3, a4, fz⟩ := BX2.out
  unfold R.val
  go_wp2_with fail
  exact bodyPost_ret (v := (doneR (boolV (Op.bytesLess v.text.toList a.text.toList))).val) (by simp [results, Try.results79, go_sem, *]; try rfl) rfl ⟨rfl, BX2.out.put _ _ _ _ _⟩
set_option maxHeartbeats 4000000 in
theorem op_join (v a : V) (w : World) (hv : v.text.size ≤ 200) (ha : a.text.size ≤ 200) :
    Calls Try.prog 78 #[.agg #[.int .i64 v.kind, .int .i64 v.num, .string v.text], .agg #[.int .i64 a.kind, .int .i64 a.num, .string a.text]] w fun e w' => e = .returned (if 200 < v.text.size + a.text.size then failR ⟨#[116, 111, 111, 32, 108, 111, 110, 103]⟩ else doneR (textV (v.text ++ a.text))).val ∧ Below w.heap.size w w' := by
  have BX := Lib.hid (rb_three (w := w) v a 25 25 31)
  have q1 : (v.text.size : Int) ≤ 200 := by omega
  have q2 : (a.text.size : Int) ≤ 200 := by omega
  by_cases hb : 200 < v.text.size + a.text.size
  · rw [if_pos hb]
    have hbI : decide ((200 : Int) < (v.text.size : Int) + (a.text.size : Int)) = true := decide_eq_true (by omega)
    go_enter Try.func78, Try.ntmps78
    go_wp2_with fail
    refine (error_is _ _).mono ?_
    rintro e w1 ⟨rfl, hb1⟩
    have BX1 := Lib.hid (BX.out.step hb1)
    clear hb1 BX
    obtain ⟨hB, hge, hlt, a0, a1, a2, a3, a4, fz⟩ := BX1.out
    unfold R.val
    go_wp2_with fail
    exact bodyPost_ret (v := (failR ⟨#[116, 111, 111, 32, 108, 111, 110, 103]⟩).val) (by simp [results, Try.results78, go_sem, *]; try rfl) rfl ⟨rfl, BX1.out.put _ _ _ _ _⟩
  · rw [if_neg hb]
    have hbI : decide ((200 : Int) < (v.text.size : Int) + (a.text.size : Int)) = false := decide_eq_false (by omega)
    go_enter Try.func78, Try.ntmps78
    go_wp2_with fail
    refine (text_is _ _).mono ?_
    rintro e w1 ⟨rfl, hb1⟩
    have BX1 := Lib.hid (BX.out.step hb1)
    clear hb1 BX
    go_wp2_with fail
    refine (done_is _ _).mono ?_
    rintro e w2 ⟨rfl, hb2⟩
    have BX2 := Lib.hid (BX1.out.step hb2)
    clear hb2 BX1
    obtain ⟨hB, hge, hlt, a0, a1, a2, a3, a4, fz⟩ := BX2.out
    unfold R.val
    go_wp2_with fail
    exact bodyPost_ret (v := (doneR (textV (v.text ++ a.text))).val) (by simp [results, Try.results78, go_sem, *]; try rfl) rfl ⟨rfl, BX2.out.put _ _ _ _ _⟩
set_option maxHeartbeats 4000000 in
theorem op_at (v a : V) (w : World) (hv : v.text.size ≤ 200) :
    Calls Try.prog 80 #[.agg #[.int .i64 v.kind, .int .i64 v.num, .string v.text], .agg #[.int .i64 a.kind, .int .i64 a.num, .string a.text]] w fun e w' => e = .returned (if a.kind = 2 ∧ 1 ≤ a.num ∧ a.num ≤ v.text.size then doneR (textV (v.text.extract (a.num - 1).toNat a.num.toNat)) else failR ⟨#[111, 117, 116, 32, 111, 102, 32, 114, 97, 110, 103, 101]⟩).val ∧ Below w.heap.size w w' := by
  have BX := Lib.hid (rb_three (w := w) v a 25 25 31)
  have q1 : (v.text.size : Int) ≤ 200 := by omega
  by_cases hk : a.kind = 2
  · have z := (SpecBas.eq_yes hk).2
    by_cases h5 : a.num < 1
    · rw [if_neg (by omega)]
      clear hk
      go_enter Try.func80, Try.ntmps80
      go_wp2_with fail
      refine (error_is _ _).mono ?_
      rintro e w1 ⟨rfl, hb1⟩
      have BX1 := Lib.hid (BX.out.step hb1)
      clear hb1 BX
      obtain ⟨hB, hge, hlt, a0, a1, a2, a3, a4, fz⟩ := BX1.out
      unfold R.val
      go_wp2_with fail
      exact bodyPost_ret (v := (failR ⟨#[111, 117, 116, 32, 111, 102, 32, 114, 97, 110, 103, 101]⟩).val) (by simp [results, Try.results80, go_sem, *]; try rfl) rfl ⟨rfl, BX1.out.put _ _ _ _ _⟩
    · by_cases h6 : a.num ≤ v.text.size
      · rw [if_pos ⟨hk, by omega, h6⟩]
        have h5' : 1 ≤ a.num := by omega
        clear hk
        go_enter Try.func80, Try.ntmps80
        go_wp2_with fail
        refine (text_is _ _).mono ?_
        rintro e w1 ⟨rfl, hb1⟩
        have BX1 := Lib.hid (BX.out.step hb1)
        clear hb1 BX
        go_wp2_with fail
        refine (done_is _ _).mono ?_
        rintro e w2 ⟨rfl, hb2⟩
        have BX2 := Lib.hid (BX1.out.step hb2)
        clear hb2 BX1
        obtain ⟨hB, hge, hlt, a0, a1, a2, a3, a4, fz⟩ := BX2.out
        unfold R.val
        go_wp2_with fail
        exact bodyPost_ret (v := (doneR (textV (v.text.extract (a.num - 1).toNat a.num.toNat))).val) (by simp [results, Try.results80, go_sem, *]; try rfl) rfl ⟨rfl, BX2.out.put _ _ _ _ _⟩
      · rw [if_neg (by omega)]
        clear hk
        go_enter Try.func80, Try.ntmps80
        go_wp2_with fail
        refine (error_is _ _).mono ?_
        rintro e w1 ⟨rfl, hb1⟩
        have BX1 := Lib.hid (BX.out.step hb1)
        clear hb1 BX
        obtain ⟨hB, hge, hlt, a0, a1, a2, a3, a4, fz⟩ := BX1.out
        unfold R.val
        go_wp2_with fail
        exact bodyPost_ret (v := (failR ⟨#[111, 117, 116, 32, 111, 102, 32, 114, 97, 110, 103, 101]⟩).val) (by simp [results, Try.results80, go_sem, *]; try rfl) rfl ⟨rfl, BX1.out.put _ _ _ _ _⟩
  · have z := (SpecBas.eq_no hk).2
    rw [if_neg (fun h => hk h.1)]
    clear hk
    go_enter Try.func80, Try.ntmps80
    go_wp2_with fail
    refine (error_is _ _).mono ?_
    rintro e w1 ⟨rfl, hb1⟩
    have BX1 := Lib.hid (BX.out.step hb1)
    clear hb1 BX
    obtain ⟨hB, hge, hlt, a0, a1, a2, a3, a4, fz⟩ := BX1.out
    unfold R.val
    go_wp2_with fail
    exact bodyPost_ret (v := (failR ⟨#[111, 117, 116, 32, 111, 102, 32, 114, 97, 110, 103, 101]⟩).val) (by simp [results, Try.results80, go_sem, *]; try rfl) rfl ⟨rfl, BX1.out.put _ _ _ _ _⟩
set_option maxHeartbeats 4000000 in
theorem op_int (v a : V) (w : World) (hv : v.text.size ≤ 200) :
    Calls Try.prog 82 #[.agg #[.int .i64 v.kind, .int .i64 v.num, .string v.text], .agg #[.int .i64 a.kind, .int .i64 a.num, .string a.text]] w fun e w' => e = .returned (if (pint v.text).2 && numB (pint v.text).1 then doneR (intV (pint v.text).1) else doneR nilV).val ∧ Below w.heap.size w w' := by
  have BX := Lib.hid (rb_three (w := w) v a 25 25 31)
  have KS := fun w' => Lib.hid (Pint.impl_int v.text w' (by omega))
  have KI := fun n w' => Lib.hid (int_is n w')
  unfold vval intV at KI
  simp only at KI
  have KV := fun w' => Lib.hid (isInt (pint v.text).1 w')
  generalize (pint v.text).1 = n at *
  generalize (pint v.text).2 = ok at *
  generalize numB n = b at *
  cases ok with
  | true =>
    cases b with
    | true =>
      rw [show (true && true) = true from rfl, if_pos rfl]
      go_enter Try.func82, Try.ntmps82
      go_wp2_with fail
      refine ((KS _).out).mono ?_
      rintro e w1 ⟨rfl, rfl⟩
      go_wp2_with fail
      refine ((KI _ _).out).mono ?_
      rintro e w2 ⟨rfl, hb2⟩
      have BX2 := Lib.hid (BX.out.step hb2)
      clear hb2 BX
      go_wp2_with fail
      refine ((KV _).out).mono ?_
      rintro e w3 ⟨rfl, hb3⟩
      have BX3 := Lib.hid (BX2.out.step hb3)
      clear hb3 BX2
      go_wp2_with fail
      refine ((KI _ _).out).mono ?_
      rintro e w4 ⟨rfl, hb4⟩
      have BX4 := Lib.hid (BX3.out.step hb4)
      clear hb4 BX3
      go_wp2_with fail
      refine (done_is (intV n) _).mono ?_
      rintro e w5 ⟨rfl, hb5⟩
      have BX5 := Lib.hid (BX4.out.step hb5)
      clear hb5 BX4
      clear KS KI KV
      obtain ⟨hB, hge, hlt, a0, a1, a2, a3, a4, fz⟩ := BX5.out
      unfold R.val
      go_wp2_with fail
      exact bodyPost_ret (v := (doneR (intV n)).val) (by simp [results, Try.results82, go_sem, *]; try rfl) rfl ⟨rfl, BX5.out.put _ _ _ _ _⟩
    | false =>
      rw [show (true && false) = false from rfl, if_neg Bool.false_ne_true]
      go_enter Try.func82, Try.ntmps82
      go_wp2_with fail
      refine ((KS _).out).mono ?_
      rintro e w1 ⟨rfl, rfl⟩
      go_wp2_with fail
      refine ((KI _ _).out).mono ?_
      rintro e w2 ⟨rfl, hb2⟩
      have BX2 := Lib.hid (BX.out.step hb2)
      clear hb2 BX
      go_wp2_with fail
      refine ((KV _).out).mono ?_
      rintro e w3 ⟨rfl, hb3⟩
      have BX3 := Lib.hid (BX2.out.step hb3)
      clear hb3 BX2
      go_wp2_with fail
      refine (done_is nilV _).mono ?_
      rintro e w4 ⟨rfl, hb4⟩
      have BX4 := Lib.hid (BX3.out.step hb4)
      clear hb4 BX3
      clear KS KI KV
      obtain ⟨hB, hge, hlt, a0, a1, a2, a3, a4, fz⟩ := BX4.out
      unfold R.val
      go_wp2_with fail
      exact bodyPost_ret (v := (doneR nilV).val) (by simp [results, Try.results82, go_sem, *]; try rfl) rfl ⟨rfl, BX4.out.put _ _ _ _ _⟩
  | false =>
    rw [show (false && b) = false from rfl, if_neg Bool.false_ne_true]
    clear KI KV
    go_enter Try.func82, Try.ntmps82
    go_wp2_with fail
    refine ((KS _).out).mono ?_
    rintro e w1 ⟨rfl, rfl⟩
    go_wp2_with fail
    refine (done_is nilV _).mono ?_
    rintro e w2 ⟨rfl, hb2⟩
    have BX2 := Lib.hid (BX.out.step hb2)
    clear hb2 BX
    clear KS
    obtain ⟨hB, hge, hlt, a0, a1, a2, a3, a4, fz⟩ := BX2.out
    unfold R.val
    go_wp2_with fail
    exact bodyPost_ret (v := (doneR nilV).val) (by simp [results, Try.results82, go_sem, *]; try rfl) rfl ⟨rfl, BX2.out.put _ _ _ _ _⟩
set_option maxHeartbeats 4000000 in
theorem op_str (v a : V) (w : World) :
    Calls Try.prog 83 #[.agg #[.int .i64 v.kind, .int .i64 v.num, .string v.text], .agg #[.int .i64 a.kind, .int .i64 a.num, .string a.text]] w fun e w' => e = .returned (doneR (textV v.text)).val ∧ Below w.heap.size w w' := by
  have BX := Lib.hid (rb_three (w := w) v a 25 25 31)
  go_enter Try.func83, Try.ntmps83
  go_wp2_with fail
  refine (text_is _ _).mono ?_
  rintro e w1 ⟨rfl, hb1⟩
  have BX1 := Lib.hid (BX.out.step hb1)
  clear hb1 BX
  go_wp2_with fail
  refine (done_is _ _).mono ?_
  rintro e w2 ⟨rfl, hb2⟩
  have BX2 := Lib.hid (BX1.out.step hb2)
  clear hb2 BX1
  obtain ⟨hB, hge, hlt, a0, a1, a2, a3, a4, fz⟩ := BX2.out
  unfold R.val
  go_wp2_with fail
  exact bodyPost_ret (v := (doneR (textV v.text)).val) (by simp [results, Try.results83, go_sem, *]; try rfl) rfl ⟨rfl, BX2.out.put _ _ _ _ _⟩
set_option maxHeartbeats 4000000 in
theorem op_sym (v a : V) (w : World) (hv : v.text.size ≤ 200) :
    Calls Try.prog 81 #[.agg #[.int .i64 v.kind, .int .i64 v.num, .string v.text], .agg #[.int .i64 a.kind, .int .i64 a.num, .string a.text]] w fun e w' => e = .returned (if Tok.sel v.text then doneR (symV v.text) else failR ⟨#[110, 111, 116, 32, 97, 32, 115, 101, 108, 101, 99, 116, 111, 114]⟩).val ∧ Below w.heap.size w w' := by
  have BX := Lib.hid (rb_three (w := w) v a 25 25 31)
  have KV := fun w' => Lib.hid (isSym v.text w' (by omega))
  have KD := fun w' => Lib.hid (done_is (symV v.text) w')
  unfold vval symV at KD
  simp only at KD
  have hc := ((vb_new (((w.alloc (.cells #[.int .i64 v.kind, .int .i64 v.num, .string v.text] 25)).alloc (.cells #[.int .i64 a.kind, .int .i64 a.num, .string a.text] 25)).alloc (.cells #[.int .i64 0, .int .i64 0, .int .i64 0, .string ⟨#[]⟩, .string ⟨#[]⟩] 31)) ⟨4, 0, v.text⟩ 25))
  rw [show (((w.alloc (.cells #[.int .i64 v.kind, .int .i64 v.num, .string v.text] 25)).alloc (.cells #[.int .i64 a.kind, .int .i64 a.num, .string a.text] 25)).alloc (.cells #[.int .i64 0, .int .i64 0, .int .i64 0, .string ⟨#[]⟩, .string ⟨#[]⟩] 31)).heap.size = w.heap.size + 1 + 1 + 1 by simp] at hc
  have HC := Lib.hid hc
  have BX := Lib.hid (BX.out.step ((Below.refl _ _).alloc (Nat.le_refl _) (.cells #[.int .i64 4, .int .i64 0, .string v.text] 25)))
  clear hc
  cases hq : Tok.sel v.text with
  | true =>
    rw [if_pos rfl]
    rw [hq] at KV
    go_enter Try.func81, Try.ntmps81
    go_wp2_with fail
    refine (KV _).out.mono ?_
    rintro e w1 ⟨rfl, hb1⟩
    have BX1 := Lib.hid (BX.out.step hb1)
    obtain ⟨c0, c1, c2⟩ := HC.out.step hb1
    simp only at c0 c1 c2
    clear hb1 KV HC BX
    go_wp2_with fail
    refine (KD _).out.mono ?_
    rintro e w2 ⟨rfl, hb2⟩
    have BX2 := Lib.hid (BX1.out.step hb2)
    clear hb2 KD BX1 c0 c1 c2
    obtain ⟨hB, hge, hlt, a0, a1, a2, a3, a4, fz⟩ := BX2.out
    unfold R.val
    go_wp2_with fail
    exact bodyPost_ret (v := (doneR (symV v.text)).val) (by simp [results, Try.results81, go_sem, *]; try rfl) rfl ⟨rfl, BX2.out.put _ _ _ _ _⟩
  | false =>
    rw [if_neg Bool.false_ne_true]
    rw [hq] at KV
    clear KD HC
    go_enter Try.func81, Try.ntmps81
    go_wp2_with fail
    refine ((KV _).out).mono ?_
    rintro e w1 ⟨rfl, hb1⟩
    have BX1 := Lib.hid (BX.out.step hb1)
    clear hb1 BX
    go_wp2_with fail
    refine (error_is _ _).mono ?_
    rintro e w2 ⟨rfl, hb2⟩
    have BX2 := Lib.hid (BX1.out.step hb2)
    clear hb2 BX1
    clear KV
    obtain ⟨hB, hge, hlt, a0, a1, a2, a3, a4, fz⟩ := BX2.out
    unfold R.val
    go_wp2_with fail
    exact bodyPost_ret (v := (failR ⟨#[110, 111, 116, 32, 97, 32, 115, 101, 108, 101, 99, 116, 111, 114]⟩).val) (by simp [results, Try.results81, go_sem, *]; try rfl) rfl ⟨rfl, BX2.out.put _ _ _ _ _⟩
end Go.Proofs.Ytkmclgofghaeoaa.ImplBas
