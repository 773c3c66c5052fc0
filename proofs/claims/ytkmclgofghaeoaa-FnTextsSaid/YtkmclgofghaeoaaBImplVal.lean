/-
  impl.isLine, IsValue: when a value is right.
-/
import Derived.Test.YtkmclgofghaeoaaBImplCount
import Derived.Test.YtkmclgofghaeoaaBImplPrintable
import Derived.Test.YtkmclgofghaeoaaBStoAll
import Derived.Laws.StructEq
import Derived.BigQuiet
namespace Go.Proofs.Ytkmclgofghaeoaa.ImplSto
open Go.RowKit
open Strs Core Sto
open ImplTok (Part)
set_option linter.unusedVariables false
set_option linter.unusedSimpArgs false
theorem empty_is (t : ByteArray) : t.toList.isEmpty = emptyB t := by
  unfold emptyB
  have h := Tok.len_list t
  rw [ByteArray.toList_eq, Bool.eq_iff_iff, List.isEmpty_iff, decide_eq_true_eq, ← h]
  exact List.length_eq_zero_iff.symm
theorem eq_yes {a b : Int} (h : a = b) : (a == b) = true ∧ (a != b) = false := by subst h; simp
theorem eq_no {a b : Int} (h : ¬ a = b) : (a == b) = false ∧ (a != b) = true := by
  have : (a == b) = false := by rw [beq_eq_false_iff_ne]; exact h
  exact ⟨this, by unfold bne; rw [this]; rfl⟩
theorem line_any (s : ByteArray) (w : World) : Calls Try.prog 33 #[.string s] w (Part (lineB s) w) := by
  have KP := Lib.hid (ImplPrintable.printable_any s w)
  have HV : Hid (lineB s = (decide (s.size ≤ 200) && s.data.toList.all Tok.plain)) := Lib.hid rfl
  generalize lineB s = R at *
  generalize s.data.toList.all Tok.plain = A at *
  by_cases h : s.size ≤ 200
  · have g : decide ((s.size : Int) ≤ 200) = true := decide_eq_true (by omega)
    rw [decide_eq_true h, Bool.true_and] at HV
    have hv := HV.out
    subst hv
    clear h HV
    go_enter Try.func33, Try.ntmps33
    go_wp2_with fail
    refine KP.out.mono ?_
    rintro e w1 ⟨rfl, hb1⟩
    have H1 := Lib.hid hb1; clear hb1
    go_wp2_with fail
    go_ret
    exact ⟨rfl, H1.out⟩
  · have g : decide ((s.size : Int) ≤ 200) = false := decide_eq_false (by omega)
    have hR : R = false := by rw [HV.out, decide_eq_false h]; rfl
    subst hR
    clear h KP HV
    go_enter Try.func33, Try.ntmps33
    go_wp2_with fail
    go_ret
    exact ⟨rfl, Below.refl _ _⟩
set_option maxHeartbeats 4000000 in
theorem val0 (n : Int) (t : ByteArray) (w : World) :
    Calls Try.prog 16 #[.agg #[.int .i64 0, .int .i64 n, .string t]] w fun e w' => e = .returned (.bool (decide (n = 0) && emptyB t)) ∧ Below w.heap.size w w' := by
  have HE := empty_is t
  generalize emptyB t = B at *
  by_cases hn : n = 0
  · have g := (eq_yes hn).1
    rw [decide_eq_true hn, Bool.true_and]
    clear hn
    cases B
    all_goals
      go_enter Try.func16, Try.ntmps16
      go_wp2_with fail
      go_ret
      exact ⟨rfl, (Below.refl _ _).alloc (Nat.le_refl _) _⟩
  · have g := (eq_no hn).1
    rw [decide_eq_false hn, Bool.false_and]
    clear hn
    go_enter Try.func16, Try.ntmps16
    go_wp2_with fail
    go_ret
    exact ⟨rfl, (Below.refl _ _).alloc (Nat.le_refl _) _⟩
set_option maxHeartbeats 4000000 in
theorem val1 (n : Int) (t : ByteArray) (w : World) :
    Calls Try.prog 16 #[.agg #[.int .i64 1, .int .i64 n, .string t]] w fun e w' => e = .returned (.bool ((decide (0 ≤ n) && decide (n ≤ 1)) && emptyB t)) ∧ Below w.heap.size w w' := by
  have HE := empty_is t
  generalize emptyB t = B at *
  have h : (Hid ((decide (0 ≤ n) && decide (n ≤ 1)) = true) ∧ (n == 0) = true ∧ (n == 1) = false) ∨ (Hid ((decide (0 ≤ n) && decide (n ≤ 1)) = true) ∧ (n == 0) = false ∧ (n == 1) = true) ∨ (Hid ((decide (0 ≤ n) && decide (n ≤ 1)) = false) ∧ (n == 0) = false ∧ (n == 1) = false) := by
    by_cases h0 : n = 0
    · subst h0; exact .inl ⟨rfl, rfl, rfl⟩
    · by_cases h1 : n = 1
      · subst h1; exact .inr (.inl ⟨rfl, rfl, rfl⟩)
      · refine .inr (.inr ⟨?_, (eq_no h0).1, (eq_no h1).1⟩)
        show _ = _
        rw [← Bool.not_eq_true, Bool.and_eq_true, decide_eq_true_eq, decide_eq_true_eq]
        omega
  generalize (decide (0 ≤ n) && decide (n ≤ 1)) = R at *
  rcases h with ⟨hR, g0, g1⟩ | ⟨hR, g0, g1⟩ | ⟨hR, g0, g1⟩
  all_goals
    have hR2 := hR.out
    subst hR2
    clear hR
    cases B
    all_goals
      go_enter Try.func16, Try.ntmps16
      go_wp2_with fail
      go_ret
      exact ⟨rfl, (Below.refl _ _).alloc (Nat.le_refl _) _⟩
set_option maxHeartbeats 4000000 in
theorem val2 (n : Int) (t : ByteArray) (w : World) :
    Calls Try.prog 16 #[.agg #[.int .i64 2, .int .i64 n, .string t]] w fun e w' => e = .returned (.bool ((decide (-999999999 ≤ n) && decide (n ≤ 999999999)) && emptyB t)) ∧ Below w.heap.size w w' := by
  have HE := empty_is t
  generalize emptyB t = B at *
  cases B with
  | false =>
    rw [Bool.and_false]
    go_enter Try.func16, Try.ntmps16
    go_wp2_with fail
    go_ret
    exact ⟨rfl, (Below.refl _ _).alloc (Nat.le_refl _) _⟩
  | true =>
  rw [Bool.and_true]
  cases h1 : decide (-999999999 ≤ n) with
  | false =>
    rw [Bool.false_and]
    go_enter Try.func16, Try.ntmps16
    go_wp2_with fail
    go_ret
    exact ⟨rfl, (Below.refl _ _).alloc (Nat.le_refl _) _⟩
  | true =>
  rw [Bool.true_and]
  cases h2 : decide (n ≤ 999999999)
  all_goals
    go_enter Try.func16, Try.ntmps16
    go_wp2_with fail
    go_ret
    exact ⟨rfl, (Below.refl _ _).alloc (Nat.le_refl _) _⟩
theorem self_eq (t : ByteArray) : (t.toList == t.toList) = true := by simp
set_option maxHeartbeats 4000000 in
theorem val3 (n : Int) (t : ByteArray) (w : World) :
    Calls Try.prog 16 #[.agg #[.int .i64 3, .int .i64 n, .string t]] w fun e w' => e = .returned (.bool (decide (n = 0) && lineB t)) ∧ Below w.heap.size w w' := by
  have KL := fun w' => Lib.hid (line_any t w')
  generalize lineB t = B at *
  by_cases hn : n = 0
  · have g := (eq_yes hn).1
    rw [decide_eq_true hn, Bool.true_and]
    clear hn
    go_enter Try.func16, Try.ntmps16
    go_wp2_with fail
    refine (KL _).out.mono ?_
    rintro e w1 ⟨rfl, hb1⟩
    have H1 := Lib.hid (((Below.refl _ w).alloc (Nat.le_refl _) _).trans (hb1.mono (by simp))); clear hb1
    go_wp2_with fail
    go_ret
    exact ⟨rfl, H1.out⟩
  · have g := (eq_no hn).1
    rw [decide_eq_false hn, Bool.false_and]
    clear hn
    go_enter Try.func16, Try.ntmps16
    go_wp2_with fail
    go_ret
    exact ⟨rfl, (Below.refl _ _).alloc (Nat.le_refl _) _⟩
set_option maxHeartbeats 4000000 in
theorem val4 (n : Int) (t : ByteArray) (w : World) (ht : t.size ≤ 1048576) :
    Calls Try.prog 16 #[.agg #[.int .i64 4, .int .i64 n, .string t]] w fun e w' => e = .returned (.bool (decide (n = 0) && Tok.sel t)) ∧ Below w.heap.size w w' := by
  have KL := fun w' => Lib.hid (ImplCount.sel_any t w' ht)
  generalize Tok.sel t = B at *
  by_cases hn : n = 0
  · have g := (eq_yes hn).1
    rw [decide_eq_true hn, Bool.true_and]
    clear hn
    go_enter Try.func16, Try.ntmps16
    go_wp2_with fail
    refine (KL _).out.mono ?_
    rintro e w1 ⟨rfl, hb1⟩
    have H1 := Lib.hid (((Below.refl _ w).alloc (Nat.le_refl _) _).trans (hb1.mono (by simp))); clear hb1
    go_wp2_with fail
    go_ret
    exact ⟨rfl, H1.out⟩
  · have g := (eq_no hn).1
    rw [decide_eq_false hn, Bool.false_and]
    clear hn
    go_enter Try.func16, Try.ntmps16
    go_wp2_with fail
    go_ret
    exact ⟨rfl, (Below.refl _ _).alloc (Nat.le_refl _) _⟩
set_option maxHeartbeats 4000000 in
theorem val5 (k n : Int) (t : ByteArray) (w : World) (h : k = 5 ∨ k = 6 ∨ k = 7) :
    Calls Try.prog 16 #[.agg #[.int .i64 k, .int .i64 n, .string t]] w fun e w' => e = .returned (.bool (decide (0 ≤ n) && emptyB t)) ∧ Below w.heap.size w w' := by
  have HE := empty_is t
  generalize emptyB t = B at *
  generalize hD : decide (0 ≤ n) = D
  cases D
  all_goals
    cases B
    all_goals
      rcases h with rfl | rfl | rfl
      all_goals
        go_enter Try.func16, Try.ntmps16
        go_wp2_with fail
        go_ret
        exact ⟨rfl, (Below.refl _ _).alloc (Nat.le_refl _) _⟩
set_option maxHeartbeats 4000000 in
theorem val8 (k n : Int) (t : ByteArray) (w : World) (h0 : (k == 0) = false) (h1 : (k == 1) = false) (h2 : (k == 2) = false) (h3 : (k == 3) = false) (h4 : (k == 4) = false) (h5 : (k == 5) = false) (h6 : (k == 6) = false) (h7 : (k == 7) = false) :
    Calls Try.prog 16 #[.agg #[.int .i64 k, .int .i64 n, .string t]] w fun e w' => e = .returned (.bool false) ∧ Below w.heap.size w w' := by
  go_enter Try.func16, Try.ntmps16
  go_wp2_with fail
  go_ret
  exact ⟨rfl, (Below.refl _ _).alloc (Nat.le_refl _) _⟩
theorem val_any (v : V) (w : World) (ht : v.text.size ≤ 1048576) :
    Calls Try.prog 16 #[.agg #[.int .i64 v.kind, .int .i64 v.num, .string v.text]] w fun e w' => e = .returned (.bool (valB v)) ∧ Below w.heap.size w w' := by
  obtain ⟨k, n, t⟩ := v
  simp only at ht ⊢
  unfold valB
  simp only
  by_cases h0 : k = 0
  · subst h0; exact val0 n t w
  by_cases h1 : k = 1
  · subst h1; exact val1 n t w
  by_cases h2 : k = 2
  · subst h2; exact val2 n t w
  by_cases h3 : k = 3
  · subst h3; exact val3 n t w
  by_cases h4 : k = 4
  · subst h4; exact val4 n t w ht
  rw [if_neg h0, if_neg h1, if_neg h2, if_neg h3, if_neg h4]
  by_cases h5 : 5 ≤ k ∧ k ≤ 7
  · rw [if_pos h5]; exact val5 k n t w (by omega)
  · rw [if_neg h5]
    exact val8 k n t w (eq_no h0).1 (eq_no h1).1 (eq_no h2).1 (eq_no h3).1 (eq_no h4).1 (eq_no (by omega)).1 (eq_no (by omega)).1 (eq_no (by omega)).1
end Go.Proofs.Ytkmclgofghaeoaa.ImplSto
