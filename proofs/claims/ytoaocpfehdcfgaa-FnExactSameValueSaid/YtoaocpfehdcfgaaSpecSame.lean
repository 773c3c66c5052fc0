/-
  spec.SameValue: whether all fields are equal.
-/
import Derived.Test.YtoaocpfehdcfgaaSameMath
import Derived.Laws.StructEq
import Derived.BigQuiet
namespace Go.Proofs.Ytoaocpfehdcfgaa.SpecSame
open Go.RowKit
open Strs Core Sto
set_option linter.unusedVariables false
set_option linter.unusedSimpArgs false

theorem beq_no {s t : ByteArray} (h : ¬ s = t) : (s.toList == t.toList) = false := by
  refine Bool.eq_false_iff.2 fun e => h ?_
  have e1 := eq_of_beq e
  rw [ByteArray.toList_eq, ByteArray.toList_eq] at e1
  exact ByteArray.ext (Array.ext' e1)

set_option maxHeartbeats 4000000 in
theorem same_any (a b : V) (w : World) :
    Calls Try.prog 9 #[.agg #[.int .i64 a.kind, .int .i64 a.num, .string a.text], .agg #[.int .i64 b.kind, .int .i64 b.num, .string b.text]] w fun e w' => e = .returned (.bool (sameB a b)) ∧ Below w.heap.size w w' := by
  obtain ⟨k, n, t⟩ := a
  obtain ⟨k', n', t'⟩ := b
  have HV : Hid (sameB ⟨k, n, t⟩ ⟨k', n', t'⟩ = (decide (k = k') && (decide (n = n') && decide (t = t')))) := Lib.hid rfl
  generalize sameB ⟨k, n, t⟩ ⟨k', n', t'⟩ = R at *
  simp only []
  by_cases h1 : k = k'
  case neg =>
    have hR : R = false := by rw [HV.out, decide_eq_false h1]; rfl
    have g1 : (k == k') = false := by rw [beq_eq_false_iff_ne]; exact h1
    subst hR
    clear HV h1
    go_enter Try.func9, Try.ntmps9
    go_wp2_with fail
    go_ret
    exact ⟨rfl, ((Below.refl _ _).alloc (Nat.le_refl _) _).alloc (by simp) _⟩
  subst h1
  by_cases h2 : n = n'
  case neg =>
    have hR : R = false := by rw [HV.out, decide_eq_false h2]; simp
    have g1 : (n == n') = false := by rw [beq_eq_false_iff_ne]; exact h2
    subst hR
    clear HV h2
    go_enter Try.func9, Try.ntmps9
    go_wp2_with fail
    go_ret
    exact ⟨rfl, ((Below.refl _ _).alloc (Nat.le_refl _) _).alloc (by simp) _⟩
  subst h2
  by_cases h3 : t = t'
  case neg =>
    have hR : R = false := by rw [HV.out, decide_eq_false h3]; simp
    have g1 := beq_no h3
    subst hR
    clear HV h3
    go_enter Try.func9, Try.ntmps9
    go_wp2_with fail
    go_ret
    exact ⟨rfl, ((Below.refl _ _).alloc (Nat.le_refl _) _).alloc (by simp) _⟩
  subst h3
  have hR : R = true := by rw [HV.out]; simp
  subst hR
  clear HV
  go_enter Try.func9, Try.ntmps9
  go_wp2_with fail
  go_ret
  exact ⟨rfl, ((Below.refl _ _).alloc (Nat.le_refl _) _).alloc (by simp) _⟩
end Go.Proofs.Ytoaocpfehdcfgaa.SpecSame
