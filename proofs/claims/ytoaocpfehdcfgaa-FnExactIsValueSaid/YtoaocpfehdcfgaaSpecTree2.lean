/-
  spec.l3IsText, l1In, l3Left: what they answer.
-/
import Derived.Test.YtoaocpfehdcfgaaTreeOk
import Derived.Test.YtoaocpfehdcfgaaSpecTree
namespace Go.Proofs.Ytoaocpfehdcfgaa.SpecTree
open Go.RowKit
open Strs Tree Texts

theorem in_any (a b c : Int) (w : World) :
    Calls Try.prog 11 #[.int .i64 a, .int .i64 b, .int .i64 c] w fun r w' => r = .returned (.bool (decide (b ≤ a ∧ a ≤ c))) ∧ w = w' := by
  generalize hD : decide (b ≤ a ∧ a ≤ c) = D
  have HD := Lib.hid hD; clear hD
  by_cases h1 : b ≤ a
  · by_cases h2 : a ≤ c
    · have hD : D = true := by rw [← HD.out]; exact decide_eq_true ⟨h1, h2⟩
      subst hD
      go_enter Try.func11, Try.ntmps11
      go_wp2_with fail
      go_ret
      exact ⟨rfl, rfl⟩
    · have hD : D = false := by rw [← HD.out]; exact decide_eq_false (fun h => h2 h.2)
      subst hD
      go_enter Try.func11, Try.ntmps11
      go_wp2_with fail
      go_ret
      exact ⟨rfl, rfl⟩
  · have hD : D = false := by rw [← HD.out]; exact decide_eq_false (fun h => h1 h.1)
    subst hD
    go_enter Try.func11, Try.ntmps11
    go_wp2_with fail
    go_ret
    exact ⟨rfl, rfl⟩


end Go.Proofs.Ytoaocpfehdcfgaa.SpecTree
