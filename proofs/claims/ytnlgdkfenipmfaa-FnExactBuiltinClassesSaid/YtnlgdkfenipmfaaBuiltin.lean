/-
  impl's and spec's BuiltinClasses answer the sixteen names, in a row of their own.
-/
import Derived.Test.YtnlgdkfenipmfaaAt
import Derived.Test.YtnlgdkfenipmfaaKit
import Derived.WalkKit
import Derived.WalkSmall
import Derived.Lib.Hide
namespace Go.Proofs.Ytnlgdkfenipmfaa.Builtin
open Go.RowKit
open Strs

/-- The names of the built-in classes. -/
def names : List ByteArray := [⟨#[79, 98, 106, 101, 99, 116]⟩,
  ⟨#[69, 120, 99, 101, 112, 116, 105, 111, 110]⟩,
  ⟨#[69, 114, 114, 111, 114]⟩,
  ⟨#[77, 101, 115, 115, 97, 103, 101, 78, 111, 116, 85, 110, 100, 101, 114, 115, 116, 111, 111, 100]⟩,
  ⟨#[90, 101, 114, 111, 68, 105, 118, 105, 100, 101]⟩,
  ⟨#[73, 110, 116, 101, 103, 101, 114]⟩,
  ⟨#[66, 111, 111, 108, 101, 97, 110]⟩,
  ⟨#[78, 105, 108]⟩,
  ⟨#[83, 116, 114, 105, 110, 103]⟩,
  ⟨#[83, 121, 109, 98, 111, 108]⟩,
  ⟨#[65, 114, 114, 97, 121]⟩,
  ⟨#[66, 108, 111, 99, 107]⟩,
  ⟨#[83, 101, 109, 97, 112, 104, 111, 114, 101]⟩,
  ⟨#[80, 114, 111, 99, 101, 115, 115]⟩,
  ⟨#[84, 114, 97, 110, 115, 99, 114, 105, 112, 116]⟩,
  ⟨#[67, 108, 97, 115, 115]⟩]

set_option maxHeartbeats 1000000 in
theorem spec_any (w : World) : Calls Try.prog 4 #[] w fun e w' =>
    ∃ v, e = .returned v ∧ w'.ownsRow w.heap.size 9 1 v names.length (names.map Value.string) ∧ Below w.heap.size w w' := by
  go_enter Try.func4, Try.ntmps4
  go_wp2_with fail
  go_ret
  exact ⟨_, rfl, World.ownsRow_lit w _ 16 (Nat.le_refl _) (by unfold maxLen; omega) rfl, (Below.refl _ _).alloc (Nat.le_refl _) _⟩
set_option maxHeartbeats 1000000 in
theorem impl_any (w : World) : Calls Try.prog 5 #[] w fun e w' =>
    ∃ v, e = .returned v ∧ w'.ownsRow w.heap.size 9 1 v names.length (names.map Value.string) ∧ Below w.heap.size w w' := by
  go_enter Try.func5, Try.ntmps5
  go_wp2_with fail
  go_ret
  exact ⟨_, rfl, World.ownsRow_lit w _ 16 (Nat.le_refl _) (by unfold maxLen; omega) rfl, (Below.refl _ _).alloc (Nat.le_refl _) _⟩
end Go.Proofs.Ytnlgdkfenipmfaa.Builtin
