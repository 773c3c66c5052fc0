/-
  laws.toExpr and toExprS: they copy every tree into memory of their own, no cell of which is frozen.
-/
import Derived.Test.YtbflpocbjdccgaaGreatDoorBTreeBox
import Derived.Test.YtbflpocbjdccgaaGreatDoorBSoft
namespace Go.Proofs.YtbflpocbjdccgaaGreatDoor.TreeTo
open Go.RowKit
open Strs Tree Texts Soft

/-- A node's kids lie in open blocks. -/
def SoftV (lo : Nat) (w : World) (e : E) (v : Value) : Prop := ∃ a b c d vk, v = .agg #[a, b, c, d, vk] ∧ Soft lo w e vk
theorem SoftV.below {lo : Nat} {w w' : World} {e : E} {v : Value} (h : SoftV lo w e v) (hb : Below w.heap.size w w') : SoftV lo w' e v := by
  obtain ⟨a, b, c, d, vk, rfl, h⟩ := h
  exact ⟨a, b, c, d, vk, rfl, Soft.keep (Nat.le_refl _) (keptF_below hb) _ _ h⟩
theorem keptF_refl (lo : Nat) (w : World) : KeptF lo w w := ⟨fun _ _ _ _ h => h, fun _ _ _ _ h => h⟩










end Go.Proofs.YtbflpocbjdccgaaGreatDoor.TreeTo
