/-
  slices.Equal over texts, and isLike: whether two nodes are equal but for what is in their kids.
-/
import Derived.Test.YtfceglooifbljaaSoft
import Derived.Test.YtfceglooifbljaaPairs
import Derived.Test.YtfceglooifbljaaSpecEqual
import Derived.Deep.QuietTactic
import Derived.BigQuiet
namespace Go.Proofs.Ytfceglooifbljaa.ImplLike
open Go.RowKit
open Strs Tree Soft Pairs

/-- The world has been drawn from, and nothing else. -/
def Drawn (w w' : World) : Prop := ∃ m, w' = w.drewN m
theorem Drawn.more {w w' : World} (h : Drawn w w') (k : Nat) : Drawn w (w'.drewN k) := by
  obtain ⟨m, rfl⟩ := h
  exact ⟨m + k, by rw [World.drewN_drewN]⟩
theorem Drawn.below {w w' : World} (h : Drawn w w') : Below w.heap.size w w' := by
  obtain ⟨m, rfl⟩ := h
  exact ⟨rfl, rfl, rfl, Nat.le_refl _, fun _ _ => rfl⟩



/-- Whether two nodes are alike. -/
noncomputable def likeB (e f : E) : Bool := @decide (Like e f) (Classical.propDecidable _)
theorem likeB_yes {e f : E} (h : Like e f) : likeB e f = true := @decide_eq_true _ (Classical.propDecidable _) h
theorem likeB_no {e f : E} (h : ¬ Like e f) : likeB e f = false := @decide_eq_false _ (Classical.propDecidable _) h

theorem below_texts {w w' : World} {xs : List ByteArray} {v : Value} (h : Texts 0 w xs v) (hb : Below w.heap.size w w') : Texts 0 w' xs v := h.below hb

end Go.Proofs.Ytfceglooifbljaa.ImplLike
