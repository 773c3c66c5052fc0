/-
  That the library's variable internal/bytealg.MaxLen holds some integer: of the first world by its shape, and of every world behind it in which nothing that was there is written. strings.ReplaceAll under it.
-/
import Derived.Test.YtfhjkicfnehjiaaDoorAt
import Derived.Test.YtfhjkicfnehjiaaDoorReplacing
import Derived.Test.YtfhjkicfnehjiaaDoorShape
import Derived.Lib.SplitLaws
namespace Go.Proofs.YtfhjkicfnehjiaaDoor.Strs
open Go.RowKit

def Max (w : World) : Prop := ∃ m, w.cell? ⟨0, 0, none⟩ = some (.int .i64 m)
theorem max_of {w : World} (h : w.ShapedOpen Tryd.prog) : Max w := Shelf.laysM143.s1_3 w h
theorem Max.keep {w w' : World} (h : Max w) (hb : Below w.heap.size w w') : Max w' := by
  obtain ⟨m, h⟩ := h
  exact ⟨m, cell_keep hb h⟩
theorem rep_any (s old new : ByteArray) (w : World) (h : Max w) (hs : s.size ≤ 1048576) (h1 : 1 ≤ old.size) (hn : new.size ≤ 2) :
    Calls Tryd.prog 21 #[.string s, .string old, .string new] w fun e w' =>
      e = .returned (.string ⟨(Lib.replaceAll s.data.toList old.data.toList new.data.toList).toArray⟩) ∧ Below w.heap.size w w' := by
  obtain ⟨m, h⟩ := h
  have hc := Lib.countB_le old h1 s.size s (Nat.le_refl _)
  have hm : Lib.countB s old * new.size ≤ s.size * 2 := Nat.mul_le_mul hc hn
  exact Shelf.strings_ReplaceAll s old new m w (by omega) h h1 (by omega)
end Go.Proofs.YtfhjkicfnehjiaaDoor.Strs
