/-
  The nodes of a world, as a graph.
-/
import Derived.Test.YtfceglooifbljaaSoft
import Derived.Test.YtfceglooifbljaaDfs
import Derived.Test.YtfceglooifbljaaTexts
namespace Go.Proofs.Ytfceglooifbljaa.ImplMeas
open Go.RowKit
open Strs Tree PMap Soft Dfs

/-- The nodes of the first world. -/
def N0 (w : World) (x : Addr) : Prop := ∃ e, Nd w x e
theorem nd_tree {w : World} {x : Addr} (h : N0 w x) : Nd w x (treeAt w x) := by
  obtain ⟨e, he⟩ := h
  rw [he.tree]; exact he
theorem kids0 (w : World) : Dfs.Kids (N0 w) (treeAt w) (kid w) := by
  intro a i ha hi
  have h := (nd_tree ha).kid_is hi
  exact ⟨⟨_, h⟩, by rw [h.tree, getElem!_pos _ i hi]⟩
theorem two_cells (w : World) (u v : Value) (t : TypeId) : ∀ (j : Nat) (x : Value), [u, v][j]? = some x → (w.alloc (.cells #[u, v] t)).cell? ((⟨w.heap.size, 0, none⟩ : Addr).add j) = some x := by
  intro j x hj
  match j, hj with
  | 0, hj => simp at hj; subst hj; simp [Addr.add]
  | 1, hj => simp at hj; subst hj; simp [Addr.add]
end Go.Proofs.Ytfceglooifbljaa.ImplMeas
