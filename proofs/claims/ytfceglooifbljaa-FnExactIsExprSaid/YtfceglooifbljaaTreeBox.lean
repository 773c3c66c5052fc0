/-
  A tree that a function was given lies in a cell of its own: what is known of it while nothing writes there.
-/
import Derived.Test.YtfceglooifbljaaTexts
namespace Go.Proofs.Ytfceglooifbljaa.TreeBox
open Go.RowKit
open Strs Tree

/-- A node's five cells at the head of block B. -/
structure Cells (B : Nat) (k : Int) (t : ByteArray) (n : Int) (vn vk : Value) (wr : World) : Prop where
  size : B < wr.heap.size
  a0 : wr.cell? ⟨B, 0, none⟩ = some (.int .i64 k)
  a1 : wr.cell? ⟨B, 1, none⟩ = some (.string t)
  a2 : wr.cell? ⟨B, 2, none⟩ = some (.int .i64 n)
  a3 : wr.cell? ⟨B, 3, none⟩ = some vn
  a4 : wr.cell? ⟨B, 4, none⟩ = some vk
theorem Cells.step {B : Nat} {k : Int} {t : ByteArray} {n : Int} {vn vk : Value} {wr w' : World} (h : Cells B k t n vn vk wr) (hb : Below wr.heap.size wr w') : Cells B k t n vn vk w' :=
  ⟨Nat.lt_of_lt_of_le h.size hb.size, cell_keep hb h.a0, cell_keep hb h.a1, cell_keep hb h.a2, cell_keep hb h.a3, cell_keep hb h.a4⟩
theorem cells_new (w : World) (k : Int) (t : ByteArray) (n : Int) (vn vk : Value) (T : TypeId) : Cells w.heap.size k t n vn vk (w.alloc (Obj.cells #[Value.int IntKind.i64 k, Value.string t, Value.int IntKind.i64 n, vn, vk] T)) := by
  refine ⟨by simp, ?_, ?_, ?_, ?_, ?_⟩
  all_goals go_simp

end Go.Proofs.Ytfceglooifbljaa.TreeBox
