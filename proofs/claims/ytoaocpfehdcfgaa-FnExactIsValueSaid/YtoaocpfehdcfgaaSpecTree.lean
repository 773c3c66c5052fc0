/-
  spec.l3Size, l3Depth, SizeOfExpr and DepthOfExpr: what they answer of every tree.
-/
import Derived.Test.YtoaocpfehdcfgaaTexts
namespace Go.Proofs.Ytoaocpfehdcfgaa.SpecTree
open Go.RowKit
open Strs Tree Texts

/-- The argument's own copy lies at the first new block, and nothing that was there has turned. -/
structure Arg (w : World) (vn vk : Value) (wr : World) : Prop where
  below : Below w.heap.size w wr
  size : w.heap.size + 1 ≤ wr.heap.size
  a3 : wr.cell? ⟨w.heap.size, 3, none⟩ = some vn
  a4 : wr.cell? ⟨w.heap.size, 4, none⟩ = some vk
theorem Arg.step {w wr w' : World} {vn vk : Value} (h : Arg w vn vk wr) (hb : Below wr.heap.size wr w') : Arg w vn vk w' :=
  ⟨h.below.trans (hb.mono (by have := h.size; omega)), Nat.le_trans h.size hb.size, cell_keep hb h.a3, cell_keep hb h.a4⟩
theorem arg_new (w : World) (k : Int) (t : ByteArray) (n : Int) (vn vk : Value) (T : TypeId) : Arg w vn vk (w.alloc (Obj.cells #[Value.int IntKind.i64 k, Value.string t, Value.int IntKind.i64 n, vn, vk] T)) := by
  refine ⟨(Below.refl _ _).alloc (Nat.le_refl _) _, by simp, ?_, ?_⟩
  all_goals go_simp




end Go.Proofs.Ytoaocpfehdcfgaa.SpecTree
