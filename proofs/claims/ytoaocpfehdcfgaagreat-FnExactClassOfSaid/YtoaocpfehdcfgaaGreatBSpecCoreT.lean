/-
  spec.l1Max over numbers from 0 on.
  spec.l8Left, l8Deep: what they answer of every node.
-/
import Derived.Test.YtoaocpfehdcfgaaGreatBBuiltin
import Derived.Test.YtoaocpfehdcfgaaGreatBCoreMath
import Derived.WalkKit
import Derived.WalkSmall
import Derived.Lib.Hide
namespace Go.Proofs.YtoaocpfehdcfgaaGreat.SpecMax
open Go.RowKit
end Go.Proofs.YtoaocpfehdcfgaaGreat.SpecMax

namespace Go.Proofs.YtoaocpfehdcfgaaGreat.SpecCore
open Go.RowKit
open Strs Tree Core
structure Arg4 (w : World) (vk : Value) (wr : World) : Prop where
  below : Below w.heap.size w wr
  size : w.heap.size + 1 ≤ wr.heap.size
  a4 : wr.cell? ⟨w.heap.size, 4, none⟩ = some vk
theorem Arg4.step {w wr w' : World} {vk : Value} (h : Arg4 w vk wr) (hb : Below wr.heap.size wr w') : Arg4 w vk w' :=
  ⟨h.below.trans (hb.mono (by have := h.size; omega)), Nat.le_trans h.size hb.size, cell_keep hb h.a4⟩
theorem arg4_new (w : World) (k : Int) (t : ByteArray) (n d : Int) (vk : Value) (T : TypeId) : Arg4 w vk (w.alloc (Obj.cells #[Value.int IntKind.i64 k, Value.string t, Value.int IntKind.i64 n, Value.int IntKind.i64 d, vk] T)) := by
  refine ⟨(Below.refl _ _).alloc (Nat.le_refl _) _, by simp, ?_⟩
  go_simp
end Go.Proofs.YtoaocpfehdcfgaaGreat.SpecCore
