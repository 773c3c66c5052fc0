/-
  What a law over a tree does with it: the tree's own copy in a cell, weighed, copied and compared.
-/
import Derived.Test.YtfceglooifbljaaTreeSz
import Derived.Test.YtfceglooifbljaaTreeTo
import Derived.Test.YtfceglooifbljaaTreeEq
import Derived.Test.YtfceglooifbljaaTreeBox
namespace Go.Proofs.Ytfceglooifbljaa.TreeLaw
open Go.RowKit
open Strs Tree Texts

/-- A tree that is too heavy: szExpr says -1. -/
theorem sz_no {lo left : Nat} {t : E} {w : World} {vn vk : Value} (h : NodeAt lo w t vn vk) (hl : left ≤ 1048576) (hw : left < weight t) :
    Calls Try.prog 4 #[.agg #[.int .i64 t.kind, .string t.text, .int .i64 t.num, vn, vk], .int .i64 left] w fun r w' => r = .returned (.int .i64 (-1)) ∧ Below w.heap.size w w' := by
  have := TreeSz.any t lo left w vn vk hl h
  rwa [after_no hw] at this
theorem sz_yes {lo left : Nat} {t : E} {w : World} {vn vk : Value} (h : NodeAt lo w t vn vk) (hl : left ≤ 1048576) (hw : weight t ≤ left) :
    Calls Try.prog 4 #[.agg #[.int .i64 t.kind, .string t.text, .int .i64 t.num, vn, vk], .int .i64 left] w fun r w' => r = .returned (.int .i64 ((left - weight t : Nat) : Int)) ∧ Below w.heap.size w w' := by
  have := TreeSz.any t lo left w vn vk hl h
  rwa [after_yes hw] at this
theorem sz_no0 {lo : Nat} {t : E} {w : World} {vn vk : Value} (h : NodeAt lo w t vn vk) (hw : 1048576 < weight t) :
    Calls Try.prog 4 #[.agg #[.int .i64 t.kind, .string t.text, .int .i64 t.num, vn, vk], .int .i64 1048576] w fun r w' => r = .returned (.int .i64 (-1)) ∧ Below w.heap.size w w' :=
  sz_no (left := 1048576) h (Nat.le_refl _) hw
theorem sz_yes0 {lo : Nat} {t : E} {w : World} {vn vk : Value} (h : NodeAt lo w t vn vk) (hw : weight t ≤ 1048576) :
    Calls Try.prog 4 #[.agg #[.int .i64 t.kind, .string t.text, .int .i64 t.num, vn, vk], .int .i64 1048576] w fun r w' => r = .returned (.int .i64 ((1048576 - weight t : Nat) : Int)) ∧ Below w.heap.size w w' :=
  sz_yes (left := 1048576) h (Nat.le_refl _) hw
end Go.Proofs.Ytfceglooifbljaa.TreeLaw
