/-
  spec.l3Texts and EqualExprs: what they answer of every two lists of texts, of every two trees.
-/
import Derived.Test.YtfceglooifbljaaTreeBox
namespace Go.Proofs.Ytfceglooifbljaa.SpecEqual
open Go.RowKit
open Strs Tree TreeBox

theorem beq_no {s t : ByteArray} (h : ¬ s = t) : (s.toList == t.toList) = false := by
  refine Bool.eq_false_iff.2 fun e => h ?_
  have e1 := eq_of_beq e
  rw [ByteArray.toList_eq, ByteArray.toList_eq] at e1
  exact ByteArray.ext (Array.ext' e1)





end Go.Proofs.Ytfceglooifbljaa.SpecEqual
