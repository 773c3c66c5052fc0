/-
  laws.szStringS, toStringS and eqStringS over slices of texts: what they answer, and that they write nothing that was there.
-/
import Derived.Test.YtoaocpfehdcfgaaTree
import Derived.Outline
import Derived.Deep.QuietTactic
import Derived.BigQuiet
import Derived.Deep.RegionWith
import Derived.Deep.RegionHeld3
namespace Go.Proofs.Ytoaocpfehdcfgaa.Texts
open Go.RowKit
open Strs Tree
theorem info9 : (Try.prog.info? 9).map (fun i => (i.zero, i.size, i.bytes)) = some (some (.string ByteArray.empty), 1, 16) := by kernel_rfl

/-- What is left of 'left' when n is taken; -1 where it is less. -/
def after (left n : Nat) : Int := if n ≤ left then ((left - n : Nat) : Int) else -1
theorem after_yes {left n : Nat} (h : n ≤ left) : after left n = ((left - n : Nat) : Int) := if_pos h
theorem after_no {left n : Nat} (h : left < n) : after left n = -1 := if_neg (Nat.not_le.2 h)






theorem made_str (n : Nat) : (madeCells #[Value.string ByteArray.empty] n).toList = (List.replicate n ByteArray.empty).map Value.string := by
  apply List.ext_getElem <;> simp [madeCells, Nat.mod_one]
theorem copy_set (xs : List ByteArray) (i n : Nat) (hn : xs.length = n) (hi : i < xs.length) : (xs.take i ++ List.replicate (n - i) ByteArray.empty).set i xs[i] = xs.take (i + 1) ++ List.replicate (n - (i + 1)) ByteArray.empty := by
  have hl : (xs.take i).length = i := by rw [List.length_take]; omega
  rw [List.set_append_right _ _ (by omega), hl, Nat.sub_self, show n - i = (n - (i + 1)) + 1 by omega, List.replicate_succ, List.set_cons_zero, List.take_succ_eq_append_getElem (by omega), List.append_assoc]
  rfl


theorem texts_own {w : World} {base : Nat} {v : Value} {xs : List ByteArray} (h : w.ownsRow base 9 1 v xs.length (xs.map Value.string)) (hs : ∀ x, x ∈ xs → x.size ≤ maxLen) : Texts base w xs v := by
  have h' := h
  obtain ⟨_, ⟨rfl, hn⟩ | ⟨g, cap, cur, rfl, hg, _, hnc, hcm, _, _⟩⟩ := h
  · exact ⟨none, 0, by rw [hn], by unfold maxLen; omega, hs, fun hp => by omega⟩
  · refine ⟨_, cap, rfl, ⟨by omega, by omega⟩, hs, fun hp => ⟨g, 0, rfl, hg, fun j hj => ?_⟩⟩
    rw [Nat.zero_add, h'.cellAt j (by omega)]
    simp [hj]



end Go.Proofs.Ytoaocpfehdcfgaa.Texts
