/-
  laws.szStringS, toStringS and eqStringS over slices of texts: what they answer, and that they write nothing that was there.
  spec.l3Size, l3Depth, SizeOfExpr and DepthOfExpr: what they answer of every tree.
  spec.l3IsText, l1In, l3Left: what they answer.
-/
import Derived.Test.YtkmclgofghaeoaaGreatBTreeOk
import Derived.Outline
import Derived.Deep.QuietTactic
import Derived.BigQuiet
import Derived.Deep.RegionWith
import Derived.Deep.RegionHeld3
namespace Go.Proofs.YtkmclgofghaeoaaGreat.Texts
open Go.RowKit
open Strs Tree
theorem info9 : (Tryz.prog.info? 9).map (fun i => (i.zero, i.size, i.bytes)) = some (some (.string ByteArray.empty), 1, 16) := by kernel_rfl
def after (left n : Nat) : Int := if n ≤ left then ((left - n : Nat) : Int) else -1
theorem after_yes {left n : Nat} (h : n ≤ left) : after left n = ((left - n : Nat) : Int) := if_pos h
theorem after_no {left n : Nat} (h : left < n) : after left n = -1 := if_neg (Nat.not_le.2 h)
theorem made_str (n : Nat) : (madeCells #[Value.string ByteArray.empty] n).toList = (List.replicate n ByteArray.empty).map Value.string := by
  apply List.ext_getElem <;> simp [madeCells, Nat.mod_one]
theorem copy_set (xs : List ByteArray) (i n : Nat) (hn : xs.length = n) (hi : i < xs.length) : (xs.take i ++ List.replicate (n - i) ByteArray.empty).set i xs[i] = xs.take (i + 1) ++ List.replicate (n - (i + 1)) ByteArray.empty := by
  have hl : (xs.take i).length = i := by rw [List.length_take]; omega
  rw [List.set_append_right _ _ (by omega), hl, Nat.sub_self, show n - i = (n - (i + 1)) + 1 by omega, List.replicate_succ, List.set_cons_zero, List.take_succ_eq_append_getElem (by omega), List.append_assoc]
  rfl
theorem texts_own {w : World} {base : Nat} {v : Value} {xs : List ByteArray} (h : w.ownsRow base 9 1 v xs.length (xs.map Value.string)) (hs : ∀ x, x ∈ xs → x.size ≤ maxLen) : Texts base w xs v := by
  have h' := h
  obtain ⟨_, ⟨rfl, hn⟩ | ⟨g, cap, cur, rfl, hg, _, hnc, hcm, _, _⟩⟩ := h
  · exact ⟨none, 0, by rw [hn], by unfold maxLen; omega, hs, fun hp => by omega⟩
  · refine ⟨_, cap, rfl, ⟨by omega, by omega⟩, hs, fun hp => ⟨g, 0, rfl, hg, fun j hj => ?_⟩⟩
    rw [Nat.zero_add, h'.cellAt j (by omega)]
    simp [hj]
end Go.Proofs.YtkmclgofghaeoaaGreat.Texts

namespace Go.Proofs.YtkmclgofghaeoaaGreat.SpecTree
open Go.RowKit
open Strs Tree Texts
structure Arg (w : World) (vn vk : Value) (wr : World) : Prop where
  below : Below w.heap.size w wr
  size : w.heap.size + 1 ≤ wr.heap.size
  a3 : wr.cell? ⟨w.heap.size, 3, none⟩ = some vn
  a4 : wr.cell? ⟨w.heap.size, 4, none⟩ = some vk
theorem Arg.step {w wr w' : World} {vn vk : Value} (h : Arg w vn vk wr) (hb : Below wr.heap.size wr w') : Arg w vn vk w' :=
  ⟨h.below.trans (hb.mono (by have := h.size; omega)), Nat.le_trans h.size hb.size, cell_keep hb h.a3, cell_keep hb h.a4⟩
theorem arg_new (w : World) (k : Int) (t : ByteArray) (n : Int) (vn vk : Value) (T : TypeId) : Arg w vn vk (w.alloc (Obj.cells #[Value.int IntKind.i64 k, Value.string t, Value.int IntKind.i64 n, vn, vk] T)) := by
  refine ⟨(Below.refl _ _).alloc (Nat.le_refl _) _, by simp, ?_, ?_⟩
  all_goals go_simp
theorem max_any (a b : Nat) (w : World) :
    Calls Tryz.prog 52 #[.int .i64 a, .int .i64 b] w fun r w' => r = .returned (.int .i64 (max a b : Nat)) ∧ w = w' := by
  by_cases h : (b : Int) < (a : Int)
  · rw [show max a b = a by omega]
    go_enter Tryz.func52, Tryz.ntmps52
    go_wp2_with fail
    go_ret
    exact ⟨rfl, rfl⟩
  · rw [show max a b = b by omega]
    go_enter Tryz.func52, Tryz.ntmps52
    go_wp2_with fail
    go_ret
    exact ⟨rfl, rfl⟩
end Go.Proofs.YtkmclgofghaeoaaGreat.SpecTree

namespace Go.Proofs.YtkmclgofghaeoaaGreat.SpecTree
open Go.RowKit
open Strs Tree Texts
theorem in_any (a b c : Int) (w : World) :
    Calls Tryz.prog 23 #[.int .i64 a, .int .i64 b, .int .i64 c] w fun r w' => r = .returned (.bool (decide (b ≤ a ∧ a ≤ c))) ∧ w = w' := by
  generalize hD : decide (b ≤ a ∧ a ≤ c) = D
  have HD := Lib.hid hD; clear hD
  by_cases h1 : b ≤ a
  · by_cases h2 : a ≤ c
    · have hD : D = true := by rw [← HD.out]; exact decide_eq_true ⟨h1, h2⟩
      subst hD
      go_enter Tryz.func23, Tryz.ntmps23
      go_wp2_with fail
      go_ret
      exact ⟨rfl, rfl⟩
    · have hD : D = false := by rw [← HD.out]; exact decide_eq_false (fun h => h2 h.2)
      subst hD
      go_enter Tryz.func23, Tryz.ntmps23
      go_wp2_with fail
      go_ret
      exact ⟨rfl, rfl⟩
  · have hD : D = false := by rw [← HD.out]; exact decide_eq_false (fun h => h1 h.1)
    subst hD
    go_enter Tryz.func23, Tryz.ntmps23
    go_wp2_with fail
    go_ret
    exact ⟨rfl, rfl⟩
end Go.Proofs.YtkmclgofghaeoaaGreat.SpecTree
