/-
  laws.szStringS, toStringS and eqStringS over slices of texts: what they answer, and that they write nothing that was there.
  A tree that a function was given lies in a cell of its own: what is known of it while nothing writes there.
-/
import Derived.Test.YtbflpocbjdccgaaGreatDoorBTreeOk
import Derived.Outline
import Derived.Deep.QuietTactic
import Derived.BigQuiet
import Derived.Deep.RegionWith
import Derived.Deep.RegionHeld3
namespace Go.Proofs.YtbflpocbjdccgaaGreatDoor.Texts
open Go.RowKit
open Strs Tree
theorem info9 : (Tryz.prog.info? 9).map (fun i => (i.zero, i.size, i.bytes)) = some (some (.string ByteArray.empty), 1, 16) := by kernel_rfl

/-- What is left of 'left' when n is taken; -1 where it is less. -/
def after (left n : Nat) : Int := if n ≤ left then ((left - n : Nat) : Int) else -1
theorem after_yes {left n : Nat} (h : n ≤ left) : after left n = ((left - n : Nat) : Int) := if_pos h
theorem after_no {left n : Nat} (h : left < n) : after left n = -1 := if_neg (Nat.not_le.2 h)






theorem made_str (n : Nat) : (madeCells #[Value.string ByteArray.empty] n).toList = (List.replicate n ByteArray.empty).map Value.string := by
  apply List.ext_getElem <;> simp [madeCells, Nat.mod_one]
theorem copy_set (xs : List ByteArray) (i n : Nat) (hn : xs.length = n) (hi : i < xs.length) : (xs.take i ++ List.replicate (n - i) ByteArray.empty).set i xs[i] = xs.take (i + 1) ++ List.replicate (n - (i + 1)) ByteArray.empty := by
  have hl : (xs.take i).length = i := by rw [List.length_take]; omega
  rw [List.set_append_right _ _ (by omega), hl, Nat.sub_self, show n - i = (n - (i + 1)) + 1 by omega, List.replicate_succ, List.set_cons_zero, List.take_succ_eq_append_getElem (by omega), List.append_assoc]
  rfl


theorem texts_own {w : World} {base : Nat} {v : Value} {xs : List ByteArray} (h : w.ownsRow base 9 1 v xs.length (xs.map Value.string)) (hs : ∀ x, x ∈ xs → x.size ≤ maxLen) : Texts base w xs v := by
  have h' := h
  obtain ⟨_, ⟨rfl, hn⟩ | ⟨g, cap, cur, rfl, hg, _, hnc, hcm, _, _⟩⟩ := h
  · exact ⟨none, 0, by rw [hn], by unfold maxLen; omega, hs, fun hp => by omega⟩
  · refine ⟨_, cap, rfl, ⟨by omega, by omega⟩, hs, fun hp => ⟨g, 0, rfl, hg, fun j hj => ?_⟩⟩
    rw [Nat.zero_add, h'.cellAt j (by omega)]
    simp [hj]

set_option maxHeartbeats 400000 in
theorem eq_nil (a1 a2 : Option Addr) (c1 c2 : Nat) (w : World) :
    Calls Tryz.prog 16 #[.slice a1 0 c1, .slice a2 0 c2] w fun e w' => e = .returned (.bool true) ∧ Below w.heap.size w w' := by
  go_enter Tryz.func16, Tryz.ntmps16
  go_wp2_with fail
  refine wp_loop_rounds 1 ?_
  rw [rounds_succ]
  go_wp2_with fail
  go_ret
  exact ⟨rfl, Below.refl _ _⟩

set_option maxHeartbeats 400000 in
theorem eq_cons (b1 o1 c1 b2 o2 c2 n : Nat) (xs : List ByteArray) (w : World) (hn : xs.length = n) (hm : n ≤ maxLen)
    (h1 : ∀ j (h : j < xs.length), w.cell? ⟨b1, o1 + j, none⟩ = some (.string xs[j])) (h2 : ∀ j (h : j < xs.length), w.cell? ⟨b2, o2 + j, none⟩ = some (.string xs[j])) :
    Calls Tryz.prog 16 #[.slice (some ⟨b1, o1, none⟩) n c1, .slice (some ⟨b2, o2, none⟩) n c2] w fun e w' => e = .returned (.bool true) ∧ Below w.heap.size w w' := by
  unfold maxLen at hm
  have H1 := Lib.hid h1; clear h1
  have H2 := Lib.hid h2; clear h2
  have HN := Lib.hid hn; clear hn
  go_enter Tryz.func16, Tryz.ntmps16
  go_wp2_with fail
  go_loopw [5] (fun j wr => ∃ i : Nat, i ≤ n ∧ j = .int .i64 i ∧ Below w.heap.size w wr) (fun j _ => n - (intOf j).toNat)
  case atStart => exact ⟨0, by omega, rfl, Below.refl _ _⟩
  case round =>
    obtain ⟨i, hi, rfl, hbw⟩ := hrel
    by_cases hlt : i < n
    · have hil : i < xs.length := by rw [HN.out]; exact hlt
      have hA := H1.out i hil
      have hB := H2.out i hil
      have hc1 : wr.cell? ⟨b1, o1 + i, none⟩ = some (.string xs[i]) := cell_keep hbw hA
      have hc2 : wr.cell? ⟨b2, o2 + i, none⟩ = some (.string xs[i]) := cell_keep hbw hB
      clear hA hB
      generalize xs[i] = s at *
      go_wp2_with fail
      go_quiet (fail)
      go_wp2_with fail
      go_roundw
      case rel => exact ⟨i + 1, by omega, by go_num, below_drewN hbw _⟩
      case measure => simp [intOf]; omega
    · go_wp2_with fail
      go_ret
      exact ⟨rfl, hbw⟩

/-- Both slices read as the same texts: eqStringS says so. -/
theorem eq_same {lo1 lo2 : Nat} {w : World} {v1 v2 : Value} {xs : List ByteArray} (h1 : Texts lo1 w xs v1) (h2 : Texts lo2 w xs v2) :
    Calls Tryz.prog 16 #[v1, v2] w fun e w' => e = .returned (.bool true) ∧ Below w.heap.size w w' := by
  obtain ⟨a1, c1, rfl, hm, _, hc1⟩ := h1
  obtain ⟨a2, c2, rfl, _, _, hc2⟩ := h2
  by_cases hp : 0 < xs.length
  · obtain ⟨b1, o1, rfl, _, hd1⟩ := hc1 hp
    obtain ⟨b2, o2, rfl, _, hd2⟩ := hc2 hp
    exact eq_cons b1 o1 c1 b2 o2 c2 xs.length xs w rfl (Nat.le_trans hm.1 hm.2) hd1 hd2
  · rw [show xs.length = 0 by omega]
    exact eq_nil a1 a2 c1 c2 w
end Go.Proofs.YtbflpocbjdccgaaGreatDoor.Texts

namespace Go.Proofs.YtbflpocbjdccgaaGreatDoor.TreeBox
open Go.RowKit
open Strs Tree

/-- A node's five cells at the head of block B. -/
structure Cells (B : Nat) (k : Int) (t : ByteArray) (n : Int) (vn vk : Value) (wr : World) : Prop where
  size : B < wr.heap.size
  a0 : wr.cell? ⟨B, 0, none⟩ = some (.int .i64 k)
  a1 : wr.cell? ⟨B, 1, none⟩ = some (.string t)
  a2 : wr.cell? ⟨B, 2, none⟩ = some (.int .i64 n)
  a3 : wr.cell? ⟨B, 3, none⟩ = some vn
  a4 : wr.cell? ⟨B, 4, none⟩ = some vk
theorem Cells.step {B : Nat} {k : Int} {t : ByteArray} {n : Int} {vn vk : Value} {wr w' : World} (h : Cells B k t n vn vk wr) (hb : Below wr.heap.size wr w') : Cells B k t n vn vk w' :=
  ⟨Nat.lt_of_lt_of_le h.size hb.size, cell_keep hb h.a0, cell_keep hb h.a1, cell_keep hb h.a2, cell_keep hb h.a3, cell_keep hb h.a4⟩
theorem cells_new (w : World) (k : Int) (t : ByteArray) (n : Int) (vn vk : Value) (T : TypeId) : Cells w.heap.size k t n vn vk (w.alloc (Obj.cells #[Value.int IntKind.i64 k, Value.string t, Value.int IntKind.i64 n, vn, vk] T)) := by
  refine ⟨by simp, ?_, ?_, ?_, ?_, ?_⟩
  all_goals go_simp

end Go.Proofs.YtbflpocbjdccgaaGreatDoor.TreeBox
