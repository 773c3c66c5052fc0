/-
  laws.eqStringS, markStringS and heldStringS over slices of texts: what they answer, and that they write nothing that was there but the marked row.
-/
import Derived.Test.YtnlgdkfenipmfaaRows
import Derived.Test.YtnlgdkfenipmfaaKit
import Derived.Test.YtnlgdkfenipmfaaMark
import Derived.Test.YtnlgdkfenipmfaaAt
import Derived.WalkKit
import Derived.WalkSpells
import Derived.Outline
import Derived.Lib.Hide
import Derived.Deep.QuietTactic
import Derived.BigQuiet
import Derived.WalkSmall
import Derived.Deep.RegionWith
import Derived.Deep.RegionHeld3
namespace Go.Proofs.Ytnlgdkfenipmfaa.Strs
open Go.RowKit

set_option maxHeartbeats 400000 in
theorem eq_nil (a1 a2 : Option Addr) (c1 c2 : Nat) (w : World) :
    Calls Try.prog 6 #[.slice a1 0 c1, .slice a2 0 c2] w fun e w' => e = .returned (.bool true) ∧ Below w.heap.size w w' := by
  go_enter Try.func6, Try.ntmps6
  go_wp2_with fail
  refine wp_loop_rounds 1 ?_
  rw [rounds_succ]
  go_wp2_with fail
  go_ret
  exact ⟨rfl, Below.refl _ _⟩

set_option maxHeartbeats 400000 in
theorem eq_cons (b1 o1 c1 b2 o2 c2 n : Nat) (xs : List ByteArray) (w : World) (hn : xs.length = n) (hm : n ≤ maxLen)
    (h1 : ∀ j, j < n → w.cell? ⟨b1, o1 + j, none⟩ = some (.string (xs.getD j ByteArray.empty))) (h2 : ∀ j, j < n → w.cell? ⟨b2, o2 + j, none⟩ = some (.string (xs.getD j ByteArray.empty))) :
    Calls Try.prog 6 #[.slice (some ⟨b1, o1, none⟩) n c1, .slice (some ⟨b2, o2, none⟩) n c2] w fun e w' => e = .returned (.bool true) ∧ Below w.heap.size w w' := by
  unfold maxLen at hm
  have H1 := Lib.hid h1; clear h1
  have H2 := Lib.hid h2; clear h2
  have HN := Lib.hid hn; clear hn
  go_enter Try.func6, Try.ntmps6
  go_wp2_with fail
  go_loopw [5] (fun j wr => ∃ i : Nat, i ≤ n ∧ j = .int .i64 i ∧ Below w.heap.size w wr) (fun j _ => n - (intOf j).toNat)
  case atStart => exact ⟨0, by omega, rfl, Below.refl _ _⟩
  case round =>
    obtain ⟨i, hi, rfl, hbw⟩ := hrel
    by_cases hlt : i < n
    · have hA := H1.out i hlt
      have hB := H2.out i hlt
      have hc1 : wr.cell? ⟨b1, o1 + i, none⟩ = some (.string (xs.getD i ByteArray.empty)) := cell_keep hbw hA
      have hc2 : wr.cell? ⟨b2, o2 + i, none⟩ = some (.string (xs.getD i ByteArray.empty)) := cell_keep hbw hB
      clear hA hB
      generalize xs.getD i ByteArray.empty = s at *
      go_wp2_with fail
      go_quiet (fail)
      go_wp2_with fail
      go_roundw
      case rel => exact ⟨i + 1, by omega, by go_num, below_drewN hbw _⟩
      case measure => simp [intOf]; omega
    · go_wp2_with fail
      go_ret
      exact ⟨rfl, hbw⟩

/-- Both slices read as the same texts: eqStringS says so. -/
theorem eq_same {w : World} {v1 v2 : Value} {xs : List ByteArray} (h1 : At w v1 xs) (h2 : At w v2 xs) :
    Calls Try.prog 6 #[v1, v2] w fun e w' => e = .returned (.bool true) ∧ Below w.heap.size w w' := by
  obtain ⟨a1, c1, rfl, hm, hc1⟩ := h1
  obtain ⟨a2, c2, rfl, _, hc2⟩ := h2
  by_cases hp : 0 < xs.length
  · obtain ⟨b1, o1, rfl, hd1⟩ := hc1 hp
    obtain ⟨b2, o2, rfl, hd2⟩ := hc2 hp
    exact eq_cons b1 o1 c1 b2 o2 c2 xs.length xs w rfl hm hd1 hd2
  · rw [show xs.length = 0 by omega]
    exact eq_nil a1 a2 c1 c2 w

/-- The marks from k on. -/
def marks (k : Nat) : Nat → List ByteArray
  | 0 => []
  | n + 1 => marks k n ++ [Mark.mark ((k + n : Nat) : Int)]
theorem marks_len (k n : Nat) : (marks k n).length = n := by
  induction n with
  | zero => rfl
  | succ n ih => simp [marks, ih]
theorem marks_at (k n : Nat) : ∀ j, j < n → (marks k n).getD j ByteArray.empty = Mark.mark ((k + j : Nat) : Int) := by
  induction n with
  | zero => intro j h; omega
  | succ n ih =>
    intro j h
    have hl := marks_len k n
    by_cases hj : j < n
    · rw [← ih j hj, marks, List.getD, List.getD, List.getElem?_append_left (by omega)]
    · have : j = n := by omega
      subst this
      rw [marks, List.getD, List.getElem?_append_right (by omega), hl]
      simp
theorem marks_set (k i : Nat) (xs : List ByteArray) (h : i < xs.length) : (marks k i ++ xs.drop i).set i (Mark.mark ((k + i : Nat) : Int)) = marks k (i + 1) ++ xs.drop (i + 1) := by
  have hl := marks_len k i
  rw [List.set_append_right _ _ (by omega), hl, Nat.sub_self, List.drop_eq_getElem_cons h, List.set_cons_zero, marks, List.append_assoc]
  rfl

set_option maxHeartbeats 1000000 in
theorem mark_row (g cap n base k : Nat) (K : Int) (xs : List ByteArray) (w : World) (hn : xs.length = n) (hK : K = k) (hk : 0 < k) (hkn : k + n ≤ 4611686018427387904)
    (hown : w.ownsRow base 9 1 (.slice (some ⟨g, 0, none⟩) n cap) n (xs.map Value.string)) :
    Calls Try.prog 7 #[.slice (some ⟨g, 0, none⟩) n cap, .int .i64 K] w fun e w' =>
      e = .returned (.int .i64 ((k + n : Nat) : Int)) ∧ w'.ownsRow base 9 1 (.slice (some ⟨g, 0, none⟩) n cap) n ((marks k n).map Value.string) ∧ Below base w w' := by
  obtain ⟨hbg, hgl⟩ := hown.lt g rfl
  subst hK
  have HN := Lib.hid hn; clear hn
  go_enter Try.func7, Try.ntmps7
  go_wp2_with fail
  go_loopw [1, 5] (fun q j wr => ∃ i : Nat, i ≤ n ∧ j = .int .i64 i ∧ q = .int .i64 ((k + i : Nat) : Int) ∧ wr.ownsRow base 9 1 (.slice (some ⟨g, 0, none⟩) n cap) n ((marks k i ++ xs.drop i).map Value.string) ∧ Below base w wr) (fun _ j _ => n - (intOf j).toNat)
  case atStart => exact ⟨0, by omega, rfl, rfl, by simpa [marks] using hown, Below.refl _ _⟩
  case round =>
    obtain ⟨i, hi, rfl, rfl, ho, hbw⟩ := hrel
    by_cases hlt : i < n
    · have HO := Lib.hid ho; clear ho
      have hpos : (0 : Int) < ((k + i : Nat) : Int) := by omega
      have hsm : ((k + i : Nat) : Int) ≤ 4611686018427387904 := by omega
      generalize hq : k + i = q at *
      have HQ := Lib.hid hq; clear hq
      go_wp2_with fail
      refine (Mark.mark_any (q : Int) wr hpos (by omega)).mono ?_
      rintro e w1 ⟨rfl, hb1⟩
      have HO1 := Lib.hid (own_keep HO.out hb1)
      have hlen : (marks k i ++ xs.drop i).length = n := by have := HN.out; have := marks_len k i; simp; omega
      have hcell : ∃ v, w1.cell? ⟨g, i, none⟩ = some v := by
        rw [HO1.out.cellAt _ (by omega)]
        exact ⟨_, List.getElem?_eq_getElem (by rw [List.length_map, hlen]; exact hlt)⟩
      obtain ⟨v, hcell⟩ := hcell
      have hfr : w1.frozen? ⟨g, i, none⟩ = false := HO1.out.frozenAt _
      have HB : Hid (Below base w w1) := hbw.trans (hb1.mono (by have := hbw.size; omega))
      have HM : Hid ((marks k i ++ xs.drop i).set i (Mark.mark (q : Int)) = marks k (i + 1) ++ xs.drop (i + 1)) := by rw [← HQ.out]; exact marks_set k i xs (by rw [HN.out]; exact hlt)
      clear hlen hb1 HO hbw
      generalize Mark.mark (q : Int) = mk at *
      go_wp2_with fail
      go_roundw
      case rel =>
        have HO2 := (HO1.out.stored i (.string mk)).1
        rw [← List.map_set, HM.out] at HO2
        exact ⟨i + 1, by omega, by go_num, by rw [← Nat.add_assoc, HQ.out]; go_num, HO2, HB.out.setCell hbg _⟩
      case measure => simp [intOf]; omega
    · have hin : i = n := by omega
      subst hin
      go_wp2_with fail
      go_ret
      exact ⟨rfl, by rw [List.drop_of_length_le (by rw [HN.out]; exact Nat.le_refl _), List.append_nil] at ho; exact ho, hbw⟩

set_option maxHeartbeats 1000000 in
theorem held_row (b off cap n k : Nat) (K : Int) (w : World) (hK : K = k) (hk : 0 < k) (hkn : k + n ≤ 4611686018427387904)
    (hc : ∀ j, j < n → w.cell? ⟨b, off + j, none⟩ = some (.string (Mark.mark ((k + j : Nat) : Int)))) :
    Calls Try.prog 8 #[.slice (some ⟨b, off, none⟩) n cap, .int .i64 K] w fun e w' =>
      e = .returned (.int .i64 ((k + n : Nat) : Int)) ∧ Below w.heap.size w w' := by
  subst hK
  have HC := Lib.hid hc; clear hc
  go_enter Try.func8, Try.ntmps8
  go_wp2_with fail
  go_loopw [1, 5] (fun q j wr => ∃ i : Nat, i ≤ n ∧ j = .int .i64 i ∧ q = .int .i64 ((k + i : Nat) : Int) ∧ Below w.heap.size w wr) (fun _ j _ => n - (intOf j).toNat)
  case atStart => exact ⟨0, by omega, rfl, rfl, Below.refl _ _⟩
  case round =>
    obtain ⟨i, hi, rfl, rfl, hbw⟩ := hrel
    by_cases hlt : i < n
    · have hcell := cell_keep hbw (HC.out i hlt)
      have hpos : (0 : Int) < ((k + i : Nat) : Int) := by omega
      have hsm : ((k + i : Nat) : Int) ≤ 4611686018427387904 := by omega
      generalize hq : k + i = q at *
      have HQ := Lib.hid hq; clear hq
      generalize hmk : Mark.mark (q : Int) = mk at *
      have HMK := Lib.hid hmk; clear hmk
      go_wp2_with fail
      go_region_held3 (fun w' => w'.cell? ⟨b, off + i, none⟩ = some (.string mk) ∧ Below w.heap.size w w')
        (first | exact ⟨hcell, hbw.drew⟩ | exact ⟨cell_keep hb1 (show wr.drew.cell? _ = _ from hcell), hbw.drew.trans (hb1.mono hbw.size)⟩ | go_keep)
        (first | (go_at_call 9; refine (Mark.mark_any (q : Int) _ hpos (by omega)).mono ?_; rintro e w1 ⟨rfl, hb1⟩; rw [HMK.out]))
      all_goals go_wp2_with fail
      go_roundw
      case rel => exact ⟨i + 1, by omega, by go_num, by rw [← Nat.add_assoc, HQ.out]; go_num, hbw.drew.trans (hb1.mono hbw.size)⟩
      case measure => simp [intOf]; omega
    · have hin : i = n := by omega
      subst hin
      go_wp2_with fail
      go_ret
      exact ⟨rfl, hbw⟩
end Go.Proofs.Ytnlgdkfenipmfaa.Strs
