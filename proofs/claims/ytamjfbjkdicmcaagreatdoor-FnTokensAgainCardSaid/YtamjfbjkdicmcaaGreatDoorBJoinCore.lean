/-
  Joining: impl.fitsJoin and impl.Join over texts that lie in a slice. They write nothing that was there. The texts have at most 1048576 bytes, and so has the separator.
-/
import Derived.Test.YtamjfbjkdicmcaaGreatDoorBAt
import Derived.Test.YtamjfbjkdicmcaaGreatDoorBJoinMath
import Derived.Test.YtamjfbjkdicmcaaGreatDoorBShelf
namespace Go.Proofs.YtamjfbjkdicmcaaGreatDoor.JoinWalks
open Go.RowKit
open Strs JoinMath
def Lies (w : World) (b off : Nat) (xs : List ByteArray) : Prop := ∀ j, j < xs.length → w.cell? ⟨b, off + j, none⟩ = some (.string (at_ xs j))
theorem Lies.keep {w w' : World} {b off : Nat} {xs : List ByteArray} (h : Lies w b off xs) (hb : Below w.heap.size w w') : Lies w' b off xs := fun j hj => cell_keep hb (h j hj)
def Fits (xs : List ByteArray) (sep : ByteArray) : Bool := decide ((acc xs sep xs.length).length ≤ 1048576)
theorem fits_no (xs : List ByteArray) (sep : ByteArray) (i : Nat) (h : (acc xs sep i).length ≤ (acc xs sep xs.length).length) (h2 : 1048576 < (acc xs sep i).length) : Ending.returned (.bool false) = .returned (.bool (Fits xs sep)) := by
  have : Fits xs sep = false := by unfold Fits; rw [decide_eq_false_iff_not]; omega
  rw [this]
theorem fits_yes (xs : List ByteArray) (sep : ByteArray) (i : Nat) (h : i = xs.length) (h2 : (acc xs sep i).length ≤ 1048576) : Ending.returned (.bool true) = .returned (.bool (Fits xs sep)) := by
  have : Fits xs sep = true := by unfold Fits; rw [decide_eq_true_eq, ← h]; exact h2
  rw [this]
set_option maxHeartbeats 1000000 in
theorem fits_any (b off cap n : Nat) (xs : List ByteArray) (sep : ByteArray) (w : World) (hn : xs.length = n) (hl : Lies w b off xs) (ht : total xs n ≤ 1048576) (hn2 : n ≤ 1048576) (hs : sep.size ≤ 1048576) :
    Calls Tryz.prog 17 #[.slice (some ⟨b, off, none⟩) n cap, .string sep] w fun e w' => e = .returned (.bool (Fits xs sep)) ∧ w = w' := by
  have HN := Lib.hid hn; clear hn
  have HL := Lib.hid hl; clear hl
  have HT := Lib.hid ht; clear ht
  go_enter Tryz.func17, Tryz.ntmps17
  go_wp2_with fail
  go_loop [5, 10] (fun r j => ∃ i q : Nat, i ≤ n ∧ j = .int .i64 i ∧ q = (acc xs sep i).length ∧ q ≤ 1048576 ∧ r = .int .i64 (1048576 - (q : Int))) (fun _ j => n - (intOf j).toNat)
  case atStart => exact ⟨0, 0, by omega, rfl, rfl, by omega, rfl⟩
  case round =>
    obtain ⟨i, q, hi, rfl, hq, hq2, rfl⟩ := hrel
    have HQ := Lib.hid hq; clear hq
    by_cases hlt : i < n
    · have hcell : w.cell? ⟨b, off + i, none⟩ = some (.string (at_ xs i)) := HL.out i (by rw [HN.out]; exact hlt)
      have hsz := at_le xs i n hlt
      have ht := HT.out
      have HA : Hid ((acc xs sep (i + 1)).length = q + (if 0 < i then sep.size else 0) + (at_ xs i).size) := by
        show _ = _
        have e2 : ∀ s : ByteArray, s.data.toList.length = s.size := fun s => by rw [Array.length_toList]; rfl
        split
        · next h => rw [acc_more _ _ _ h, HQ.out]; simp only [List.length_append, e2]
        · have : i = 0 := by omega
          subst this
          rw [acc_one, HQ.out]; simp only [List.length_append, e2]; omega
      have HM : Hid ((acc xs sep (i + 1)).length ≤ (acc xs sep xs.length).length) := acc_le _ _ _ _ (by rw [HN.out]; omega)
      generalize at_ xs i = x at *
      by_cases h0 : 0 < i
      · have h0' : (0 : Int) < (i : Int) := by omega
        by_cases hbig : 1048576 - (q : Int) - (sep.size : Int) - (x.size : Int) < 0
        · go_wp2_with fail
          go_ret
          exact ⟨fits_no xs sep (i + 1) HM.out (by have h1 := HA.out; rw [if_pos h0] at h1; omega), rfl⟩
        · go_wp2_with fail
          go_round
          case rel => exact ⟨i + 1, q + sep.size + x.size, by omega, by go_num, by have h1 := HA.out; rw [if_pos h0] at h1; omega, by omega, by go_num⟩
          case measure => simp [intOf]; omega
      · have h0' : ¬ (0 : Int) < (i : Int) := by omega
        by_cases hbig : 1048576 - (q : Int) - (x.size : Int) < 0
        · go_wp2_with fail
          go_ret
          exact ⟨fits_no xs sep (i + 1) HM.out (by have h1 := HA.out; rw [if_neg h0] at h1; omega), rfl⟩
        · go_wp2_with fail
          go_round
          case rel => exact ⟨i + 1, q + x.size, by omega, by go_num, by have h1 := HA.out; rw [if_neg h0] at h1; omega, by omega, by go_num⟩
          case measure => simp [intOf]; omega
    · go_wp2_with fail
      go_ret
      exact ⟨fits_yes xs sep i (by have := HN.out; omega) (by have h1 := HQ.out; omega), rfl⟩
theorem at_of (xs : List ByteArray) (j : Nat) (x : ByteArray) (h : xs[j]? = some x) : j < xs.length ∧ at_ xs j = x := by
  obtain ⟨h1, h2⟩ := List.getElem?_eq_some_iff.1 h
  exact ⟨h1, by unfold at_; simp [List.getD, h1, h2]⟩
theorem grown_below {w wr w' : World} {base : Nat} {e : TypeId} {v : Value} {n : Nat} {xs : List Value} (hb : base ≤ w.heap.size) (h : Below base w wr) (hown : wr.ownsRow base e 1 v n xs) (hg : wr.grownBy w' v.ownBlock) : Below base w w' :=
  h.grown hg (Nat.le_trans hb h.size) (fun k hk => (hown.lt k hk).1)
theorem out_no (xs : List ByteArray) (sep : ByteArray) (i : Nat) (h : (acc xs sep i).length ≤ (acc xs sep xs.length).length) (h2 : 1048576 < (acc xs sep i).length) : (if Fits xs sep = true then acc xs sep xs.length else []) = [] := by
  have : Fits xs sep = false := by unfold Fits; rw [decide_eq_false_iff_not]; omega
  rw [this]; rfl
theorem out_yes (xs : List ByteArray) (sep : ByteArray) (i : Nat) (h : i = xs.length) (h2 : (acc xs sep i).length ≤ 1048576) : (if Fits xs sep = true then acc xs sep xs.length else []) = acc xs sep i := by
  have : Fits xs sep = true := by unfold Fits; rw [decide_eq_true_eq, ← h]; exact h2
  rw [this, if_pos rfl, h]
def Out (xs : List ByteArray) (sep : ByteArray) : List UInt8 := if Fits xs sep = true then acc xs sep xs.length else []
set_option maxHeartbeats 400000 in
theorem impl_some (b off cap n : Nat) (xs : List ByteArray) (sep : ByteArray) (w : World) (hn : xs.length = n) (hl : Lies w b off xs) (hb : b < w.heap.size) (hcap : n ≤ cap) (ht : total xs n ≤ 1048576) (hn2 : n ≤ 1048576) (hs : sep.size ≤ 1048576) :
    Calls Tryz.prog 9 #[.slice (some ⟨b, off, none⟩) n cap, .string sep] w fun e w' => e = .returned (.string ⟨(Out xs sep).toArray⟩) ∧ Below w.heap.size w w' := by
  have HF := Lib.hid (fits_any b off cap n xs sep w hn hl ht hn2 hs)
  by_cases hf : Fits xs sep = true
  · have HJ : Hid (Calls Tryz.prog 18 #[.slice (some ⟨b, off, none⟩) n cap, .string sep] w fun e w' => e = .returned (.string ⟨(Out xs sep).toArray⟩) ∧ Below w.heap.size w w') := by
      subst hn
      have h1 : (acc xs sep xs.length).length ≤ 1048576 := by unfold Fits at hf; exact of_decide_eq_true hf
      have := Shelf.join_any b off cap xs sep w (fun j x h => by obtain ⟨h1, h2⟩ := at_of xs j x h; rw [← h2]; exact hl j h1) hb (by omega) hcap (by rw [← acc_all]; omega)
      rw [← acc_all] at this
      unfold Out
      rw [if_pos hf]
      exact this
    rw [hf] at HF
    clear hl ht hf hn
    generalize Out xs sep = o at *
    go_enter Tryz.func9, Tryz.ntmps9
    go_wp2_with fail
    refine HF.out.mono ?_
    rintro e w1 ⟨rfl, rfl⟩
    go_wp2_with fail
    refine HJ.out.mono ?_
    rintro e w1 ⟨rfl, hb1⟩
    go_wp2_with fail
    go_ret
    exact ⟨rfl, hb1⟩
  · have HO : Hid (Out xs sep = []) := by show _ = _; unfold Out; rw [if_neg hf]
    rw [Bool.not_eq_true] at hf
    rw [hf] at HF
    clear hl ht hf hn
    go_enter Tryz.func9, Tryz.ntmps9
    go_wp2_with fail
    refine HF.out.mono ?_
    rintro e w1 ⟨rfl, rfl⟩
    go_wp2_with fail
    go_ret
    exact ⟨by rw [HO.out]; rfl, Below.refl _ _⟩
end Go.Proofs.YtamjfbjkdicmcaaGreatDoor.JoinWalks
