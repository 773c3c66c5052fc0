/-
  The small functions of spec's chapter 2: letters, digits, lists of texts, where letters and digits end. They write nothing that was there.
-/
import Derived.Test.YtamjfbjkdicmcaaGreatDoorBAt
import Derived.Test.YtamjfbjkdicmcaaGreatDoorBTok
import Derived.Deep.RegionHeld3
namespace Go.Proofs.YtamjfbjkdicmcaaGreatDoor.SpecTok
open Go.RowKit
open Strs
theorem letter_any (c : UInt8) (w : World) :
    Calls Tryz.prog 35 #[.int .u8 (c.toNat : Int)] w fun e w' => e = .returned (.bool (Tok.letter c)) ∧ w = w' := by
  have H : (Hid (Tok.letter c = true) ∧ (97 : Int) ≤ c.toNat ∧ (c.toNat : Int) ≤ 122) ∨ (Hid (Tok.letter c = false) ∧ (97 : Int) ≤ c.toNat ∧ ¬ (c.toNat : Int) ≤ 122 ∧ ¬ (c.toNat : Int) ≤ 90) ∨
      (Hid (Tok.letter c = true) ∧ ¬ (97 : Int) ≤ c.toNat ∧ (65 : Int) ≤ c.toNat ∧ (c.toNat : Int) ≤ 90) ∨ (Hid (Tok.letter c = false) ∧ ¬ (97 : Int) ≤ c.toNat ∧ (65 : Int) ≤ c.toNat ∧ ¬ (c.toNat : Int) ≤ 90) ∨
      (Hid (Tok.letter c = false) ∧ ¬ (97 : Int) ≤ c.toNat ∧ ¬ (65 : Int) ≤ c.toNat) := by
    by_cases h1 : 97 ≤ c.toNat
    · by_cases h2 : c.toNat ≤ 122
      · exact .inl ⟨(by show Tok.letter c = true; simp [Tok.letter, h1, h2]), by omega, by omega⟩
      · exact .inr (.inl ⟨(by show Tok.letter c = false; simp [Tok.letter, h2]; omega), by omega, by omega, by omega⟩)
    · by_cases h3 : 65 ≤ c.toNat
      · by_cases h4 : c.toNat ≤ 90
        · exact .inr (.inr (.inl ⟨(by show Tok.letter c = true; simp [Tok.letter, h3, h4]), by omega, by omega, by omega⟩))
        · exact .inr (.inr (.inr (.inl ⟨(by show Tok.letter c = false; simp [Tok.letter, h1, h4]), by omega, by omega, by omega⟩)))
      · exact .inr (.inr (.inr (.inr ⟨(by show Tok.letter c = false; simp [Tok.letter, h1, h3]), by omega, by omega⟩)))
  rcases H with ⟨H, h1, h2⟩ | ⟨H, h1, h2, h3⟩ | ⟨H, h1, h2, h3⟩ | ⟨H, h1, h2, h3⟩ | ⟨H, h1, h2⟩
  all_goals
    generalize c.toNat = n at *
    go_enter Tryz.func35, Tryz.ntmps35
    go_wp2
    go_ret
    exact ⟨by rw [H.out]; rfl, rfl⟩
theorem digit_any (c : UInt8) (w : World) :
    Calls Tryz.prog 37 #[.int .u8 (c.toNat : Int)] w fun e w' => e = .returned (.bool (Tok.digit c)) ∧ w = w' := by
  have H : (Hid (Tok.digit c = true) ∧ (48 : Int) ≤ c.toNat ∧ (c.toNat : Int) ≤ 57) ∨ (Hid (Tok.digit c = false) ∧ (48 : Int) ≤ c.toNat ∧ ¬ (c.toNat : Int) ≤ 57) ∨ (Hid (Tok.digit c = false) ∧ ¬ (48 : Int) ≤ c.toNat) := by
    by_cases h1 : 48 ≤ c.toNat
    · by_cases h2 : c.toNat ≤ 57
      · exact .inl ⟨(by show Tok.digit c = true; simp [Tok.digit, h1, h2]), by omega, by omega⟩
      · exact .inr (.inl ⟨(by show Tok.digit c = false; simp [Tok.digit, h2]), by omega, by omega⟩)
    · exact .inr (.inr ⟨(by show Tok.digit c = false; simp [Tok.digit, h1]), by omega⟩)
  rcases H with ⟨H, h1, h2⟩ | ⟨H, h1, h2⟩ | ⟨H, h1⟩
  all_goals
    generalize c.toNat = n at *
    go_enter Tryz.func37, Tryz.ntmps37
    go_wp2
    go_ret
    exact ⟨by rw [H.out]; rfl, rfl⟩
def List (xs : _root_.List ByteArray) (w : World) (e : Ending) (w' : World) : Prop := ∃ a c, e = .returned (.slice a xs.length c) ∧ At w' (.slice a xs.length c) xs ∧ Below w.heap.size w w'
theorem list_at (w : World) (C : Array Value) (xs : _root_.List ByteArray) (n : Nat) (hn : xs.length = n) (hm : n ≤ 1048576) (hC : ∀ j, j < n → C[j]? = some (.string (xs.getD j ByteArray.empty))) :
    List xs w (.returned (.slice (some ⟨w.heap.size, 0, none⟩) n n)) (w.alloc (.cells C 9)) := by
  subst hn
  refine ⟨_, _, rfl, ⟨_, _, rfl, by unfold maxLen; omega, fun _ => ⟨_, 0, rfl, fun j hj => ?_⟩⟩, (Below.refl _ _).alloc (Nat.le_refl _) _⟩
  rw [Nat.zero_add, World.cell?_alloc_mark w _ _ (0, 0) j]
  exact hC j hj
theorem words_any (w : World) : Calls Tryz.prog 67 #[] w (List Tok.words w) := by
  go_enter Tryz.func67, Tryz.ntmps67
  go_wp2
  go_ret
  refine list_at w _ Tok.words 7 rfl (by omega) (fun j hj => ?_)
  obtain rfl | rfl | rfl | rfl | rfl | rfl | rfl : j = 0 ∨ j = 1 ∨ j = 2 ∨ j = 3 ∨ j = 4 ∨ j = 5 ∨ j = 6 := by omega
  all_goals rfl
theorem binaries_any (w : World) : Calls Tryz.prog 34 #[] w (List Tok.binaries w) := by
  go_enter Tryz.func34, Tryz.ntmps34
  go_wp2
  go_ret
  refine list_at w _ Tok.binaries 15 rfl (by omega) (fun j hj => ?_)
  obtain rfl | rfl | rfl | rfl | rfl | rfl | rfl | rfl | rfl | rfl | rfl | rfl | rfl | rfl | rfl : j = 0 ∨ j = 1 ∨ j = 2 ∨ j = 3 ∨ j = 4 ∨ j = 5 ∨ j = 6 ∨ j = 7 ∨ j = 8 ∨ j = 9 ∨ j = 10 ∨ j = 11 ∨ j = 12 ∨ j = 13 ∨ j = 14 := by omega
  all_goals rfl
set_option maxHeartbeats 1000000 in
theorem has_any (v : Value) (xs : _root_.List ByteArray) (s : ByteArray) (w : World) (h : At w v xs) :
    Calls Tryz.prog 66 #[v, .string s] w fun e w' => e = .returned (.bool (Tok.has xs s)) ∧ w = w' := by
  obtain ⟨a, cap, rfl, hm, hc⟩ := h
  unfold maxLen at hm
  have HC := Lib.hid hc; clear hc
  generalize hn : xs.length = n at *
  have HN := Lib.hid hn; clear hn
  go_enter Tryz.func66, Tryz.ntmps66
  go_wp2_with fail
  go_loop [5] (fun j => ∃ i : Nat, i ≤ n ∧ j = .int .i64 i ∧ ∀ k (hk : k < xs.length), k < i → (xs[k].toList == s.toList) = false) (fun j => n - (intOf j).toNat)
  case atStart => exact ⟨0, by omega, rfl, fun k hk h => by omega⟩
  case round =>
    obtain ⟨i, hi, rfl, hno⟩ := hrel
    have HNO := Lib.hid hno; clear hno
    by_cases hlt : i < n
    · obtain ⟨b, off, rfl, hcell⟩ := HC.out (by omega)
      have hil : i < xs.length := by rw [HN.out]; exact hlt
      have hci := hcell i hlt
      have HX : Hid (xs.getD i ByteArray.empty = xs[i]) := by show _ = _; simp [_root_.List.getD, hil]
      rw [HX.out] at hci
      clear hcell
      by_cases he : (xs[i].toList == s.toList) = true
      · have HR : Hid (Tok.has xs s = true) := Tok.has_at xs s i hil he
        clear HX
        generalize xs[i] = x at *
        go_wp2_with fail
        go_ret
        exact ⟨by rw [HR.out]; rfl, rfl⟩
      · have hf : (xs[i].toList == s.toList) = false := by simpa using he
        have HF : Hid (∀ k (hk : k < xs.length), k < i + 1 → (xs[k].toList == s.toList) = false) := by
          intro k hk h1
          by_cases h2 : k = i
          · subst h2; exact hf
          · exact HNO.out k hk (by omega)
        clear he HX
        generalize xs[i] = x at *
        go_wp2_with fail
        go_round
        case rel => exact ⟨i + 1, by omega, by go_num, HF.out⟩
        case measure => simp [intOf]; omega
    · have HR : Hid (Tok.has xs s = false) := Tok.has_not xs s fun k hk => HNO.out k hk (by have := HN.out; omega)
      go_wp2_with fail
      go_ret
      exact ⟨by rw [HR.out]; rfl, rfl⟩
theorem len_list (s : ByteArray) : s.data.toList.length = s.size := by rw [Array.length_toList]; rfl
theorem letter_is (c : UInt8) (b : Bool) (w : World) (h : Tok.letter c = b) :
    Calls Tryz.prog 35 #[.int .u8 (c.toNat : Int)] w fun e w' => e = .returned (.bool b) ∧ w = w' := by subst h; exact letter_any c w
theorem digit_is (c : UInt8) (b : Bool) (w : World) (h : Tok.digit c = b) :
    Calls Tryz.prog 37 #[.int .u8 (c.toNat : Int)] w fun e w' => e = .returned (.bool b) ∧ w = w' := by subst h; exact digit_any c w
set_option maxHeartbeats 1000000 in
theorem run_any (s : ByteArray) (A : Int) (at_ : Nat) (w : World) (hA : A = at_) (hl : at_ ≤ s.size) (hs : s.size ≤ maxLen) :
    Calls Tryz.prog 64 #[.string s, .int .i64 A] w fun e w' => e = .returned (.int .i64 (Tok.run s.data.toList at_ : Nat)) ∧ w = w' := by
  subst hA
  unfold maxLen at hs
  go_enter Tryz.func64, Tryz.ntmps64
  go_wp2_with fail
  go_loop [1] (fun j => ∃ i : Nat, i ≤ s.size ∧ j = .int .i64 i ∧ Tok.run s.data.toList at_ = Tok.run s.data.toList i) (fun j => s.size - (intOf j).toNat)
  case atStart => exact ⟨at_, hl, rfl, rfl⟩
  case round =>
    obtain ⟨i, hi, rfl, hr⟩ := hrel
    have HR := Lib.hid hr; clear hr
    by_cases hlt : i < s.size
    · have hlt' : i < s.data.toList.length := by rw [len_list]; exact hlt
      have hx : s.data.toList[i]'hlt' = s[i]'hlt := rfl
      have HS : Hid (Tok.alnum (s[i]'hlt) = true → Tok.run s.data.toList at_ = Tok.run s.data.toList (i + 1)) := fun h => HR.out.trans (Tok.run_go _ i hlt' (by rw [hx]; exact h))
      have HN : Hid (Tok.alnum (s[i]'hlt) = false → Tok.run s.data.toList at_ = i) := fun h => HR.out.trans (Tok.run_stop _ i (fun h' => by rw [hx]; exact h))
      clear hx
      by_cases h1 : Tok.letter (s[i]'hlt) = true
      · have K1 := fun w => Lib.hid (letter_is (s[i]'hlt) true w h1)
        have HA : Hid (Tok.alnum (s[i]'hlt) = true) := by show _ = _; unfold Tok.alnum; rw [h1]; rfl
        clear h1
        go_wp2_with fail
        refine (K1 w).out.mono ?_
        rintro e w1 ⟨rfl, rfl⟩
        go_wp2_with fail
        go_round
        case rel => exact ⟨i + 1, by omega, by go_num, HS.out HA.out⟩
        case measure => simp [intOf]; omega
      · rw [Bool.not_eq_true] at h1
        have K1 := fun w => Lib.hid (letter_is (s[i]'hlt) false w h1)
        by_cases h2 : Tok.digit (s[i]'hlt) = true
        · have K2 := fun w => Lib.hid (digit_is (s[i]'hlt) true w h2)
          have HA : Hid (Tok.alnum (s[i]'hlt) = true) := by show _ = _; unfold Tok.alnum; rw [h1, h2]; rfl
          clear h1 h2
          go_wp2_with fail
          refine (K1 w).out.mono ?_
          rintro e w1 ⟨rfl, rfl⟩
          go_wp2_with fail
          refine (K2 w).out.mono ?_
          rintro e w1 ⟨rfl, rfl⟩
          go_wp2_with fail
          go_round
          case rel => exact ⟨i + 1, by omega, by go_num, HS.out HA.out⟩
          case measure => simp [intOf]; omega
        · rw [Bool.not_eq_true] at h2
          have K2 := fun w => Lib.hid (digit_is (s[i]'hlt) false w h2)
          have HA : Hid (Tok.alnum (s[i]'hlt) = false) := by show _ = _; unfold Tok.alnum; rw [h1, h2]; rfl
          clear h1 h2
          go_wp2_with fail
          refine (K1 w).out.mono ?_
          rintro e w1 ⟨rfl, rfl⟩
          go_wp2_with fail
          refine (K2 w).out.mono ?_
          rintro e w1 ⟨rfl, rfl⟩
          go_wp2_with fail
          go_ret
          exact ⟨by rw [HN.out HA.out]; rfl, rfl⟩
    · have HE : Hid (Tok.run s.data.toList at_ = i) := HR.out.trans (Tok.run_stop _ i (fun h' => by rw [len_list] at h'; omega))
      go_wp2_with fail
      go_ret
      exact ⟨by rw [HE.out]; rfl, rfl⟩
end Go.Proofs.YtamjfbjkdicmcaaGreatDoor.SpecTok
