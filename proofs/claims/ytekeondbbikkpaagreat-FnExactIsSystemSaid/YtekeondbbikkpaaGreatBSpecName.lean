/-
  The small functions of spec's chapter 2: letters, digits, lists of texts, where letters and digits end. They write nothing that was there.
  spec.l2IsName, IsName, IsSelector and CountArgs: what they answer. They write nothing that was there.
-/
import Derived.Test.YtekeondbbikkpaaGreatBSpecMax
import Derived.Test.YtekeondbbikkpaaGreatBSpecSplit
import Derived.Test.YtekeondbbikkpaaGreatBTok
import Derived.Deep.RegionHeld3
namespace Go.Proofs.YtekeondbbikkpaaGreat.SpecTok
open Go.RowKit
open Strs
theorem letter_any (c : UInt8) (w : World) :
    Calls Tryz.prog 61 #[.int .u8 (c.toNat : Int)] w fun e w' => e = .returned (.bool (Tok.letter c)) ∧ w = w' := by
  have H : (Hid (Tok.letter c = true) ∧ (97 : Int) ≤ c.toNat ∧ (c.toNat : Int) ≤ 122) ∨ (Hid (Tok.letter c = false) ∧ (97 : Int) ≤ c.toNat ∧ ¬ (c.toNat : Int) ≤ 122 ∧ ¬ (c.toNat : Int) ≤ 90) ∨
      (Hid (Tok.letter c = true) ∧ ¬ (97 : Int) ≤ c.toNat ∧ (65 : Int) ≤ c.toNat ∧ (c.toNat : Int) ≤ 90) ∨ (Hid (Tok.letter c = false) ∧ ¬ (97 : Int) ≤ c.toNat ∧ (65 : Int) ≤ c.toNat ∧ ¬ (c.toNat : Int) ≤ 90) ∨
      (Hid (Tok.letter c = false) ∧ ¬ (97 : Int) ≤ c.toNat ∧ ¬ (65 : Int) ≤ c.toNat) := by
    by_cases h1 : 97 ≤ c.toNat
    · by_cases h2 : c.toNat ≤ 122
      · exact .inl ⟨(by show Tok.letter c = true; simp [Tok.letter, h1, h2]), by omega, by omega⟩
      · exact .inr (.inl ⟨(by show Tok.letter c = false; simp [Tok.letter, h2]; omega), by omega, by omega, by omega⟩)
    · by_cases h3 : 65 ≤ c.toNat
      · by_cases h4 : c.toNat ≤ 90
        · exact .inr (.inr (.inl ⟨(by show Tok.letter c = true; simp [Tok.letter, h3, h4]), by omega, by omega, by omega⟩))
        · exact .inr (.inr (.inr (.inl ⟨(by show Tok.letter c = false; simp [Tok.letter, h1, h4]), by omega, by omega, by omega⟩)))
      · exact .inr (.inr (.inr (.inr ⟨(by show Tok.letter c = false; simp [Tok.letter, h1, h3]), by omega, by omega⟩)))
  rcases H with ⟨H, h1, h2⟩ | ⟨H, h1, h2, h3⟩ | ⟨H, h1, h2, h3⟩ | ⟨H, h1, h2, h3⟩ | ⟨H, h1, h2⟩
  all_goals
    generalize c.toNat = n at *
    go_enter Tryz.func61, Tryz.ntmps61
    go_wp2
    go_ret
    exact ⟨by rw [H.out]; rfl, rfl⟩
theorem digit_any (c : UInt8) (w : World) :
    Calls Tryz.prog 82 #[.int .u8 (c.toNat : Int)] w fun e w' => e = .returned (.bool (Tok.digit c)) ∧ w = w' := by
  have H : (Hid (Tok.digit c = true) ∧ (48 : Int) ≤ c.toNat ∧ (c.toNat : Int) ≤ 57) ∨ (Hid (Tok.digit c = false) ∧ (48 : Int) ≤ c.toNat ∧ ¬ (c.toNat : Int) ≤ 57) ∨ (Hid (Tok.digit c = false) ∧ ¬ (48 : Int) ≤ c.toNat) := by
    by_cases h1 : 48 ≤ c.toNat
    · by_cases h2 : c.toNat ≤ 57
      · exact .inl ⟨(by show Tok.digit c = true; simp [Tok.digit, h1, h2]), by omega, by omega⟩
      · exact .inr (.inl ⟨(by show Tok.digit c = false; simp [Tok.digit, h2]), by omega, by omega⟩)
    · exact .inr (.inr ⟨(by show Tok.digit c = false; simp [Tok.digit, h1]), by omega⟩)
  rcases H with ⟨H, h1, h2⟩ | ⟨H, h1, h2⟩ | ⟨H, h1⟩
  all_goals
    generalize c.toNat = n at *
    go_enter Tryz.func82, Tryz.ntmps82
    go_wp2
    go_ret
    exact ⟨by rw [H.out]; rfl, rfl⟩
def List (xs : _root_.List ByteArray) (w : World) (e : Ending) (w' : World) : Prop := ∃ a c, e = .returned (.slice a xs.length c) ∧ At w' (.slice a xs.length c) xs ∧ Below w.heap.size w w'
theorem list_at (w : World) (C : Array Value) (xs : _root_.List ByteArray) (n : Nat) (hn : xs.length = n) (hm : n ≤ 1048576) (hC : ∀ j, j < n → C[j]? = some (.string (xs.getD j ByteArray.empty))) :
    List xs w (.returned (.slice (some ⟨w.heap.size, 0, none⟩) n n)) (w.alloc (.cells C 9)) := by
  subst hn
  refine ⟨_, _, rfl, ⟨_, _, rfl, by unfold maxLen; omega, fun _ => ⟨_, 0, rfl, fun j hj => ?_⟩⟩, (Below.refl _ _).alloc (Nat.le_refl _) _⟩
  rw [Nat.zero_add, World.cell?_alloc_mark w _ _ (0, 0) j]
  exact hC j hj
theorem words_any (w : World) : Calls Tryz.prog 39 #[] w (List Tok.words w) := by
  go_enter Tryz.func39, Tryz.ntmps39
  go_wp2
  go_ret
  refine list_at w _ Tok.words 7 rfl (by omega) (fun j hj => ?_)
  obtain rfl | rfl | rfl | rfl | rfl | rfl | rfl : j = 0 ∨ j = 1 ∨ j = 2 ∨ j = 3 ∨ j = 4 ∨ j = 5 ∨ j = 6 := by omega
  all_goals rfl
theorem binaries_any (w : World) : Calls Tryz.prog 36 #[] w (List Tok.binaries w) := by
  go_enter Tryz.func36, Tryz.ntmps36
  go_wp2
  go_ret
  refine list_at w _ Tok.binaries 15 rfl (by omega) (fun j hj => ?_)
  obtain rfl | rfl | rfl | rfl | rfl | rfl | rfl | rfl | rfl | rfl | rfl | rfl | rfl | rfl | rfl : j = 0 ∨ j = 1 ∨ j = 2 ∨ j = 3 ∨ j = 4 ∨ j = 5 ∨ j = 6 ∨ j = 7 ∨ j = 8 ∨ j = 9 ∨ j = 10 ∨ j = 11 ∨ j = 12 ∨ j = 13 ∨ j = 14 := by omega
  all_goals rfl
set_option maxHeartbeats 1000000 in
theorem has_any (v : Value) (xs : _root_.List ByteArray) (s : ByteArray) (w : World) (h : At w v xs) :
    Calls Tryz.prog 33 #[v, .string s] w fun e w' => e = .returned (.bool (Tok.has xs s)) ∧ w = w' := by
  obtain ⟨a, cap, rfl, hm, hc⟩ := h
  unfold maxLen at hm
  have HC := Lib.hid hc; clear hc
  generalize hn : xs.length = n at *
  have HN := Lib.hid hn; clear hn
  go_enter Tryz.func33, Tryz.ntmps33
  go_wp2_with fail
  go_loop [5] (fun j => ∃ i : Nat, i ≤ n ∧ j = .int .i64 i ∧ ∀ k (hk : k < xs.length), k < i → (xs[k].toList == s.toList) = false) (fun j => n - (intOf j).toNat)
  case atStart => exact ⟨0, by omega, rfl, fun k hk h => by omega⟩
  case round =>
    obtain ⟨i, hi, rfl, hno⟩ := hrel
    have HNO := Lib.hid hno; clear hno
    by_cases hlt : i < n
    · obtain ⟨b, off, rfl, hcell⟩ := HC.out (by omega)
      have hil : i < xs.length := by rw [HN.out]; exact hlt
      have hci := hcell i hlt
      have HX : Hid (xs.getD i ByteArray.empty = xs[i]) := by show _ = _; simp [_root_.List.getD, hil]
      rw [HX.out] at hci
      clear hcell
      by_cases he : (xs[i].toList == s.toList) = true
      · have HR : Hid (Tok.has xs s = true) := Tok.has_at xs s i hil he
        clear HX
        generalize xs[i] = x at *
        go_wp2_with fail
        go_ret
        exact ⟨by rw [HR.out]; rfl, rfl⟩
      · have hf : (xs[i].toList == s.toList) = false := by simpa using he
        have HF : Hid (∀ k (hk : k < xs.length), k < i + 1 → (xs[k].toList == s.toList) = false) := by
          intro k hk h1
          by_cases h2 : k = i
          · subst h2; exact hf
          · exact HNO.out k hk (by omega)
        clear he HX
        generalize xs[i] = x at *
        go_wp2_with fail
        go_round
        case rel => exact ⟨i + 1, by omega, by go_num, HF.out⟩
        case measure => simp [intOf]; omega
    · have HR : Hid (Tok.has xs s = false) := Tok.has_not xs s fun k hk => HNO.out k hk (by have := HN.out; omega)
      go_wp2_with fail
      go_ret
      exact ⟨by rw [HR.out]; rfl, rfl⟩
theorem len_list (s : ByteArray) : s.data.toList.length = s.size := by rw [Array.length_toList]; rfl
theorem letter_is (c : UInt8) (b : Bool) (w : World) (h : Tok.letter c = b) :
    Calls Tryz.prog 61 #[.int .u8 (c.toNat : Int)] w fun e w' => e = .returned (.bool b) ∧ w = w' := by subst h; exact letter_any c w
theorem digit_is (c : UInt8) (b : Bool) (w : World) (h : Tok.digit c = b) :
    Calls Tryz.prog 82 #[.int .u8 (c.toNat : Int)] w fun e w' => e = .returned (.bool b) ∧ w = w' := by subst h; exact digit_any c w
set_option maxHeartbeats 1000000 in
theorem run_any (s : ByteArray) (A : Int) (at_ : Nat) (w : World) (hA : A = at_) (hl : at_ ≤ s.size) (hs : s.size ≤ maxLen) :
    Calls Tryz.prog 62 #[.string s, .int .i64 A] w fun e w' => e = .returned (.int .i64 (Tok.run s.data.toList at_ : Nat)) ∧ w = w' := by
  subst hA
  unfold maxLen at hs
  go_enter Tryz.func62, Tryz.ntmps62
  go_wp2_with fail
  go_loop [1] (fun j => ∃ i : Nat, i ≤ s.size ∧ j = .int .i64 i ∧ Tok.run s.data.toList at_ = Tok.run s.data.toList i) (fun j => s.size - (intOf j).toNat)
  case atStart => exact ⟨at_, hl, rfl, rfl⟩
  case round =>
    obtain ⟨i, hi, rfl, hr⟩ := hrel
    have HR := Lib.hid hr; clear hr
    by_cases hlt : i < s.size
    · have hlt' : i < s.data.toList.length := by rw [len_list]; exact hlt
      have hx : s.data.toList[i]'hlt' = s[i]'hlt := rfl
      have HS : Hid (Tok.alnum (s[i]'hlt) = true → Tok.run s.data.toList at_ = Tok.run s.data.toList (i + 1)) := fun h => HR.out.trans (Tok.run_go _ i hlt' (by rw [hx]; exact h))
      have HN : Hid (Tok.alnum (s[i]'hlt) = false → Tok.run s.data.toList at_ = i) := fun h => HR.out.trans (Tok.run_stop _ i (fun h' => by rw [hx]; exact h))
      clear hx
      by_cases h1 : Tok.letter (s[i]'hlt) = true
      · have K1 := fun w => Lib.hid (letter_is (s[i]'hlt) true w h1)
        have HA : Hid (Tok.alnum (s[i]'hlt) = true) := by show _ = _; unfold Tok.alnum; rw [h1]; rfl
        clear h1
        go_wp2_with fail
        refine (K1 w).out.mono ?_
        rintro e w1 ⟨rfl, rfl⟩
        go_wp2_with fail
        go_round
        case rel => exact ⟨i + 1, by omega, by go_num, HS.out HA.out⟩
        case measure => simp [intOf]; omega
      · rw [Bool.not_eq_true] at h1
        have K1 := fun w => Lib.hid (letter_is (s[i]'hlt) false w h1)
        by_cases h2 : Tok.digit (s[i]'hlt) = true
        · have K2 := fun w => Lib.hid (digit_is (s[i]'hlt) true w h2)
          have HA : Hid (Tok.alnum (s[i]'hlt) = true) := by show _ = _; unfold Tok.alnum; rw [h1, h2]; rfl
          clear h1 h2
          go_wp2_with fail
          refine (K1 w).out.mono ?_
          rintro e w1 ⟨rfl, rfl⟩
          go_wp2_with fail
          refine (K2 w).out.mono ?_
          rintro e w1 ⟨rfl, rfl⟩
          go_wp2_with fail
          go_round
          case rel => exact ⟨i + 1, by omega, by go_num, HS.out HA.out⟩
          case measure => simp [intOf]; omega
        · rw [Bool.not_eq_true] at h2
          have K2 := fun w => Lib.hid (digit_is (s[i]'hlt) false w h2)
          have HA : Hid (Tok.alnum (s[i]'hlt) = false) := by show _ = _; unfold Tok.alnum; rw [h1, h2]; rfl
          clear h1 h2
          go_wp2_with fail
          refine (K1 w).out.mono ?_
          rintro e w1 ⟨rfl, rfl⟩
          go_wp2_with fail
          refine (K2 w).out.mono ?_
          rintro e w1 ⟨rfl, rfl⟩
          go_wp2_with fail
          go_ret
          exact ⟨by rw [HN.out HA.out]; rfl, rfl⟩
    · have HE : Hid (Tok.run s.data.toList at_ = i) := HR.out.trans (Tok.run_stop _ i (fun h' => by rw [len_list] at h'; omega))
      go_wp2_with fail
      go_ret
      exact ⟨by rw [HE.out]; rfl, rfl⟩
end Go.Proofs.YtekeondbbikkpaaGreat.SpecTok

namespace Go.Proofs.YtekeondbbikkpaaGreat.SpecName
open Go.RowKit
open Strs SpecTok
theorem name20_spell (s : ByteArray) : Tok.name20 s.data.toList = (decide (1 ≤ s.size) && decide (s.size ≤ 20) && (if h : 0 < s.size then Tok.letter (s[0]'h) else false) && decide (Tok.run s.data.toList 0 = s.size)) := by
  unfold Tok.name20
  rw [len_list]
  congr 2
  by_cases h : 0 < s.size
  · have h' : 0 < s.data.toList.length := by rw [len_list]; exact h
    have hx : s.data.toList[0]'h' = s[0]'h := rfl
    rw [dif_pos h, ← hx]
    generalize s.data.toList = l at *
    match l, h' with
    | c :: r, _ => rfl
  · have h' : s.data.toList = [] := _root_.List.eq_nil_of_length_eq_zero (by rw [len_list]; omega)
    rw [dif_neg h, h']
set_option maxHeartbeats 1000000 in
theorem name20_any (s : ByteArray) (w : World) (hs : s.size ≤ 1048576) :
    Calls Tryz.prog 38 #[.string s] w fun e w' => e = .returned (.bool (Tok.name20 s.data.toList)) ∧ w = w' := by
  have HV := Lib.hid (name20_spell s)
  by_cases h0 : (1 : Int) ≤ (s.size : Int)
  · by_cases h1 : (s.size : Int) ≤ 20
    · have hp : 0 < s.size := by omega
      by_cases h2 : Tok.letter (s[0]'hp) = true
      · have K := fun w => Lib.hid (letter_is (s[0]'hp) true w h2)
        have HV2 : Hid (Tok.name20 s.data.toList = decide (Tok.run s.data.toList 0 = s.size)) := by
          show _ = _; rw [HV.out, dif_pos hp, h2, decide_eq_true (show 1 ≤ s.size by omega), decide_eq_true (show s.size ≤ 20 by omega)]; rfl
        have KR := fun w => Lib.hid (run_any s 0 0 w rfl (by omega) (by unfold maxLen; omega))
        clear h2 HV
        generalize Tok.run s.data.toList 0 = r at *
        by_cases h3 : r = s.size
        · have t3 : ((r : Int) == (s.size : Int)) = true := by rw [beq_iff_eq]; omega
          have H3 := Lib.hid h3; clear h3
          go_enter Tryz.func38, Tryz.ntmps38
          go_wp2_with fail
          refine (K w).out.mono ?_
          rintro e w1 ⟨rfl, rfl⟩
          go_wp2_with fail
          refine (KR w).out.mono ?_
          rintro e w1 ⟨rfl, rfl⟩
          go_wp2_with fail
          go_ret
          exact ⟨by rw [HV2.out, decide_eq_true H3.out]; rfl, rfl⟩
        · have t3 : ((r : Int) == (s.size : Int)) = false := by rw [beq_eq_false_iff_ne]; omega
          have H3 := Lib.hid h3; clear h3
          go_enter Tryz.func38, Tryz.ntmps38
          go_wp2_with fail
          refine (K w).out.mono ?_
          rintro e w1 ⟨rfl, rfl⟩
          go_wp2_with fail
          refine (KR w).out.mono ?_
          rintro e w1 ⟨rfl, rfl⟩
          go_wp2_with fail
          go_ret
          exact ⟨by rw [HV2.out, decide_eq_false H3.out]; rfl, rfl⟩
      · rw [Bool.not_eq_true] at h2
        have K := fun w => Lib.hid (letter_is (s[0]'hp) false w h2)
        have HV2 : Hid (Tok.name20 s.data.toList = false) := by
          show _ = _; rw [HV.out, dif_pos hp, h2]; simp
        clear h2 HV
        go_enter Tryz.func38, Tryz.ntmps38
        go_wp2_with fail
        refine (K w).out.mono ?_
        rintro e w1 ⟨rfl, rfl⟩
        go_wp2_with fail
        go_ret
        exact ⟨by rw [HV2.out]; rfl, rfl⟩
    · have HV2 : Hid (Tok.name20 s.data.toList = false) := by
        show _ = _; rw [HV.out, decide_eq_false (show ¬ s.size ≤ 20 by omega)]; simp
      go_enter Tryz.func38, Tryz.ntmps38
      go_wp2_with fail
      go_ret
      exact ⟨by rw [HV2.out]; rfl, rfl⟩
  · have HV2 : Hid (Tok.name20 s.data.toList = false) := by
      show _ = _; rw [HV.out, decide_eq_false (show ¬ 1 ≤ s.size by omega)]; simp
    go_enter Tryz.func38, Tryz.ntmps38
    go_wp2_with fail
    go_ret
    exact ⟨by rw [HV2.out]; rfl, rfl⟩
theorem name20_is (s : ByteArray) (b : Bool) (w : World) (hs : s.size ≤ 1048576) (h : Tok.name20 s.data.toList = b) :
    Calls Tryz.prog 38 #[.string s] w fun e w' => e = .returned (.bool b) ∧ w = w' := by subst h; exact name20_any s w hs
theorem has_is (v : Value) (xs : _root_.List ByteArray) (s : ByteArray) (b : Bool) (w : World) (h : At w v xs) (hb : Tok.has xs s = b) :
    Calls Tryz.prog 33 #[v, .string s] w fun e w' => e = .returned (.bool b) ∧ w = w' := by subst hb; exact has_any v xs s w h
set_option maxHeartbeats 1000000 in
theorem isname_any (s : ByteArray) (w : World) (hs : s.size ≤ 1048576) :
    Calls Tryz.prog 32 #[.string s] w fun e w' => e = .returned (.bool (Tok.isName s)) ∧ Below w.heap.size w w' := by
  by_cases h : Tok.name20 s.data.toList = true
  · have K := fun w => Lib.hid (name20_is s true w hs h)
    have HV : Hid (Tok.isName s = !Tok.has Tok.words s) := by show _ = _; unfold Tok.isName; rw [h]; rfl
    have KH := fun v w h => Lib.hid (has_any v Tok.words s w h)
    clear h
    generalize Tok.has Tok.words s = b at *
    go_enter Tryz.func32, Tryz.ntmps32
    go_wp2_with fail
    refine (K w).out.mono ?_
    rintro e w1 ⟨rfl, rfl⟩
    go_wp2_with fail
    refine (words_any w).mono ?_
    rintro e w1 ⟨a, c, rfl, hat, hb1⟩
    have HAT := Lib.hid hat; clear hat
    go_wp2_with fail
    refine (KH _ w1 HAT.out).out.mono ?_
    rintro e w2 ⟨rfl, rfl⟩
    go_wp2_with fail
    go_ret
    exact ⟨by rw [HV.out]; rfl, hb1⟩
  · rw [Bool.not_eq_true] at h
    have K := fun w => Lib.hid (name20_is s false w hs h)
    have HV : Hid (Tok.isName s = false) := by show _ = _; unfold Tok.isName; rw [h]; rfl
    clear h
    go_enter Tryz.func32, Tryz.ntmps32
    go_wp2_with fail
    refine (K w).out.mono ?_
    rintro e w1 ⟨rfl, rfl⟩
    go_wp2_with fail
    go_ret
    exact ⟨by rw [HV.out]; rfl, Below.refl _ _⟩
end Go.Proofs.YtekeondbbikkpaaGreat.SpecName
