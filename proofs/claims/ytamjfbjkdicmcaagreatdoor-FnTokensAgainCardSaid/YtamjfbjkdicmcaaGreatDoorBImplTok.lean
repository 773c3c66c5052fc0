/-
  The small functions of impl's chapter 2: letters, digits, the letters and digits that a text begins with, words, names. They write nothing that was there.
-/
import Derived.Test.YtamjfbjkdicmcaaGreatDoorBAt
import Derived.Test.YtamjfbjkdicmcaaGreatDoorBNamesMath
import Derived.Laws.RangeAny
namespace Go.Proofs.YtamjfbjkdicmcaaGreatDoor.ImplTok
open Go.RowKit
open Strs
theorem letter_byte (c : UInt8) (w : World) :
    Calls Tryz.prog 22 #[.int .i32 (c.toNat : Int)] w fun e w' => e = .returned (.bool (Tok.letter c)) ∧ w = w' := by
  have H : (Hid (Tok.letter c = true) ∧ (97 : Int) ≤ c.toNat ∧ (c.toNat : Int) ≤ 122) ∨ (Hid (Tok.letter c = false) ∧ (97 : Int) ≤ c.toNat ∧ ¬ (c.toNat : Int) ≤ 122 ∧ ¬ (c.toNat : Int) ≤ 90) ∨
      (Hid (Tok.letter c = true) ∧ ¬ (97 : Int) ≤ c.toNat ∧ (65 : Int) ≤ c.toNat ∧ (c.toNat : Int) ≤ 90) ∨ (Hid (Tok.letter c = false) ∧ ¬ (97 : Int) ≤ c.toNat ∧ (65 : Int) ≤ c.toNat ∧ ¬ (c.toNat : Int) ≤ 90) ∨
      (Hid (Tok.letter c = false) ∧ ¬ (97 : Int) ≤ c.toNat ∧ ¬ (65 : Int) ≤ c.toNat) := by
    by_cases h1 : 97 ≤ c.toNat
    · by_cases h2 : c.toNat ≤ 122
      · exact .inl ⟨(by show Tok.letter c = true; simp [Tok.letter, h1, h2]), by omega, by omega⟩
      · exact .inr (.inl ⟨(by show Tok.letter c = false; simp [Tok.letter, h2]; omega), by omega, by omega, by omega⟩)
    · by_cases h3 : 65 ≤ c.toNat
      · by_cases h4 : c.toNat ≤ 90
        · exact .inr (.inr (.inl ⟨(by show Tok.letter c = true; simp [Tok.letter, h3, h4]), by omega, by omega, by omega⟩))
        · exact .inr (.inr (.inr (.inl ⟨(by show Tok.letter c = false; simp [Tok.letter, h1, h4]), by omega, by omega, by omega⟩)))
      · exact .inr (.inr (.inr (.inr ⟨(by show Tok.letter c = false; simp [Tok.letter, h1, h3]), by omega, by omega⟩)))
  rcases H with ⟨H, h1, h2⟩ | ⟨H, h1, h2, h3⟩ | ⟨H, h1, h2, h3⟩ | ⟨H, h1, h2, h3⟩ | ⟨H, h1, h2⟩
  all_goals
    generalize c.toNat = n at *
    go_enter Tryz.func22, Tryz.ntmps22
    go_wp2
    go_ret
    exact ⟨by rw [H.out]; rfl, rfl⟩
theorem letter_high (n : Nat) (w : World) (h : 128 ≤ n) :
    Calls Tryz.prog 22 #[.int .i32 (n : Int)] w fun e w' => e = .returned (.bool false) ∧ w = w' := by
  have h1 : (97 : Int) ≤ n := by omega
  have h2 : ¬ (n : Int) ≤ 122 := by omega
  have h3 : (65 : Int) ≤ n := by omega
  have h4 : ¬ (n : Int) ≤ 90 := by omega
  go_enter Tryz.func22, Tryz.ntmps22
  go_wp2
  go_ret
  exact ⟨rfl, rfl⟩
theorem digit_byte (c : UInt8) (w : World) :
    Calls Tryz.prog 24 #[.int .i32 (c.toNat : Int)] w fun e w' => e = .returned (.bool (Tok.digit c)) ∧ w = w' := by
  have H : (Hid (Tok.digit c = true) ∧ (48 : Int) ≤ c.toNat ∧ (c.toNat : Int) ≤ 57) ∨ (Hid (Tok.digit c = false) ∧ (48 : Int) ≤ c.toNat ∧ ¬ (c.toNat : Int) ≤ 57) ∨ (Hid (Tok.digit c = false) ∧ ¬ (48 : Int) ≤ c.toNat) := by
    by_cases h1 : 48 ≤ c.toNat
    · by_cases h2 : c.toNat ≤ 57
      · exact .inl ⟨(by show Tok.digit c = true; simp [Tok.digit, h1, h2]), by omega, by omega⟩
      · exact .inr (.inl ⟨(by show Tok.digit c = false; simp [Tok.digit, h2]), by omega, by omega⟩)
    · exact .inr (.inr ⟨(by show Tok.digit c = false; simp [Tok.digit, h1]), by omega⟩)
  rcases H with ⟨H, h1, h2⟩ | ⟨H, h1, h2⟩ | ⟨H, h1⟩
  all_goals
    generalize c.toNat = n at *
    go_enter Tryz.func24, Tryz.ntmps24
    go_wp2
    go_ret
    exact ⟨by rw [H.out]; rfl, rfl⟩
theorem digit_high (n : Nat) (w : World) (h : 128 ≤ n) :
    Calls Tryz.prog 24 #[.int .i32 (n : Int)] w fun e w' => e = .returned (.bool false) ∧ w = w' := by
  have h1 : (48 : Int) ≤ n := by omega
  have h2 : ¬ (n : Int) ≤ 57 := by omega
  go_enter Tryz.func24, Tryz.ntmps24
  go_wp2
  go_ret
  exact ⟨rfl, rfl⟩
theorem letter_is (c : UInt8) (b : Bool) (w : World) (h : Tok.letter c = b) :
    Calls Tryz.prog 22 #[.int .i32 (c.toNat : Int)] w fun e w' => e = .returned (.bool b) ∧ w = w' := by subst h; exact letter_byte c w
theorem digit_is (c : UInt8) (b : Bool) (w : World) (h : Tok.digit c = b) :
    Calls Tryz.prog 24 #[.int .i32 (c.toNat : Int)] w fun e w' => e = .returned (.bool b) ∧ w = w' := by subst h; exact digit_byte c w
theorem wrap_byte (c : UInt8) : wrap32 (c.toNat : Int) = (c.toNat : Int) := by
  have := c.toNat_lt
  unfold wrap32; omega
theorem high_not (c : UInt8) (h : 128 ≤ c.toNat) : Tok.alnum c = false := by
  unfold Tok.alnum Tok.letter Tok.digit
  rw [decide_eq_false (by omega : ¬ c.toNat ≤ 122), decide_eq_false (by omega : ¬ c.toNat ≤ 90), decide_eq_false (by omega : ¬ c.toNat ≤ 57)]
  simp
set_option maxHeartbeats 1000000 in
theorem starts_letter (s : ByteArray) (w : World) :
    Calls Tryz.prog 103 #[.string s] w fun e w' => e = .returned (.bool (Tok.letterAt s.data.toList 0)) ∧ w = w' := by
  by_cases h0 : 0 < s.size
  · have h0' : 0 < s.data.toList.length := by rw [Tok.len_list]; exact h0
    have hx : s.data.toList[0]'h0' = s[0]'h0 := rfl
    have HV : Hid (Tok.letterAt s.data.toList 0 = Tok.letter (s[0]'h0)) := by show _ = _; unfold Tok.letterAt; rw [List.getElem?_eq_getElem h0', hx]
    have hne : (s.toList == []) = false := by
      rw [ByteArray.toList_eq, beq_eq_false_iff_ne]; intro h; rw [h] at h0'; simp at h0'
    have KL := fun w => Lib.hid (letter_byte (s[0]'h0) w)
    clear hx h0'
    go_enter Tryz.func103, Tryz.ntmps103
    go_wp2_with fail
    rw [wrap_byte]
    refine (KL _).out.mono ?_
    rintro e w1 ⟨rfl, rfl⟩
    go_wp2_with fail
    go_ret
    exact ⟨by rw [HV.out]; rfl, rfl⟩
  · have hd : s.data.toList = [] := List.eq_nil_of_length_eq_zero (by rw [Tok.len_list]; omega)
    have HV : Hid (Tok.letterAt s.data.toList 0 = false) := by show _ = _; rw [hd]; rfl
    have hne : (s.toList == []) = true := by rw [ByteArray.toList_eq, hd]; rfl
    clear hd
    go_enter Tryz.func103, Tryz.ntmps103
    go_wp2_with fail
    go_ret
    exact ⟨by rw [HV.out]; rfl, rfl⟩
def Word (s : ByteArray) (w : World) (e : Ending) (w' : World) : Prop := e = .returned (.string (s.extract 0 (Tok.run s.data.toList 0))) ∧ Below w.heap.size w w'
set_option maxHeartbeats 2000000 in
theorem word_any (s : ByteArray) (w : World) :
    Calls Tryz.prog 53 #[.string s] w (Word s w) := by
  go_enter Tryz.func53, Tryz.ntmps53
  go_wp2_with fail
  go_loopw [] (fun wr => ∃ i : Nat, i ≤ s.size ∧ wr = w.iter s i ∧ Tok.run s.data.toList 0 = Tok.run s.data.toList i) (fun wr => s.size - wr.iterPos w.heap.size)
  case atStart => exact ⟨0, Nat.zero_le _, rfl, rfl⟩
  case round =>
    obtain ⟨i, hi, rfl, hr⟩ := hrel
    have HR := Lib.hid hr; clear hr
    by_cases hlt : i < s.size
    · have hlt' : i < s.data.toList.length := by rw [Tok.len_list]; exact hlt
      have hx : s.data.toList[i]'hlt' = s[i]'hlt := rfl
      have HS : Hid (Tok.alnum (s[i]'hlt) = true → Tok.run s.data.toList 0 = Tok.run s.data.toList (i + 1)) := fun h => HR.out.trans (Tok.run_go _ i hlt' (by rw [hx]; exact h))
      have HN : Hid (Tok.alnum (s[i]'hlt) = false → Tok.run s.data.toList 0 = i) := fun h => HR.out.trans (Tok.run_stop _ i (fun h' => by rw [hx]; exact h))
      clear hx hlt'
      by_cases ha : (s[i]'hlt).toNat < 128
      · have hnx : ∀ ty, (Instr.next (.pointer (some ⟨w.heap.size, 0, none⟩)) true ty).run Tryz.prog (w.iter s i) = _ := fun ty => run_next_ascii w s i ty hlt ha
        by_cases h1 : Tok.letter (s[i]'hlt) = true
        · have K1 := fun w => Lib.hid (letter_is (s[i]'hlt) true w h1)
          have HA : Hid (Tok.alnum (s[i]'hlt) = true) := by show _ = _; unfold Tok.alnum; rw [h1]; rfl
          clear h1 ha
          go_wp2_with fail
          refine (K1 _).out.mono ?_
          rintro e w1 ⟨rfl, rfl⟩
          go_wp2_with fail
          go_roundw
          case rel => exact ⟨i + 1, by omega, rfl, HS.out HA.out⟩
          case measure => simp; omega
        · rw [Bool.not_eq_true] at h1
          have K1 := fun w => Lib.hid (letter_is (s[i]'hlt) false w h1)
          by_cases h2 : Tok.digit (s[i]'hlt) = true
          · have K2 := fun w => Lib.hid (digit_is (s[i]'hlt) true w h2)
            have HA : Hid (Tok.alnum (s[i]'hlt) = true) := by show _ = _; unfold Tok.alnum; rw [h1, h2]; rfl
            clear h1 h2 ha
            go_wp2_with fail
            refine (K1 _).out.mono ?_
            rintro e w1 ⟨rfl, rfl⟩
            go_wp2_with fail
            refine (K2 _).out.mono ?_
            rintro e w1 ⟨rfl, rfl⟩
            go_wp2_with fail
            go_roundw
            case rel => exact ⟨i + 1, by omega, rfl, HS.out HA.out⟩
            case measure => simp; omega
          · rw [Bool.not_eq_true] at h2
            have K2 := fun w => Lib.hid (digit_is (s[i]'hlt) false w h2)
            have HE : Hid (Tok.run s.data.toList 0 = i) := HN.out (by unfold Tok.alnum; rw [h1, h2]; rfl)
            clear h1 h2 ha
            go_wp2_with fail
            refine (K1 _).out.mono ?_
            rintro e w1 ⟨rfl, rfl⟩
            go_wp2_with fail
            refine (K2 _).out.mono ?_
            rintro e w1 ⟨rfl, rfl⟩
            go_wp2_with fail
            go_ret
            unfold Word
            rw [HE.out]
            exact ⟨rfl, (Below.refl _ _).alloc (Nat.le_refl _) _⟩
      · have HE : Hid (Tok.run s.data.toList 0 = i) := HN.out (high_not _ (by omega))
        have hnx : ∀ ty, (Instr.next (.pointer (some ⟨w.heap.size, 0, none⟩)) true ty).run Tryz.prog (w.iter s i) = _ := fun ty => run_next_any w s i ty hlt
        have hd := (decode_high s i hlt (by omega)).1
        generalize (Utf8.decode s i).1 = n at *
        generalize (Utf8.decode s i).2 = m at *
        have K1 := fun w => Lib.hid (letter_high n w hd)
        have K2 := fun w => Lib.hid (digit_high n w hd)
        clear ha
        go_wp2_with fail
        refine (K1 _).out.mono ?_
        rintro e w1 ⟨rfl, rfl⟩
        go_wp2_with fail
        refine (K2 _).out.mono ?_
        rintro e w1 ⟨rfl, rfl⟩
        go_wp2_with fail
        go_ret
        unfold Word
        rw [HE.out]
        exact ⟨rfl, (Below.refl _ _).alloc (Nat.le_refl _) _⟩
    · have HE : Hid (Tok.run s.data.toList 0 = s.size) := by
        show _ = _
        rw [HR.out, Tok.run_stop _ i (fun h' => by rw [Tok.len_list] at h'; omega)]; omega
      have hnx : ∀ ty, (Instr.next (.pointer (some ⟨w.heap.size, 0, none⟩)) true ty).run Tryz.prog (w.iter s i) = _ := fun ty => run_next_end w s i ty hlt
      go_wp2_with fail
      go_ret
      unfold Word
      rw [HE.out]
      exact ⟨by rw [show s.extract 0 s.size = s from Tok.rest_zero s]; rfl, (Below.refl _ _).alloc (Nat.le_refl _) _⟩
theorem eq_swap (a b : List UInt8) : (a == b) = (b == a) := by
  rw [Bool.eq_iff_iff, beq_iff_eq, beq_iff_eq, eq_comm]
set_option maxHeartbeats 2000000 in
theorem is_word (s : ByteArray) (w : World) :
    Calls Tryz.prog 55 #[.string s] w fun e w' => e = .returned (.bool (Tok.has Tok.words s)) ∧ w = w' := by
  have H : Tok.has Tok.words s = ((s.toList == [99, 108, 97, 115, 115]) || ((s.toList == [101, 120, 116, 101, 110, 100, 115]) || ((s.toList == [102, 105, 101, 108, 100, 115]) || ((s.toList == [109, 101, 116, 104, 111, 100]) || ((s.toList == [99, 108, 97, 115, 115, 109, 101, 116, 104, 111, 100]) || ((s.toList == [101, 110, 100]) || (s.toList == [109, 97, 105, 110]))))))) := by
    unfold Tok.has Tok.words
    simp only [List.any_cons, List.any_nil, Bool.or_false, ByteArray.toList_eq, eq_swap s.data.toList]
  have HV := Lib.hid H; clear H
  cases e0 : (s.toList == [99, 108, 97, 115, 115]) with
  | true =>
    go_enter Tryz.func55, Tryz.ntmps55
    go_wp2_with fail
    go_ret
    exact ⟨by rw [HV.out, e0]; rfl, rfl⟩
  | false =>
    cases e1 : (s.toList == [101, 120, 116, 101, 110, 100, 115]) with
    | true =>
      go_enter Tryz.func55, Tryz.ntmps55
      go_wp2_with fail
      go_ret
      exact ⟨by rw [HV.out, e0, e1]; rfl, rfl⟩
    | false =>
      cases e2 : (s.toList == [102, 105, 101, 108, 100, 115]) with
      | true =>
        go_enter Tryz.func55, Tryz.ntmps55
        go_wp2_with fail
        go_ret
        exact ⟨by rw [HV.out, e0, e1, e2]; rfl, rfl⟩
      | false =>
        cases e3 : (s.toList == [109, 101, 116, 104, 111, 100]) with
        | true =>
          go_enter Tryz.func55, Tryz.ntmps55
          go_wp2_with fail
          go_ret
          exact ⟨by rw [HV.out, e0, e1, e2, e3]; rfl, rfl⟩
        | false =>
          cases e4 : (s.toList == [99, 108, 97, 115, 115, 109, 101, 116, 104, 111, 100]) with
          | true =>
            go_enter Tryz.func55, Tryz.ntmps55
            go_wp2_with fail
            go_ret
            exact ⟨by rw [HV.out, e0, e1, e2, e3, e4]; rfl, rfl⟩
          | false =>
            cases e5 : (s.toList == [101, 110, 100]) with
            | true =>
              go_enter Tryz.func55, Tryz.ntmps55
              go_wp2_with fail
              go_ret
              exact ⟨by rw [HV.out, e0, e1, e2, e3, e4, e5]; rfl, rfl⟩
            | false =>
              cases e6 : (s.toList == [109, 97, 105, 110]) with
              | true =>
                go_enter Tryz.func55, Tryz.ntmps55
                go_wp2_with fail
                go_ret
                exact ⟨by rw [HV.out, e0, e1, e2, e3, e4, e5, e6]; rfl, rfl⟩
              | false =>
                go_enter Tryz.func55, Tryz.ntmps55
                go_wp2_with fail
                go_ret
                exact ⟨by rw [HV.out, e0, e1, e2, e3, e4, e5, e6]; rfl, rfl⟩
def Part (b : Bool) (w : World) (e : Ending) (w' : World) : Prop := e = .returned (.bool b) ∧ Below w.heap.size w w'
set_option maxHeartbeats 2000000 in
theorem is_part (s : ByteArray) (w : World) :
    Calls Tryz.prog 97 #[.string s] w (Part (Tok.name20 s.data.toList) w) := by
  have HV := Lib.hid (Tok.name20_is s)
  have KL := fun w => Lib.hid (starts_letter s w)
  have KW := fun w => Lib.hid (word_any s w)
  by_cases h20 : s.size ≤ 20
  · have h20i : (s.size : Int) ≤ 20 := by omega
    by_cases hl : Tok.letterAt s.data.toList 0 = true
    · rw [hl] at KL
      have HE : Hid (Tok.name20 s.data.toList = ((s.extract 0 (Tok.run s.data.toList 0)).toList == s.toList)) := by show _ = _; rw [HV.out, decide_eq_true h20, hl]; rfl
      clear hl HV
      go_enter Tryz.func97, Tryz.ntmps97
      go_wp2_with fail
      refine (KL _).out.mono ?_
      rintro e w1 ⟨rfl, rfl⟩
      go_wp2_with fail
      refine (KW _).out.mono ?_
      rintro e w1 ⟨rfl, hb⟩
      go_wp2_with fail
      go_ret
      exact ⟨by rw [HE.out]; rfl, hb⟩
    · rw [Bool.not_eq_true] at hl
      rw [hl] at KL
      have HE : Hid (Tok.name20 s.data.toList = false) := by show _ = _; rw [HV.out, hl, Bool.and_false]; rfl
      clear hl HV
      go_enter Tryz.func97, Tryz.ntmps97
      go_wp2_with fail
      refine (KL _).out.mono ?_
      rintro e w1 ⟨rfl, rfl⟩
      go_wp2_with fail
      go_ret
      exact ⟨by rw [HE.out]; rfl, Below.refl _ _⟩
  · have h20i : ¬ (s.size : Int) ≤ 20 := by omega
    have HE : Hid (Tok.name20 s.data.toList = false) := by show _ = _; rw [HV.out, decide_eq_false h20]; rfl
    clear HV
    go_enter Tryz.func97, Tryz.ntmps97
    go_wp2_with fail
    go_ret
    exact ⟨by rw [HE.out]; rfl, Below.refl _ _⟩
set_option maxHeartbeats 2000000 in
theorem is_name (s : ByteArray) (w : World) :
    Calls Tryz.prog 94 #[.string s] w (Part (Tok.isName s) w) := by
  have HV : Hid (Tok.isName s = (Tok.name20 s.data.toList && !Tok.has Tok.words s)) := rfl
  have KP := fun w => Lib.hid (is_part s w)
  have KW := fun w => Lib.hid (is_word s w)
  generalize Tok.name20 s.data.toList = a at *
  generalize Tok.has Tok.words s = b at *
  cases a with
  | true =>
    go_enter Tryz.func94, Tryz.ntmps94
    go_wp2_with fail
    refine (KP _).out.mono ?_
    rintro e w1 ⟨rfl, hb⟩
    go_wp2_with fail
    refine (KW _).out.mono ?_
    rintro e w2 ⟨rfl, rfl⟩
    go_wp2_with fail
    go_ret
    exact ⟨by rw [HV.out]; rfl, hb⟩
  | false =>
    go_enter Tryz.func94, Tryz.ntmps94
    go_wp2_with fail
    refine (KP _).out.mono ?_
    rintro e w1 ⟨rfl, hb⟩
    go_wp2_with fail
    go_ret
    exact ⟨by rw [HV.out]; rfl, hb⟩
end Go.Proofs.YtamjfbjkdicmcaaGreatDoor.ImplTok
