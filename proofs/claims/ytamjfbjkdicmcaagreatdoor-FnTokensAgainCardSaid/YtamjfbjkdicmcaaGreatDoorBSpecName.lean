/-
  spec.l2IsName, IsName, IsSelector and CountArgs: what they answer. They write nothing that was there.
-/
import Derived.Test.YtamjfbjkdicmcaaGreatDoorBSpecSplit
import Derived.Test.YtamjfbjkdicmcaaGreatDoorBSpecTok
namespace Go.Proofs.YtamjfbjkdicmcaaGreatDoor.SpecName
open Go.RowKit
open Strs SpecTok
theorem name20_spell (s : ByteArray) : Tok.name20 s.data.toList = (decide (1 ≤ s.size) && decide (s.size ≤ 20) && (if h : 0 < s.size then Tok.letter (s[0]'h) else false) && decide (Tok.run s.data.toList 0 = s.size)) := by
  unfold Tok.name20
  rw [len_list]
  congr 2
  by_cases h : 0 < s.size
  · have h' : 0 < s.data.toList.length := by rw [len_list]; exact h
    have hx : s.data.toList[0]'h' = s[0]'h := rfl
    rw [dif_pos h, ← hx]
    generalize s.data.toList = l at *
    match l, h' with
    | c :: r, _ => rfl
  · have h' : s.data.toList = [] := _root_.List.eq_nil_of_length_eq_zero (by rw [len_list]; omega)
    rw [dif_neg h, h']
set_option maxHeartbeats 1000000 in
theorem name20_any (s : ByteArray) (w : World) (hs : s.size ≤ 1048576) :
    Calls Tryz.prog 82 #[.string s] w fun e w' => e = .returned (.bool (Tok.name20 s.data.toList)) ∧ w = w' := by
  have HV := Lib.hid (name20_spell s)
  by_cases h0 : (1 : Int) ≤ (s.size : Int)
  · by_cases h1 : (s.size : Int) ≤ 20
    · have hp : 0 < s.size := by omega
      by_cases h2 : Tok.letter (s[0]'hp) = true
      · have K := fun w => Lib.hid (letter_is (s[0]'hp) true w h2)
        have HV2 : Hid (Tok.name20 s.data.toList = decide (Tok.run s.data.toList 0 = s.size)) := by
          show _ = _; rw [HV.out, dif_pos hp, h2, decide_eq_true (show 1 ≤ s.size by omega), decide_eq_true (show s.size ≤ 20 by omega)]; rfl
        have KR := fun w => Lib.hid (run_any s 0 0 w rfl (by omega) (by unfold maxLen; omega))
        clear h2 HV
        generalize Tok.run s.data.toList 0 = r at *
        by_cases h3 : r = s.size
        · have t3 : ((r : Int) == (s.size : Int)) = true := by rw [beq_iff_eq]; omega
          have H3 := Lib.hid h3; clear h3
          go_enter Tryz.func82, Tryz.ntmps82
          go_wp2_with fail
          refine (K w).out.mono ?_
          rintro e w1 ⟨rfl, rfl⟩
          go_wp2_with fail
          refine (KR w).out.mono ?_
          rintro e w1 ⟨rfl, rfl⟩
          go_wp2_with fail
          go_ret
          exact ⟨by rw [HV2.out, decide_eq_true H3.out]; rfl, rfl⟩
        · have t3 : ((r : Int) == (s.size : Int)) = false := by rw [beq_eq_false_iff_ne]; omega
          have H3 := Lib.hid h3; clear h3
          go_enter Tryz.func82, Tryz.ntmps82
          go_wp2_with fail
          refine (K w).out.mono ?_
          rintro e w1 ⟨rfl, rfl⟩
          go_wp2_with fail
          refine (KR w).out.mono ?_
          rintro e w1 ⟨rfl, rfl⟩
          go_wp2_with fail
          go_ret
          exact ⟨by rw [HV2.out, decide_eq_false H3.out]; rfl, rfl⟩
      · rw [Bool.not_eq_true] at h2
        have K := fun w => Lib.hid (letter_is (s[0]'hp) false w h2)
        have HV2 : Hid (Tok.name20 s.data.toList = false) := by
          show _ = _; rw [HV.out, dif_pos hp, h2]; simp
        clear h2 HV
        go_enter Tryz.func82, Tryz.ntmps82
        go_wp2_with fail
        refine (K w).out.mono ?_
        rintro e w1 ⟨rfl, rfl⟩
        go_wp2_with fail
        go_ret
        exact ⟨by rw [HV2.out]; rfl, rfl⟩
    · have HV2 : Hid (Tok.name20 s.data.toList = false) := by
        show _ = _; rw [HV.out, decide_eq_false (show ¬ s.size ≤ 20 by omega)]; simp
      go_enter Tryz.func82, Tryz.ntmps82
      go_wp2_with fail
      go_ret
      exact ⟨by rw [HV2.out]; rfl, rfl⟩
  · have HV2 : Hid (Tok.name20 s.data.toList = false) := by
      show _ = _; rw [HV.out, decide_eq_false (show ¬ 1 ≤ s.size by omega)]; simp
    go_enter Tryz.func82, Tryz.ntmps82
    go_wp2_with fail
    go_ret
    exact ⟨by rw [HV2.out]; rfl, rfl⟩
theorem name20_is (s : ByteArray) (b : Bool) (w : World) (hs : s.size ≤ 1048576) (h : Tok.name20 s.data.toList = b) :
    Calls Tryz.prog 82 #[.string s] w fun e w' => e = .returned (.bool b) ∧ w = w' := by subst h; exact name20_any s w hs
theorem has_is (v : Value) (xs : _root_.List ByteArray) (s : ByteArray) (b : Bool) (w : World) (h : At w v xs) (hb : Tok.has xs s = b) :
    Calls Tryz.prog 66 #[v, .string s] w fun e w' => e = .returned (.bool b) ∧ w = w' := by subst hb; exact has_any v xs s w h
end Go.Proofs.YtamjfbjkdicmcaaGreatDoor.SpecName
