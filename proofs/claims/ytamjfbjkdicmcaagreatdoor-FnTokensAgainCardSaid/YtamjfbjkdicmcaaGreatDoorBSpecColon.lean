/-
  spec's list of marks, and whether a colon stands at a place behind which there is no '='. They write nothing that was there.
-/
import Derived.Test.YtamjfbjkdicmcaaGreatDoorBSpecTok
namespace Go.Proofs.YtamjfbjkdicmcaaGreatDoor.SpecTok
open Go.RowKit
open Strs
theorem marks_any (w : World) : Calls Tryz.prog 33 #[] w (List Tok.marks w) := by
  go_enter Tryz.func33, Tryz.ntmps33
  go_wp2
  go_ret
  refine list_at w _ Tok.marks 10 rfl (by omega) (fun j hj => ?_)
  obtain rfl | rfl | rfl | rfl | rfl | rfl | rfl | rfl | rfl | rfl : j = 0 ∨ j = 1 ∨ j = 2 ∨ j = 3 ∨ j = 4 ∨ j = 5 ∨ j = 6 ∨ j = 7 ∨ j = 8 ∨ j = 9 := by omega
  all_goals rfl
theorem colon_spell (s : ByteArray) (i : Nat) : Tok.colon s.data.toList i = (decide (∃ h : i < s.size, ((s[i]'h).toNat : Int) = 58) && !decide (∃ h : i + 1 < s.size, ((s[i + 1]'h).toNat : Int) = 61)) := by
  have key : ∀ (j : Nat) (b : UInt8), (s.data.toList[j]? == some b) = decide (∃ h : j < s.size, ((s[j]'h).toNat : Int) = (b.toNat : Int)) := by
    intro j b
    by_cases h : j < s.size
    · have h' : j < s.data.toList.length := by rw [len_list]; exact h
      have hx : s.data.toList[j]'h' = s[j]'h := rfl
      rw [_root_.List.getElem?_eq_getElem h', hx, Bool.eq_iff_iff, beq_iff_eq, decide_eq_true_eq]
      constructor
      · intro e; rw [Option.some.injEq] at e; exact ⟨h, by rw [e]⟩
      · rintro ⟨_, e⟩; rw [Option.some.injEq]; exact UInt8.toNat_inj.1 (by omega)
    · rw [_root_.List.getElem?_eq_none (by rw [len_list]; omega), eq_comm]
      simp [h]
  unfold Tok.colon
  rw [key i 58, key (i + 1) 61]; rfl
set_option maxHeartbeats 1000000 in
theorem colon_any (s : ByteArray) (A : Int) (i : Nat) (w : World) (hA : A = i) (hl : i ≤ s.size) (hs : s.size ≤ 1048576) :
    Calls Tryz.prog 65 #[.string s, .int .i64 A] w fun e w' => e = .returned (.bool (Tok.colon s.data.toList i)) ∧ w = w' := by
  subst hA
  have HC := Lib.hid (colon_spell s i)
  by_cases h0 : i < s.size
  · by_cases h1 : ((s[i]'h0).toNat : Int) = 58
    · by_cases h2 : i + 1 < s.size
      · by_cases h3 : ((s[i + 1]'h2).toNat : Int) = 61
        · have HV : Hid (Tok.colon s.data.toList i = false) := by show _ = _; rw [HC.out, decide_eq_true (⟨h2, h3⟩ : ∃ h : i + 1 < s.size, _)]; simp
          have t1 : (((s[i]'h0).toNat : Int) == 58) = true := by simpa using h1
          have t2 : (((s[i + 1]'h2).toNat : Int) != 61) = false := by simpa using h3
          have t3 : ¬ (s.size : Int) ≤ (i : Int) + 1 := by omega
          clear h1 h3
          go_enter Tryz.func65, Tryz.ntmps65
          go_wp2_with fail
          go_ret
          exact ⟨by rw [HV.out]; rfl, rfl⟩
        · have HV : Hid (Tok.colon s.data.toList i = true) := by
            show _ = _; rw [HC.out, decide_eq_true (⟨h0, h1⟩ : ∃ h : i < s.size, _), decide_eq_false (fun ⟨_, h⟩ => h3 h)]; rfl
          have t1 : (((s[i]'h0).toNat : Int) == 58) = true := by simpa using h1
          have t2 : (((s[i + 1]'h2).toNat : Int) != 61) = true := by simpa using h3
          have t3 : ¬ (s.size : Int) ≤ (i : Int) + 1 := by omega
          clear h1 h3
          go_enter Tryz.func65, Tryz.ntmps65
          go_wp2_with fail
          go_ret
          exact ⟨by rw [HV.out]; rfl, rfl⟩
      · have HV : Hid (Tok.colon s.data.toList i = true) := by
          show _ = _; rw [HC.out, decide_eq_true (⟨h0, h1⟩ : ∃ h : i < s.size, _), decide_eq_false (fun ⟨h, _⟩ => h2 h)]; rfl
        have t1 : (((s[i]'h0).toNat : Int) == 58) = true := by simpa using h1
        have t3 : (s.size : Int) ≤ (i : Int) + 1 := by omega
        clear h1
        go_enter Tryz.func65, Tryz.ntmps65
        go_wp2_with fail
        go_ret
        exact ⟨by rw [HV.out]; rfl, rfl⟩
    · have HV : Hid (Tok.colon s.data.toList i = false) := by
        show _ = _; rw [HC.out, decide_eq_false (fun ⟨_, h⟩ => h1 h)]; rfl
      have t1 : (((s[i]'h0).toNat : Int) == 58) = false := by simpa using h1
      clear h1
      go_enter Tryz.func65, Tryz.ntmps65
      go_wp2_with fail
      go_ret
      exact ⟨by rw [HV.out]; rfl, rfl⟩
  · have HV : Hid (Tok.colon s.data.toList i = false) := by
      show _ = _; rw [HC.out, decide_eq_false (fun ⟨h, _⟩ => h0 h)]; rfl
    have t3 : ¬ (i : Int) < (s.size : Int) := by omega
    go_enter Tryz.func65, Tryz.ntmps65
    go_wp2_with fail
    go_ret
    exact ⟨by rw [HV.out]; rfl, rfl⟩
end Go.Proofs.YtamjfbjkdicmcaaGreatDoor.SpecTok
