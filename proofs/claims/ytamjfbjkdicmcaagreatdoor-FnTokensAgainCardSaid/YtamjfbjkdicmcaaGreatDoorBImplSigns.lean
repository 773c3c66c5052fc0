/-
  impl's binary operators, the first one of a list with which a text begins, and whether a text is an operator. They write nothing that was there.
-/
import Derived.Test.YtamjfbjkdicmcaaGreatDoorBCutting
import Derived.Test.YtamjfbjkdicmcaaGreatDoorBImplTok
import Derived.Deep.RegionHeld3
namespace Go.Proofs.YtamjfbjkdicmcaaGreatDoor.ImplSigns
open Go.RowKit
open Strs
def List (xs : _root_.List ByteArray) (w : World) (e : Ending) (w' : World) : Prop := ∃ a c, e = .returned (.slice a xs.length c) ∧ At w' (.slice a xs.length c) xs ∧ Below w.heap.size w w'
theorem list_at (w : World) (C : Array Value) (xs : _root_.List ByteArray) (n : Nat) (hn : xs.length = n) (hm : n ≤ 1048576) (hC : ∀ j, j < n → C[j]? = some (.string (xs.getD j ByteArray.empty))) :
    List xs w (.returned (.slice (some ⟨w.heap.size, 0, none⟩) n n)) (w.alloc (.cells C 9)) := by
  subst hn
  refine ⟨_, _, rfl, ⟨_, _, rfl, by unfold maxLen; omega, fun _ => ⟨_, 0, rfl, fun j hj => ?_⟩⟩, (Below.refl _ _).alloc (Nat.le_refl _) _⟩
  rw [Nat.zero_add, World.cell?_alloc_mark w _ _ (0, 0) j]
  exact hC j hj
theorem binaries_any (w : World) : Calls Tryz.prog 59 #[] w (List Tok.binaries w) := by
  go_enter Tryz.func59, Tryz.ntmps59
  go_wp2
  go_ret
  refine list_at w _ Tok.binaries 15 rfl (by omega) (fun j hj => ?_)
  obtain rfl | rfl | rfl | rfl | rfl | rfl | rfl | rfl | rfl | rfl | rfl | rfl | rfl | rfl | rfl : j = 0 ∨ j = 1 ∨ j = 2 ∨ j = 3 ∨ j = 4 ∨ j = 5 ∨ j = 6 ∨ j = 7 ∨ j = 8 ∨ j = 9 ∨ j = 10 ∨ j = 11 ∨ j = 12 ∨ j = 13 ∨ j = 14 := by omega
  all_goals rfl
theorem prefix_is (s x : ByteArray) : Lib.hasPrefix s.data.toList x.data.toList = Tok.begins s 0 x := by
  rw [Tok.begins_prefix s 0 x (Nat.zero_le _), _root_.List.drop_zero]; rfl
set_option maxHeartbeats 2000000 in
theorem sign_any (s : ByteArray) (v : Value) (xs : _root_.List ByteArray) (w : World) (h : At w v xs) :
    Calls Tryz.prog 58 #[.string s, v] w fun e w' => e = .returned (.string (Tok.starts s 0 xs)) ∧ w = w' := by
  obtain ⟨a, cap, rfl, hm, hc⟩ := h
  unfold maxLen at hm
  have HC := Lib.hid hc; clear hc
  have KP := fun x w => Lib.hid (Shelf.strings_HasPrefix s x w)
  simp only [prefix_is] at KP
  generalize hn : xs.length = n at *
  have HN := Lib.hid hn; clear hn
  go_enter Tryz.func58, Tryz.ntmps58
  go_wp2_with fail
  go_loop [9] (fun j => ∃ i : Nat, i ≤ n ∧ j = .int .i64 i ∧ ∀ k (hk : k < xs.length), k < i → Tok.begins s 0 xs[k] = false) (fun j => n - (intOf j).toNat)
  case atStart => exact ⟨0, by omega, rfl, fun k hk h => by omega⟩
  case round =>
    obtain ⟨i, hi, rfl, hno⟩ := hrel
    have HNO := Lib.hid hno; clear hno
    by_cases hlt : i < n
    · obtain ⟨b, off, rfl, hcell⟩ := HC.out (by omega)
      have hil : i < xs.length := by rw [HN.out]; exact hlt
      have hci := hcell i hlt
      have HX : Hid (xs.getD i ByteArray.empty = xs[i]) := by show _ = _; simp [_root_.List.getD, hil]
      rw [HX.out] at hci
      clear hcell
      have HF : Hid (Tok.begins s 0 xs[i] = false → ∀ k (hk : k < xs.length), k < i + 1 → Tok.begins s 0 xs[k] = false) := by
        intro hf k hk h1
        by_cases h2 : k = i
        · subst h2; exact hf
        · exact HNO.out k hk (by omega)
      have HT : Hid (Tok.begins s 0 xs[i] = true → Tok.starts s 0 xs = xs[i]) := fun hb => Tok.starts_at s 0 xs i hil hb fun j hj h => HNO.out j hj h
      clear HX
      generalize xs[i] = x at *
      cases he : Tok.begins s 0 x with
      | true =>
        have KX := fun w => KP x w
        rw [he] at KX
        have HR := Lib.hid (HT.out he)
        clear he
        go_wp2_with fail
        refine (KX _).out.mono ?_
        rintro e w1 ⟨rfl, rfl⟩
        go_wp2_with fail
        go_ret
        exact ⟨by rw [HR.out]; rfl, rfl⟩
      | false =>
        have KX := fun w => KP x w
        rw [he] at KX
        have HR := Lib.hid (HF.out he)
        clear he
        go_wp2_with fail
        refine (KX _).out.mono ?_
        rintro e w1 ⟨rfl, rfl⟩
        go_wp2_with fail
        go_round
        case rel => exact ⟨i + 1, by omega, by go_num, HR.out⟩
        case measure => simp [intOf]; omega
    · have HR : Hid (Tok.starts s 0 xs = ByteArray.empty) := Tok.starts_not s 0 xs fun j hj => HNO.out j hj (by have := HN.out; omega)
      go_wp2_with fail
      go_ret
      exact ⟨by rw [HR.out]; rfl, rfl⟩
theorem is_operator (s : ByteArray) (w : World) :
    Calls Tryz.prog 93 #[.string s] w (ImplTok.Part (Tok.has Tok.binaries s) w) := by
  have HV := Lib.hid (Tok.op_is s)
  have KS := fun v w h => Lib.hid (sign_any s v Tok.binaries w h)
  by_cases h0 : s.data.toList = []
  · have hne : (s.toList == []) = true := by rw [ByteArray.toList_eq, h0]; rfl
    have HE : Hid (Tok.has Tok.binaries s = false) := by show _ = _; rw [HV.out, h0]; rfl
    clear h0 HV
    go_enter Tryz.func93, Tryz.ntmps93
    go_wp2_with fail
    go_ret
    exact ⟨by rw [HE.out]; rfl, Below.refl _ _⟩
  · have hne : (s.toList == []) = false := by rw [ByteArray.toList_eq, beq_eq_false_iff_ne]; exact h0
    have HE : Hid (Tok.has Tok.binaries s = ((Tok.starts s 0 Tok.binaries).toList == s.toList)) := by
      show _ = _
      rw [HV.out]
      have : s.data.toList.isEmpty = false := by rw [← Bool.not_eq_true, _root_.List.isEmpty_iff]; exact h0
      rw [this]; rfl
    clear h0 HV
    generalize Tok.starts s 0 Tok.binaries = x at *
    go_enter Tryz.func93, Tryz.ntmps93
    go_wp2_with fail
    refine (binaries_any _).mono ?_
    rintro e w1 ⟨a, c, rfl, hat, hb1⟩
    go_wp2_with fail
    refine (KS _ _ hat).out.mono ?_
    rintro e w2 ⟨rfl, rfl⟩
    go_wp2_with fail
    go_ret
    exact ⟨by rw [HE.out]; rfl, hb1⟩
end Go.Proofs.YtamjfbjkdicmcaaGreatDoor.ImplSigns
