/-
  spec.l2Starts answers the first text of a list with which a text goes on at a place. It writes nothing that was there.
-/
import Derived.Test.YtamjfbjkdicmcaaGreatDoorBSpecColon
import Derived.Test.YtamjfbjkdicmcaaGreatDoorBSpecTok
namespace Go.Proofs.YtamjfbjkdicmcaaGreatDoor.SpecStarts
open Go.RowKit
open Strs SpecTok
set_option maxHeartbeats 2000000 in
theorem starts_any (s : ByteArray) (A : Int) (p : Nat) (v : Value) (xs : _root_.List ByteArray) (w : World) (hA : A = p) (hp : p ≤ s.size) (hs : s.size ≤ 1048576) (hx : xs.length ≤ 1048576) (hsz : ∀ x ∈ xs, x.size ≤ 1048576) (h : At w v xs) :
    Calls Tryz.prog 32 #[.string s, .int .i64 A, v] w fun e w' => e = .returned (.string (Tok.starts s p xs)) ∧ Below w.heap.size w w' := by
  subst hA
  obtain ⟨a, cap, rfl, hm, hc⟩ := h
  have HC := Lib.hid hc; clear hc
  have HSZ := Lib.hid hsz; clear hsz
  generalize hn : xs.length = n at *
  have HN := Lib.hid hn; clear hn
  go_enter Tryz.func32, Tryz.ntmps32
  go_wp2_with fail
  go_loopw [7] (fun j wr => ∃ i : Nat, i ≤ n ∧ j = .int .i64 i ∧ (∀ k (hk : k < xs.length), k < i → Tok.begins s p xs[k] = false) ∧ Below w.heap.size w wr) (fun j _ => n - (intOf j).toNat)
  case atStart => exact ⟨0, by omega, rfl, fun k hk h => by omega, Below.refl _ _⟩
  case round =>
    obtain ⟨i, hi, rfl, hno, hbw⟩ := hrel
    have HNO := Lib.hid hno; clear hno
    by_cases hlt : i < n
    · obtain ⟨b, off, rfl, hcell⟩ := HC.out (by omega)
      have hil : i < xs.length := by rw [HN.out]; exact hlt
      have hci := cell_keep hbw (hcell i hlt)
      have HX : Hid (xs.getD i ByteArray.empty = xs[i]) := by show _ = _; simp [_root_.List.getD, hil]
      rw [HX.out] at hci
      clear hcell HX
      have hxs : xs[i].size ≤ 1048576 := HSZ.out _ (_root_.List.getElem_mem hil)
      have HF : Hid (Tok.begins s p xs[i] = false → ∀ k (hk : k < xs.length), k < i + 1 → Tok.begins s p xs[k] = false) := by
        intro hf k hk h1
        by_cases h2 : k = i
        · subst h2; exact hf
        · exact HNO.out k hk (by omega)
      have HT : Hid (Tok.begins s p xs[i] = true → Tok.starts s p xs = xs[i]) := fun hb => Tok.starts_at s p xs i hil hb fun j hj h => HNO.out j hj h
      generalize xs[i] = x at *
      by_cases hle : (p : Int) + (x.size : Int) ≤ (s.size : Int)
      · by_cases he : ((s.extract p (p + x.size)).toList == x.toList) = true
        · have HB : Hid (Tok.begins s p x = true) := by show _ = _; unfold Tok.begins; rw [he, decide_eq_true (show p + x.size ≤ s.size by omega)]; rfl
          go_wp2_with fail
          go_quiet (fail)
          go_wp2_with fail
          go_ret
          exact ⟨by rw [HT.out HB.out]; rfl, below_drewN hbw _⟩
        · rw [Bool.not_eq_true] at he
          have HB : Hid (Tok.begins s p x = false) := by show _ = _; unfold Tok.begins; rw [he]; simp
          go_wp2_with fail
          go_quiet (fail)
          go_wp2_with fail
          go_roundw
          case rel => exact ⟨i + 1, by omega, by go_num, HF.out HB.out, below_drewN hbw _⟩
          case measure => simp [intOf]; omega
      · have hd : decide ((p : Int) + (x.size : Int) ≤ (s.size : Int)) = false := by simpa using hle
        have HB : Hid (Tok.begins s p x = false) := by show _ = _; unfold Tok.begins; rw [decide_eq_false (show ¬ p + x.size ≤ s.size by omega)]; rfl
        go_wp2_with fail
        go_quiet (fail)
        go_wp2_with fail
        go_roundw
        case rel => exact ⟨i + 1, by omega, by go_num, HF.out HB.out, below_drewN hbw _⟩
        case measure => simp [intOf]; omega
    · have HR : Hid (Tok.starts s p xs = ByteArray.empty) := Tok.starts_not s p xs fun j hj => HNO.out j hj (by have := HN.out; omega)
      go_wp2_with fail
      go_ret
      exact ⟨by rw [HR.out]; rfl, hbw⟩
end Go.Proofs.YtamjfbjkdicmcaaGreatDoor.SpecStarts
