/-
  spec.FormatInt answers the decimal form of every integer, and writes nothing that was there.
-/
import Derived.Test.YtkmclgofghaeoaaGreatBMark
import Derived.Test.YtkmclgofghaeoaaGreatBRead
import Derived.Test.YtkmclgofghaeoaaGreatRows
import Derived.WalkKit
import Derived.WalkSpells
import Derived.Outline
import Derived.Lib.Hide
namespace Go.Proofs.YtkmclgofghaeoaaGreat.SpecFmt
open Go.RowKit
set_option maxHeartbeats 400000 in
theorem fmt_pos (n : Int) (w : World) (h1 : 0 < n) (h2 : n ≤ 9223372036854775807) :
    Calls Tryz.prog 106 #[.int .i64 n] w fun e w' => e = .returned (.string ⟨(Num.intText n).toArray⟩) ∧ Below w.heap.size w w' := by
  have hb : (n == 0) = false := by simp; omega
  have hn : decide (n < 0) = false := by simp; omega
  have hcv := Kit.conv1
  go_enter Tryz.func106, Tryz.ntmps106
  go_wp2_with fail
  go_loopw [0, 4] (fun t s wr => ∃ (m : Nat) (l : List UInt8), (m : Int) ≤ n ∧ l.length ≤ 20 ∧ t = .int .i64 m ∧ s = .string ⟨l.toArray⟩ ∧ Num.decN m ++ l = Num.decN n.natAbs ∧ Below w.heap.size w wr)
    (fun t _ _ => (intOf t).toNat)
  case atStart => exact ⟨n.natAbs, [], by omega, by simp, by congr 1; omega, rfl, by simp, Below.refl _ _⟩
  case round =>
    obtain ⟨m, l, hm, hl, rfl, rfl, hd, hbl⟩ := hrel
    have HD := Lib.hid hd; clear hd
    by_cases hz : m = 0
    · subst hz
      go_wp2_with fail
      go_ret
      exact ⟨by rw [Num.intText_pos n h1, ← HD.out, Num.decN_zero]; rfl, hbl⟩
    · have hz' : ((m : Int) == 0) = false := by simp; omega
      have hz2 : ((m : Int) != 0) = true := by simp; omega
      have hmd : ¬ ((m : Int) % 10 < 0) := by omega
      have hz3 : m ≤ 18446744073709551615 := by omega
      go_wp2_with fail
      go_roundw
      case rel =>
        have HE := Num.step_in m l _ (by omega) hz3 HD.out
        exact ⟨m / 10, _, by omega, Num.suffix_len _ _ _ HE, by go_num, by rw [ByteArray.mk_append_mk]; rfl, HE, hbl.alloc (by have := hbl.size; omega) _⟩
      case measure => simp [intOf]; omega
theorem tmod_neg (m : Nat) : (-(m : Int)).tmod 10 = -((m : Int) % 10) := by
  rw [Int.neg_tmod, Int.tmod_eq_emod_of_nonneg (by omega)]
theorem tdiv_neg (m : Nat) : (-(m : Int)).tdiv 10 = -((m : Int) / 10) := by
  rw [Int.neg_tdiv, Int.tdiv_eq_ediv_of_nonneg (by omega)]
set_option maxHeartbeats 400000 in
theorem fmt_neg (n : Int) (w : World) (h1 : n < 0) (h2 : -9223372036854775808 ≤ n) :
    Calls Tryz.prog 106 #[.int .i64 n] w fun e w' => e = .returned (.string ⟨(Num.intText n).toArray⟩) ∧ Below w.heap.size w w' := by
  have hb : (n == 0) = false := by simp; omega
  have hn : decide (n < 0) = true := by simp; omega
  have hcv := Kit.conv1
  go_enter Tryz.func106, Tryz.ntmps106
  go_wp2_with fail
  go_loopw [0, 4] (fun t s wr => ∃ (m : Nat) (l : List UInt8), n ≤ -(m : Int) ∧ l.length ≤ 20 ∧ t = .int .i64 (-(m : Int)) ∧ s = .string ⟨l.toArray⟩ ∧ Num.decN m ++ l = Num.decN n.natAbs ∧ Below w.heap.size w wr)
    (fun t _ _ => (-(intOf t)).toNat)
  case atStart => exact ⟨n.natAbs, [], by omega, by simp, by congr 1; omega, rfl, by simp, Below.refl _ _⟩
  case round =>
    obtain ⟨m, l, hm, hl, rfl, rfl, hd, hbl⟩ := hrel
    have HD := Lib.hid hd; clear hd
    by_cases hz : m = 0
    · subst hz
      go_wp2_with fail
      go_ret
      exact ⟨by rw [Num.intText_neg n h1, ← HD.out, Num.decN_zero]; rfl, hbl⟩
    · have hz' : (-(m : Int) == 0) = false := by simp; omega
      have hz2 : (-(m : Int) != 0) = true := by simp; omega
      have hz3 : m ≤ 18446744073709551615 := by omega
      have htm := tmod_neg m
      have htd := tdiv_neg m
      by_cases h10 : -((m : Int) % 10) < 0
      · go_wp2_with fail
        go_roundw
        case rel =>
          have HE := Num.step_in m l _ (by omega) hz3 HD.out
          exact ⟨m / 10, _, by omega, Num.suffix_len _ _ _ HE, by go_num, by rw [ByteArray.mk_append_mk]; rfl, HE, hbl.alloc (by have := hbl.size; omega) _⟩
        case measure => simp [intOf]; omega
      · go_wp2_with fail
        go_roundw
        case rel =>
          have HE := Num.step_in0 m l _ (by omega) hz3 (by omega) HD.out
          exact ⟨m / 10, _, by omega, Num.suffix_len _ _ _ HE, by go_num, by rw [ByteArray.mk_append_mk]; rfl, HE, hbl.alloc (by have := hbl.size; omega) _⟩
        case measure => simp [intOf]; omega
set_option maxHeartbeats 400000 in
theorem fmt_zero (w : World) :
    Calls Tryz.prog 106 #[.int .i64 0] w fun e w' => e = .returned (.string ⟨(Num.intText 0).toArray⟩) ∧ Below w.heap.size w w' := by
  go_enter Tryz.func106, Tryz.ntmps106
  go_wp2_with fail
  go_ret
  exact ⟨rfl, Below.refl _ _⟩
theorem fmt_any (n : Int) (w : World) (h1 : -9223372036854775808 ≤ n) (h2 : n ≤ 9223372036854775807) :
    Calls Tryz.prog 106 #[.int .i64 n] w fun e w' => e = .returned (.string ⟨(Num.intText n).toArray⟩) ∧ Below w.heap.size w w' := by
  by_cases h0 : n = 0
  · subst h0; exact fmt_zero w
  · by_cases hp : 0 < n
    · exact fmt_pos n w hp h2
    · exact fmt_neg n w (by omega) h1
end Go.Proofs.YtkmclgofghaeoaaGreat.SpecFmt
