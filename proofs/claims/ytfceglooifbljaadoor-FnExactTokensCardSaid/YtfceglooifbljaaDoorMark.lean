/-
  laws.markText answers the mark of a positive number, and writes nothing that was there.
-/
import Derived.Test.YtfceglooifbljaaDoorRows
import Derived.Test.YtfceglooifbljaaDoorNum
import Derived.Test.YtfceglooifbljaaDoorKit
import Derived.WalkKit
import Derived.WalkSpells
import Derived.Outline
import Derived.Lib.Hide
namespace Go.Proofs.YtfceglooifbljaaDoor.Mark
open Go.RowKit
def mark (n : Int) : ByteArray := ⟨(109 :: Num.decN n.natAbs).toArray⟩
set_option maxHeartbeats 400000 in
theorem mark_any (n : Int) (w : World) (h1 : 0 < n) (h2 : n ≤ 9223372036854775807) :
    Calls Tryd.prog 13 #[.int .i64 n] w fun e w' => e = .returned (.string (mark n)) ∧ Below w.heap.size w w' := by
  have hn : decide (n ≤ 0) = false := by simp; omega
  have hcv := Kit.conv1
  go_enter Tryd.func13, Tryd.ntmps13
  go_wp2_with fail
  go_loopw [0, 3] (fun t s wr => ∃ (m : Nat) (l : List UInt8), (m : Int) ≤ n ∧ l.length ≤ 20 ∧ t = .int .i64 m ∧ s = .string ⟨l.toArray⟩ ∧ Num.decN m ++ l = Num.decN n.natAbs ∧ Below w.heap.size w wr)
    (fun t _ _ => (intOf t).toNat)
  case atStart => exact ⟨n.natAbs, [], by omega, by simp, by congr 1; omega, rfl, by simp, Below.refl _ _⟩
  case round =>
    obtain ⟨m, l, hm, hl, rfl, rfl, hd, hbl⟩ := hrel
    have HD := Lib.hid hd; clear hd
    by_cases hz : m = 0
    · subst hz
      go_wp2_with fail
      go_ret
      exact ⟨by unfold mark; rw [← HD.out, Num.decN_zero, ByteArray.mk_append_mk]; rfl, hbl⟩
    · have hz' : (0 : Int) < (m : Int) := by omega
      have hmd : ¬ ((m : Int) % 10 < 0) := by omega
      have hz3 : m ≤ 18446744073709551615 := by omega
      go_wp2_with fail
      go_roundw
      case rel =>
        have HE := Num.step_in m l _ (by omega) hz3 HD.out
        exact ⟨m / 10, _, by omega, Num.suffix_len _ _ _ HE, by go_num, by rw [ByteArray.mk_append_mk]; rfl, HE, hbl.alloc (by have := hbl.size; omega) _⟩
      case measure => simp [intOf]; omega

end Go.Proofs.YtfceglooifbljaaDoor.Mark
