/-
  impl.SplitByte answers the parts of a text between the occurrences of a byte, in a row of its own, and writes nothing that was there.
-/
import Derived.Test.YtfceglooifbljaaDoorRows
import Derived.Test.YtfceglooifbljaaDoorCuts
import Derived.Test.YtfceglooifbljaaDoorKit
import Derived.WalkKit
import Derived.WalkSpells
import Derived.Outline
import Derived.Lib.Hide
namespace Go.Proofs.YtfceglooifbljaaDoor.ImplSplit
open Go.RowKit
theorem info9 : (Tryd.prog.info? 9).map (fun i => (i.zero, i.size, i.bytes)) = some (some (.string ByteArray.empty), 1, 16) := by kernel_rfl

/-- What the call hands back: a row of its own that holds the texts xs. -/
def Made (w : World) (xs : List ByteArray) (e : Ending) (w' : World) : Prop :=
  ∃ v, e = .returned v ∧ w'.ownsRow w.heap.size 9 1 v xs.length (xs.map Value.string) ∧ Below w.heap.size w w'

set_option maxHeartbeats 1000000 in
theorem split_any (s : ByteArray) (b : Int) (w : World) (hs : s.size ≤ 1048576) :
    Calls Tryd.prog 80 #[.string s, .int .u8 b] w (Made w (Cuts.parts s b)) := by
  obtain ⟨i0, hi, hz0, hz1, hz2⟩ := info_parts info9
  go_enter Tryd.func80, Tryd.ntmps80
  go_wp2_with fail
  go_loopw [5, 6, 10] (fun v f j wr => ∃ i : Nat, i ≤ s.size ∧ j = .int .i64 i ∧ f = .int .i64 ((Cuts.cuts s b i).2 : Nat) ∧
      wr.ownsRow w.heap.size 9 1 v (Cuts.cuts s b i).1.length ((Cuts.cuts s b i).1.map Value.string) ∧ Below w.heap.size w wr)
    (fun _ _ j _ => s.size - (intOf j).toNat)
  case atStart => exact ⟨0, Nat.zero_le _, rfl, rfl, World.ownsRow_nil _ _ _ _, Below.refl _ _⟩
  case round =>
    obtain ⟨i, hi', rfl, rfl, hown, hbw⟩ := hrel
    have hle := Cuts.cuts_le s b i
    by_cases hlt : i < s.size
    · by_cases hb : ((s[i]'hlt).toNat : Int) = b
      · have HH := Lib.hid (Cuts.cuts_hit s b i hlt hb)
        have hbb : (((s[i]'hlt).toNat : Int) == b) = true := by simpa using hb
        clear hb
        obtain ⟨hf1, hl1⟩ := hle
        generalize (Cuts.cuts s b i).2 = f at *
        generalize (Cuts.cuts s b i).1 = xs at *
        go_wp2_with (at_builtin; refine wpList_append_own _ rfl _ _ 38 rfl w.heap.size 9 i0 (.string ByteArray.empty) 1 16 Tryd.underlying38 hi hz0 hz1 hz2 rfl (by decide) _ _ _ rfl (hown.alloc _) ⟨wr.heap.size, 0, none⟩ 1 1 [.string (s.extract f i)] rfl rfl ?c1 ?c2 ?c3 ?c4 ?c5 ?_)
        case c1 => exact Kit.one_cells _ _ _
        case c2 => exact Kit.one_str _
        case c3 => unfold maxLen; omega
        case c4 => omega
        case c5 => have := hbw.size; simp; omega
        intro v' w1 hown' hgr _
        have hb1 := Kit.app_below (Nat.le_refl _) hbw hown hgr
        clear hgr hown
        go_wp2_with fail
        go_roundw
        case rel => exact ⟨i + 1, by omega, by go_num, by rw [HH.out]; go_num, by rw [HH.out]; simpa using hown', hb1⟩
        case measure => simp [intOf]; omega
      · have HH := Lib.hid (Cuts.cuts_miss s b i hlt hb)
        have hbb : (((s[i]'hlt).toNat : Int) == b) = false := by simpa using hb
        clear hb
        go_wp2_with fail
        go_roundw
        case rel => exact ⟨i + 1, by omega, by go_num, by rw [HH.out], by rw [HH.out]; exact hown, hbw⟩
        case measure => simp [intOf]; omega
    · have HP : Hid (Cuts.parts s b = (Cuts.cuts s b i).1 ++ [s.extract (Cuts.cuts s b i).2 s.size]) := by
        have : i = s.size := by omega
        subst this; rfl
      obtain ⟨hf1, hl1⟩ := hle
      have hf2 : (Cuts.cuts s b i).2 ≤ s.size := by omega
      generalize (Cuts.cuts s b i).2 = f at *
      generalize (Cuts.cuts s b i).1 = xs at *
      go_wp2_with (at_builtin; refine wpList_append_own _ rfl _ _ 38 rfl w.heap.size 9 i0 (.string ByteArray.empty) 1 16 Tryd.underlying38 hi hz0 hz1 hz2 rfl (by decide) _ _ _ rfl (hown.alloc _) ⟨wr.heap.size, 0, none⟩ 1 1 [.string (s.extract f s.size)] rfl rfl ?c1 ?c2 ?c3 ?c4 ?c5 ?_)
      case c1 => exact Kit.one_cells _ _ _
      case c2 => exact Kit.one_str _
      case c3 => unfold maxLen; omega
      case c4 => omega
      case c5 => have := hbw.size; simp; omega
      intro v' w1 hown' hgr _
      have hb1 := Kit.app_below (Nat.le_refl _) hbw hown hgr
      clear hgr hown
      go_wp2_with fail
      go_ret
      exact ⟨v', rfl, by rw [HP.out]; simpa using hown', hb1⟩
end Go.Proofs.YtfceglooifbljaaDoor.ImplSplit
