/-
  Plain mathematics: the parts of a text between the occurrences of a byte. Nothing of the program is named here.
  impl.SplitByte answers the parts of a text between the occurrences of a byte, in a row of its own, and writes nothing that was there.
-/
import Derived.Test.YtamjfbjkdicmcaaGreatDoorBKit
import Derived.Test.YtamjfbjkdicmcaaGreatDoorRows
import Derived.WalkKit
import Derived.WalkSpells
import Derived.Outline
import Derived.Lib.Hide
namespace Go.Proofs.YtamjfbjkdicmcaaGreatDoor.Cuts
def cuts (s : ByteArray) (b : Int) : Nat → List ByteArray × Nat
  | 0 => ([], 0)
  | i + 1 => if h : i < s.size then (if ((s[i]'h).toNat : Int) = b then ((cuts s b i).1 ++ [s.extract (cuts s b i).2 i], i + 1) else cuts s b i) else cuts s b i
theorem cuts_hit (s : ByteArray) (b : Int) (i : Nat) (h : i < s.size) (hb : ((s[i]'h).toNat : Int) = b) : cuts s b (i + 1) = ((cuts s b i).1 ++ [s.extract (cuts s b i).2 i], i + 1) := by
  rw [cuts, dif_pos h, if_pos hb]
theorem cuts_miss (s : ByteArray) (b : Int) (i : Nat) (h : i < s.size) (hb : ¬ ((s[i]'h).toNat : Int) = b) : cuts s b (i + 1) = cuts s b i := by
  rw [cuts, dif_pos h, if_neg hb]
theorem cuts_le (s : ByteArray) (b : Int) (i : Nat) : (cuts s b i).2 ≤ i ∧ (cuts s b i).1.length ≤ i := by
  induction i with
  | zero => exact ⟨Nat.le_refl _, Nat.le_refl _⟩
  | succ i ih =>
    rw [cuts]
    split
    · split
      · simp; omega
      · omega
    · omega
def parts (s : ByteArray) (b : Int) : List ByteArray := (cuts s b s.size).1 ++ [s.extract (cuts s b s.size).2 s.size]
theorem parts_len (s : ByteArray) (b : Int) : 1 ≤ (parts s b).length ∧ (parts s b).length ≤ s.size + 1 := by
  have := (cuts_le s b s.size).2
  unfold parts; simp; exact this
end Go.Proofs.YtamjfbjkdicmcaaGreatDoor.Cuts

namespace Go.Proofs.YtamjfbjkdicmcaaGreatDoor.ImplSplit
open Go.RowKit
theorem info9 : (Tryz.prog.info? 9).map (fun i => (i.zero, i.size, i.bytes)) = some (some (.string ByteArray.empty), 1, 16) := by kernel_rfl
def Made (w : World) (xs : List ByteArray) (e : Ending) (w' : World) : Prop :=
  ∃ v, e = .returned v ∧ w'.ownsRow w.heap.size 9 1 v xs.length (xs.map Value.string) ∧ Below w.heap.size w w'
set_option maxHeartbeats 1000000 in
theorem split_any (s : ByteArray) (b : Int) (w : World) (hs : s.size ≤ 1048576) :
    Calls Tryz.prog 96 #[.string s, .int .u8 b] w (Made w (Cuts.parts s b)) := by
  obtain ⟨i0, hi, hz0, hz1, hz2⟩ := info_parts info9
  go_enter Tryz.func96, Tryz.ntmps96
  go_wp2_with fail
  go_loopw [5, 6, 10] (fun v f j wr => ∃ i : Nat, i ≤ s.size ∧ j = .int .i64 i ∧ f = .int .i64 ((Cuts.cuts s b i).2 : Nat) ∧
      wr.ownsRow w.heap.size 9 1 v (Cuts.cuts s b i).1.length ((Cuts.cuts s b i).1.map Value.string) ∧ Below w.heap.size w wr)
    (fun _ _ j _ => s.size - (intOf j).toNat)
  case atStart => exact ⟨0, Nat.zero_le _, rfl, rfl, World.ownsRow_nil _ _ _ _, Below.refl _ _⟩
  case round =>
    obtain ⟨i, hi', rfl, rfl, hown, hbw⟩ := hrel
    have hle := Cuts.cuts_le s b i
    by_cases hlt : i < s.size
    · by_cases hb : ((s[i]'hlt).toNat : Int) = b
      · have HH := Lib.hid (Cuts.cuts_hit s b i hlt hb)
        have hbb : (((s[i]'hlt).toNat : Int) == b) = true := by simpa using hb
        clear hb
        obtain ⟨hf1, hl1⟩ := hle
        generalize (Cuts.cuts s b i).2 = f at *
        generalize (Cuts.cuts s b i).1 = xs at *
        go_wp2_with (at_builtin; refine wpList_append_own _ rfl _ _ 28 rfl w.heap.size 9 i0 (.string ByteArray.empty) 1 16 Tryz.underlying28 hi hz0 hz1 hz2 rfl (by decide) _ _ _ rfl (hown.alloc _) ⟨wr.heap.size, 0, none⟩ 1 1 [.string (s.extract f i)] rfl rfl ?c1 ?c2 ?c3 ?c4 ?c5 ?_)
        case c1 => exact Kit.one_cells _ _ _
        case c2 => exact Kit.one_str _
        case c3 => unfold maxLen; omega
        case c4 => omega
        case c5 => have := hbw.size; simp; omega
        intro v' w1 hown' hgr _
        have hb1 := Kit.app_below (Nat.le_refl _) hbw hown hgr
        clear hgr hown
        go_wp2_with fail
        go_roundw
        case rel => exact ⟨i + 1, by omega, by go_num, by rw [HH.out]; go_num, by rw [HH.out]; simpa using hown', hb1⟩
        case measure => simp [intOf]; omega
      · have HH := Lib.hid (Cuts.cuts_miss s b i hlt hb)
        have hbb : (((s[i]'hlt).toNat : Int) == b) = false := by simpa using hb
        clear hb
        go_wp2_with fail
        go_roundw
        case rel => exact ⟨i + 1, by omega, by go_num, by rw [HH.out], by rw [HH.out]; exact hown, hbw⟩
        case measure => simp [intOf]; omega
    · have HP : Hid (Cuts.parts s b = (Cuts.cuts s b i).1 ++ [s.extract (Cuts.cuts s b i).2 s.size]) := by
        have : i = s.size := by omega
        subst this; rfl
      obtain ⟨hf1, hl1⟩ := hle
      have hf2 : (Cuts.cuts s b i).2 ≤ s.size := by omega
      generalize (Cuts.cuts s b i).2 = f at *
      generalize (Cuts.cuts s b i).1 = xs at *
      go_wp2_with (at_builtin; refine wpList_append_own _ rfl _ _ 28 rfl w.heap.size 9 i0 (.string ByteArray.empty) 1 16 Tryz.underlying28 hi hz0 hz1 hz2 rfl (by decide) _ _ _ rfl (hown.alloc _) ⟨wr.heap.size, 0, none⟩ 1 1 [.string (s.extract f s.size)] rfl rfl ?c1 ?c2 ?c3 ?c4 ?c5 ?_)
      case c1 => exact Kit.one_cells _ _ _
      case c2 => exact Kit.one_str _
      case c3 => unfold maxLen; omega
      case c4 => omega
      case c5 => have := hbw.size; simp; omega
      intro v' w1 hown' hgr _
      have hb1 := Kit.app_below (Nat.le_refl _) hbw hown hgr
      clear hgr hown
      go_wp2_with fail
      go_ret
      exact ⟨v', rfl, by rw [HP.out]; simpa using hown', hb1⟩
end Go.Proofs.YtamjfbjkdicmcaaGreatDoor.ImplSplit
