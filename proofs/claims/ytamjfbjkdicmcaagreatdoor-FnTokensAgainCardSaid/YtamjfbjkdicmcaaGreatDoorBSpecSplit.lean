/-
  spec.SplitByte answers the parts of a text between the occurrences of a byte, in a row of its own, and writes nothing that was there.
-/
import Derived.Test.YtamjfbjkdicmcaaGreatDoorBImplSplit
namespace Go.Proofs.YtamjfbjkdicmcaaGreatDoor.SpecSplit
open Go.RowKit
open ImplSplit
set_option maxHeartbeats 1000000 in
theorem split_any (s : ByteArray) (b : Int) (w : World) (hs : s.size ≤ 1048576) :
    Calls Tryz.prog 81 #[.string s, .int .u8 b] w (Made w (Cuts.parts s b)) := by
  obtain ⟨i0, hi, hz0, hz1, hz2⟩ := info_parts info9
  go_enter Tryz.func81, Tryz.ntmps81
  go_wp2_with fail
  go_loopw [5, 6, 7] (fun v f j wr => ∃ (i : Nat) (xs : List ByteArray) (k : Nat), i ≤ s.size + 1 ∧ (i ≤ s.size → Cuts.cuts s b i = (xs, k)) ∧ (i = s.size + 1 → Cuts.parts s b = xs) ∧ k ≤ i ∧ xs.length ≤ i ∧ j = .int .i64 i ∧ f = .int .i64 k ∧
      wr.ownsRow w.heap.size 9 1 v xs.length (xs.map Value.string) ∧ Below w.heap.size w wr)
    (fun _ _ j _ => s.size + 1 - (intOf j).toNat)
  case atStart =>
    exact ⟨0, [], 0, by omega, fun _ => rfl, fun h => by omega, by omega, by simp, rfl, rfl, World.ownsRow_lit w #[] 0 (Nat.le_refl _) (Nat.zero_le _) rfl, (Below.refl _ _).alloc (Nat.le_refl _) _⟩
  case round =>
    obtain ⟨i, xs, f, hi', hc, hp, hf, hl, rfl, rfl, hown, hbw⟩ := hrel
    have HC := Lib.hid hc; clear hc
    have HP := Lib.hid hp; clear hp
    by_cases hend : i = s.size + 1
    · have hgt : ¬ (i : Int) ≤ (s.size : Int) := by omega
      have HE := Lib.hid hend; clear hend
      go_wp2_with fail
      go_ret
      exact ⟨_, rfl, by rw [HP.out HE.out]; exact hown, hbw⟩
    · have hle : (i : Int) ≤ (s.size : Int) := by omega
      by_cases hlast : i = s.size
      · have he : ((i : Int) == (s.size : Int)) = true := by rw [beq_iff_eq]; omega
        have HN : Hid (Cuts.parts s b = xs ++ [s.extract f i]) := by
          have := HC.out (by omega)
          subst hlast
          show _ = _
          rw [Cuts.parts, this]
        have HL := Lib.hid hlast; clear hlast hend
        go_wp2_with (at_builtin; refine wpList_append_own _ rfl _ _ 28 rfl w.heap.size 9 i0 (.string ByteArray.empty) 1 16 Tryz.underlying28 hi hz0 hz1 hz2 rfl (by decide) _ _ _ rfl (hown.alloc _) ⟨wr.heap.size, 0, none⟩ 1 1 [.string (s.extract f i)] rfl rfl ?c1 ?c2 ?c3 ?c4 ?c5 ?_)
        case c1 => exact Kit.one_cells _ _ _
        case c2 => exact Kit.one_str _
        case c3 => unfold maxLen; omega
        case c4 => omega
        case c5 => have := hbw.size; simp; omega
        intro v' w1 hown' hgr _
        have hb1 := Kit.app_below (Nat.le_refl _) hbw hown hgr
        clear hgr hown
        go_wp2_with fail
        go_roundw
        case rel => exact ⟨i + 1, _, i + 1, by omega, fun h => by have := HL.out; omega, fun _ => HN.out, by omega, by simp; omega, by go_num, by go_num, by simpa using hown', hb1⟩
        case measure => simp [intOf]; have := HL.out; omega
      · have hlt : i < s.size := by omega
        have he : ((i : Int) == (s.size : Int)) = false := by rw [beq_eq_false_iff_ne]; omega
        clear hlast hend
        by_cases hb : ((s[i]'hlt).toNat : Int) = b
        · have HN : Hid (Cuts.cuts s b (i + 1) = (xs ++ [s.extract f i], i + 1)) := by
            show _ = _
            rw [Cuts.cuts_hit s b i hlt hb, HC.out (by omega)]
          have hbb : (((s[i]'hlt).toNat : Int) == b) = true := by simpa using hb
          clear hb
          go_wp2_with (at_builtin; refine wpList_append_own _ rfl _ _ 28 rfl w.heap.size 9 i0 (.string ByteArray.empty) 1 16 Tryz.underlying28 hi hz0 hz1 hz2 rfl (by decide) _ _ _ rfl (hown.alloc _) ⟨wr.heap.size, 0, none⟩ 1 1 [.string (s.extract f i)] rfl rfl ?c1 ?c2 ?c3 ?c4 ?c5 ?_)
          case c1 => exact Kit.one_cells _ _ _
          case c2 => exact Kit.one_str _
          case c3 => unfold maxLen; omega
          case c4 => omega
          case c5 => have := hbw.size; simp; omega
          intro v' w1 hown' hgr _
          have hb1 := Kit.app_below (Nat.le_refl _) hbw hown hgr
          clear hgr hown
          go_wp2_with fail
          go_roundw
          case rel => exact ⟨i + 1, _, i + 1, by omega, fun _ => HN.out, fun h => by omega, by omega, by simp; omega, by go_num, by go_num, by simpa using hown', hb1⟩
          case measure => simp [intOf]; omega
        · have HN : Hid (Cuts.cuts s b (i + 1) = (xs, f)) := by
            show _ = _
            rw [Cuts.cuts_miss s b i hlt hb, HC.out (by omega)]
          have hbb : (((s[i]'hlt).toNat : Int) == b) = false := by simpa using hb
          clear hb
          go_wp2_with fail
          go_roundw
          case rel => exact ⟨i + 1, _, f, by omega, fun _ => HN.out, fun h => by omega, by omega, by omega, by go_num, rfl, hown, hbw⟩
          case measure => simp [intOf]; omega
end Go.Proofs.YtamjfbjkdicmcaaGreatDoor.SpecSplit
