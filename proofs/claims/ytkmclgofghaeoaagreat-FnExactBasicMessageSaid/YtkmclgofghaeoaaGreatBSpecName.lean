/-
  spec.SplitByte answers the parts of a text between the occurrences of a byte, in a row of its own, and writes nothing that was there.
  spec.l2IsName, IsName, IsSelector and CountArgs: what they answer. They write nothing that was there.
-/
import Derived.Test.YtkmclgofghaeoaaGreatBImplSplit
import Derived.Test.YtkmclgofghaeoaaGreatBSpecTok
namespace Go.Proofs.YtkmclgofghaeoaaGreat.SpecSplit
open Go.RowKit
open ImplSplit
set_option maxHeartbeats 1000000 in
theorem split_any (s : ByteArray) (b : Int) (w : World) (hs : s.size ≤ 1048576) :
    Calls Tryz.prog 45 #[.string s, .int .u8 b] w (Made w (Cuts.parts s b)) := by
  obtain ⟨i0, hi, hz0, hz1, hz2⟩ := info_parts info9
  go_enter Tryz.func45, Tryz.ntmps45
  go_wp2_with fail
  go_loopw [5, 6, 7] (fun v f j wr => ∃ (i : Nat) (xs : List ByteArray) (k : Nat), i ≤ s.size + 1 ∧ (i ≤ s.size → Cuts.cuts s b i = (xs, k)) ∧ (i = s.size + 1 → Cuts.parts s b = xs) ∧ k ≤ i ∧ xs.length ≤ i ∧ j = .int .i64 i ∧ f = .int .i64 k ∧
      wr.ownsRow w.heap.size 9 1 v xs.length (xs.map Value.string) ∧ Below w.heap.size w wr)
    (fun _ _ j _ => s.size + 1 - (intOf j).toNat)
  case atStart =>
    exact ⟨0, [], 0, by omega, fun _ => rfl, fun h => by omega, by omega, by simp, rfl, rfl, World.ownsRow_lit w #[] 0 (Nat.le_refl _) (Nat.zero_le _) rfl, (Below.refl _ _).alloc (Nat.le_refl _) _⟩
  case round =>
    obtain ⟨i, xs, f, hi', hc, hp, hf, hl, rfl, rfl, hown, hbw⟩ := hrel
    have HC := Lib.hid hc; clear hc
    have HP := Lib.hid hp; clear hp
    by_cases hend : i = s.size + 1
    · have hgt : ¬ (i : Int) ≤ (s.size : Int) := by omega
      have HE := Lib.hid hend; clear hend
      go_wp2_with fail
      go_ret
      exact ⟨_, rfl, by rw [HP.out HE.out]; exact hown, hbw⟩
    · have hle : (i : Int) ≤ (s.size : Int) := by omega
      by_cases hlast : i = s.size
      · have he : ((i : Int) == (s.size : Int)) = true := by rw [beq_iff_eq]; omega
        have HN : Hid (Cuts.parts s b = xs ++ [s.extract f i]) := by
          have := HC.out (by omega)
          subst hlast
          show _ = _
          rw [Cuts.parts, this]
        have HL := Lib.hid hlast; clear hlast hend
        go_wp2_with (at_builtin; refine wpList_append_own _ rfl _ _ 61 rfl w.heap.size 9 i0 (.string ByteArray.empty) 1 16 Tryz.underlying61 hi hz0 hz1 hz2 rfl (by decide) _ _ _ rfl (hown.alloc _) ⟨wr.heap.size, 0, none⟩ 1 1 [.string (s.extract f i)] rfl rfl ?c1 ?c2 ?c3 ?c4 ?c5 ?_)
        case c1 => exact Kit.one_cells _ _ _
        case c2 => exact Kit.one_str _
        case c3 => unfold maxLen; omega
        case c4 => omega
        case c5 => have := hbw.size; simp; omega
        intro v' w1 hown' hgr _
        have hb1 := Kit.app_below (Nat.le_refl _) hbw hown hgr
        clear hgr hown
        go_wp2_with fail
        go_roundw
        case rel => exact ⟨i + 1, _, i + 1, by omega, fun h => by have := HL.out; omega, fun _ => HN.out, by omega, by simp; omega, by go_num, by go_num, by simpa using hown', hb1⟩
        case measure => simp [intOf]; have := HL.out; omega
      · have hlt : i < s.size := by omega
        have he : ((i : Int) == (s.size : Int)) = false := by rw [beq_eq_false_iff_ne]; omega
        clear hlast hend
        by_cases hb : ((s[i]'hlt).toNat : Int) = b
        · have HN : Hid (Cuts.cuts s b (i + 1) = (xs ++ [s.extract f i], i + 1)) := by
            show _ = _
            rw [Cuts.cuts_hit s b i hlt hb, HC.out (by omega)]
          have hbb : (((s[i]'hlt).toNat : Int) == b) = true := by simpa using hb
          clear hb
          go_wp2_with (at_builtin; refine wpList_append_own _ rfl _ _ 61 rfl w.heap.size 9 i0 (.string ByteArray.empty) 1 16 Tryz.underlying61 hi hz0 hz1 hz2 rfl (by decide) _ _ _ rfl (hown.alloc _) ⟨wr.heap.size, 0, none⟩ 1 1 [.string (s.extract f i)] rfl rfl ?c1 ?c2 ?c3 ?c4 ?c5 ?_)
          case c1 => exact Kit.one_cells _ _ _
          case c2 => exact Kit.one_str _
          case c3 => unfold maxLen; omega
          case c4 => omega
          case c5 => have := hbw.size; simp; omega
          intro v' w1 hown' hgr _
          have hb1 := Kit.app_below (Nat.le_refl _) hbw hown hgr
          clear hgr hown
          go_wp2_with fail
          go_roundw
          case rel => exact ⟨i + 1, _, i + 1, by omega, fun _ => HN.out, fun h => by omega, by omega, by simp; omega, by go_num, by go_num, by simpa using hown', hb1⟩
          case measure => simp [intOf]; omega
        · have HN : Hid (Cuts.cuts s b (i + 1) = (xs, f)) := by
            show _ = _
            rw [Cuts.cuts_miss s b i hlt hb, HC.out (by omega)]
          have hbb : (((s[i]'hlt).toNat : Int) == b) = false := by simpa using hb
          clear hb
          go_wp2_with fail
          go_roundw
          case rel => exact ⟨i + 1, _, f, by omega, fun _ => HN.out, fun h => by omega, by omega, by omega, by go_num, rfl, hown, hbw⟩
          case measure => simp [intOf]; omega
end Go.Proofs.YtkmclgofghaeoaaGreat.SpecSplit

namespace Go.Proofs.YtkmclgofghaeoaaGreat.SpecName
open Go.RowKit
open Strs SpecTok
theorem name20_spell (s : ByteArray) : Tok.name20 s.data.toList = (decide (1 ≤ s.size) && decide (s.size ≤ 20) && (if h : 0 < s.size then Tok.letter (s[0]'h) else false) && decide (Tok.run s.data.toList 0 = s.size)) := by
  unfold Tok.name20
  rw [len_list]
  congr 2
  by_cases h : 0 < s.size
  · have h' : 0 < s.data.toList.length := by rw [len_list]; exact h
    have hx : s.data.toList[0]'h' = s[0]'h := rfl
    rw [dif_pos h, ← hx]
    generalize s.data.toList = l at *
    match l, h' with
    | c :: r, _ => rfl
  · have h' : s.data.toList = [] := _root_.List.eq_nil_of_length_eq_zero (by rw [len_list]; omega)
    rw [dif_neg h, h']
set_option maxHeartbeats 1000000 in
theorem name20_any (s : ByteArray) (w : World) (hs : s.size ≤ 1048576) :
    Calls Tryz.prog 46 #[.string s] w fun e w' => e = .returned (.bool (Tok.name20 s.data.toList)) ∧ w = w' := by
  have HV := Lib.hid (name20_spell s)
  by_cases h0 : (1 : Int) ≤ (s.size : Int)
  · by_cases h1 : (s.size : Int) ≤ 20
    · have hp : 0 < s.size := by omega
      by_cases h2 : Tok.letter (s[0]'hp) = true
      · have K := fun w => Lib.hid (letter_is (s[0]'hp) true w h2)
        have HV2 : Hid (Tok.name20 s.data.toList = decide (Tok.run s.data.toList 0 = s.size)) := by
          show _ = _; rw [HV.out, dif_pos hp, h2, decide_eq_true (show 1 ≤ s.size by omega), decide_eq_true (show s.size ≤ 20 by omega)]; rfl
        have KR := fun w => Lib.hid (run_any s 0 0 w rfl (by omega) (by unfold maxLen; omega))
        clear h2 HV
        generalize Tok.run s.data.toList 0 = r at *
        by_cases h3 : r = s.size
        · have t3 : ((r : Int) == (s.size : Int)) = true := by rw [beq_iff_eq]; omega
          have H3 := Lib.hid h3; clear h3
          go_enter Tryz.func46, Tryz.ntmps46
          go_wp2_with fail
          refine (K w).out.mono ?_
          rintro e w1 ⟨rfl, rfl⟩
          go_wp2_with fail
          refine (KR w).out.mono ?_
          rintro e w1 ⟨rfl, rfl⟩
          go_wp2_with fail
          go_ret
          exact ⟨by rw [HV2.out, decide_eq_true H3.out]; rfl, rfl⟩
        · have t3 : ((r : Int) == (s.size : Int)) = false := by rw [beq_eq_false_iff_ne]; omega
          have H3 := Lib.hid h3; clear h3
          go_enter Tryz.func46, Tryz.ntmps46
          go_wp2_with fail
          refine (K w).out.mono ?_
          rintro e w1 ⟨rfl, rfl⟩
          go_wp2_with fail
          refine (KR w).out.mono ?_
          rintro e w1 ⟨rfl, rfl⟩
          go_wp2_with fail
          go_ret
          exact ⟨by rw [HV2.out, decide_eq_false H3.out]; rfl, rfl⟩
      · rw [Bool.not_eq_true] at h2
        have K := fun w => Lib.hid (letter_is (s[0]'hp) false w h2)
        have HV2 : Hid (Tok.name20 s.data.toList = false) := by
          show _ = _; rw [HV.out, dif_pos hp, h2]; simp
        clear h2 HV
        go_enter Tryz.func46, Tryz.ntmps46
        go_wp2_with fail
        refine (K w).out.mono ?_
        rintro e w1 ⟨rfl, rfl⟩
        go_wp2_with fail
        go_ret
        exact ⟨by rw [HV2.out]; rfl, rfl⟩
    · have HV2 : Hid (Tok.name20 s.data.toList = false) := by
        show _ = _; rw [HV.out, decide_eq_false (show ¬ s.size ≤ 20 by omega)]; simp
      go_enter Tryz.func46, Tryz.ntmps46
      go_wp2_with fail
      go_ret
      exact ⟨by rw [HV2.out]; rfl, rfl⟩
  · have HV2 : Hid (Tok.name20 s.data.toList = false) := by
      show _ = _; rw [HV.out, decide_eq_false (show ¬ 1 ≤ s.size by omega)]; simp
    go_enter Tryz.func46, Tryz.ntmps46
    go_wp2_with fail
    go_ret
    exact ⟨by rw [HV2.out]; rfl, rfl⟩
theorem name20_is (s : ByteArray) (b : Bool) (w : World) (hs : s.size ≤ 1048576) (h : Tok.name20 s.data.toList = b) :
    Calls Tryz.prog 46 #[.string s] w fun e w' => e = .returned (.bool b) ∧ w = w' := by subst h; exact name20_any s w hs
theorem has_is (v : Value) (xs : _root_.List ByteArray) (s : ByteArray) (b : Bool) (w : World) (h : At w v xs) (hb : Tok.has xs s = b) :
    Calls Tryz.prog 43 #[v, .string s] w fun e w' => e = .returned (.bool b) ∧ w = w' := by subst hb; exact has_any v xs s w h
end Go.Proofs.YtkmclgofghaeoaaGreat.SpecName
