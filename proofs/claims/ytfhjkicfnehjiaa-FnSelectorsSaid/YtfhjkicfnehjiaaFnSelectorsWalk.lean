/-
  The walk of laws.FnSelectors: it returns true at every code.
-/
import Derived.Test.YtfhjkicfnehjiaaDrawSel
import Derived.Test.YtfhjkicfnehjiaaSpecSel
import Derived.Test.YtfhjkicfnehjiaaImplCount
import Derived.OpenShut
namespace Go.Proofs.Ytfhjkicfnehjiaa.fnSelectorsW
open Go.RowKit
open Strs

theorem op_colons (s : ByteArray) (h : Tok.has Tok.binaries s = true) : Tok.colons s = 0 ∧ Tok.isName s = false := by
  rw [Tok.has_data, Tok.bin_data, List.contains_iff_mem] at h
  have h1 : ∀ l ∈ Tok.binL, l.count 58 = 0 ∧ Tok.letterAt l 0 = false := by decide
  have h2 := h1 _ h
  refine ⟨h2.1, ?_⟩
  unfold Tok.isName
  rw [Tok.name20_is, h2.2, Bool.and_false]; rfl
/-- What there is to say of a text: its arguments, its colons, whether it is a name. -/
theorem four (s : ByteArray) : (Tok.countArgs s = 1 ∧ Tok.sel s = true ∧ Tok.colons s = 0 ∧ Tok.isName s = false) ∨ (Tok.countArgs s = 0 ∧ Tok.sel s = true ∧ Tok.isName s = true) ∨ (Tok.countArgs s = -1 ∧ Tok.sel s = false ∧ Tok.isName s = false) ∨ (Tok.countArgs s = (Tok.colons s : Int) ∧ 0 < Tok.colons s ∧ Tok.sel s = true ∧ Tok.isName s = false) := by
  have hs := Tok.sel_is s
  have ha := Tok.args_is s
  unfold Tok.args at ha
  by_cases h1 : Tok.has Tok.binaries s = true
  · rw [if_pos h1] at ha
    have := op_colons s h1
    exact .inl ⟨ha, by rw [hs, ha]; rfl, this.1, this.2⟩
  · rw [if_neg h1] at ha
    by_cases h2 : Tok.isName s = true
    · rw [if_pos h2] at ha
      exact .inr (.inl ⟨ha, by rw [hs, ha]; rfl, h2⟩)
    · rw [if_neg h2] at ha
      rw [Bool.not_eq_true] at h2
      by_cases h3 : Lib.hasSuffix s.data.toList [58] = false
      · rw [if_pos h3] at ha
        exact .inr (.inr (.inl ⟨ha, by rw [hs, ha]; rfl, h2⟩))
      · rw [if_neg h3] at ha
        by_cases h4 : 4 < Tok.colons s
        · rw [if_pos h4] at ha
          exact .inr (.inr (.inl ⟨ha, by rw [hs, ha]; rfl, h2⟩))
        · rw [if_neg h4] at ha
          split at ha
          · refine .inr (.inr (.inr ⟨ha, ?_, by rw [hs, ha, decide_eq_true_eq]; omega, h2⟩))
            rw [Bool.not_eq_false] at h3
            unfold Lib.hasSuffix at h3
            rw [List.isSuffixOf_iff_suffix] at h3
            unfold Tok.colons
            exact List.count_pos_iff.2 (h3.mem (by simp))
          · exact .inr (.inr (.inl ⟨ha, by rw [hs, ha]; rfl, h2⟩))

set_option maxHeartbeats 4000000 in
theorem walk (w : World) (a : Option Addr) (len cap : Nat) (zs : List Int) (hz : Kit.IsRow .u8 w a len cap zs) :
    Calls Try.prog 3 #[.slice a len cap] w fun e w' => e = .returned (.bool true) ∧ Below w.heap.size w w' := by
  have hm : len ≤ maxLen := by
    rcases hz with ⟨_, rfl, _⟩ | ⟨x, _, hl, hm, _⟩
    · exact Nat.zero_le _
    · omega
  have HR := Lib.hid (Draw.raw_of hz)
  clear hz
  unfold maxLen at hm
  by_cases hbig : (1048576 : Int) < (len : Int)
  · go_enter Try.func3, Try.ntmps3
    go_wp2
    go_ret
    exact ⟨rfl, Below.refl _ _⟩
  · have hlen : len ≤ 1048576 := by omega
    go_enter Try.func3, Try.ntmps3
    go_wp2_with (first | (go_at_call 7; go_in) | fail)
    refine (Draw.sel_any a len cap w hlen HR.out).mono ?_
    rintro e w1 ⟨s, rfl, hsz, hb1⟩
    have H4 := Lib.hid (four s)
    have hs : s.size ≤ 1048576 := by omega
    have KC := fun w => Lib.hid (ImplCount.count_any s w hs)
    have KS := fun w => Lib.hid (ImplCount.sel_any s w hs)
    have KT := fun w => Lib.hid (SpecSel.sel_any s w hs)
    have KN := fun w => Lib.hid (ImplTok.is_name s w)
    have HCO : Hid (Tok.colons s = (s.data.toList.take s.size).count 58) := by show _ = _; unfold Tok.colons; rw [← Tok.len_list, List.take_length]
    generalize Tok.countArgs s = n at *
    generalize Tok.colons s = c at *
    generalize Tok.sel s = b at *
    generalize Tok.isName s = m at *
    go_wp2_with fail
    refine (KC _).out.mono ?_
    rintro e w2 ⟨rfl, hb2⟩
    have B2 : Hid (Below w.heap.size w w2) := hb1.trans (hb2.mono hb1.size)
    clear hb1 hb2 hbig hlen HR
    go_wp2_with fail
    go_loop [5, 6] (fun q j => ∃ i : Nat, i ≤ s.size ∧ j = .int .i64 i ∧ q = .int .i64 (((s.data.toList.take i).count 58 : Nat) : Int)) (fun _ j => s.size - (intOf j).toNat)
    case atStart => exact ⟨0, by omega, rfl, rfl⟩
    case round =>
      obtain ⟨i, hi, rfl, rfl⟩ := hrel
      by_cases hlt : i < s.size
      · have hlt' : i < s.data.toList.length := by rw [Tok.len_list]; exact hlt
        have hx : s.data.toList[i]'hlt' = s[i]'hlt := rfl
        have hcl : (s.data.toList.take i).count 58 ≤ i := by
          have h1 := List.count_le_length (a := (58 : UInt8)) (l := s.data.toList.take i)
          rw [List.length_take] at h1; omega
        by_cases hb : ((s[i]'hlt).toNat : Int) = 58
        · have HH : Hid ((s.data.toList.take (i + 1)).count 58 = (s.data.toList.take i).count 58 + 1) := by
            have h9 : (s[i]'hlt).toNat = 58 := by omega
            have h58 : s[i]'hlt = (58 : UInt8) := UInt8.toNat_inj.1 (by rw [h9]; rfl)
            show _ = _
            rw [List.take_succ_eq_append_getElem hlt', List.count_append, hx, h58]; rfl
          have hbb : (((s[i]'hlt).toNat : Int) == 58) = true := by simpa using hb
          clear hb hx
          generalize (s.data.toList.take i).count 58 = q at *
          go_wp2_with fail
          go_round
          case rel => exact ⟨i + 1, by omega, by go_num, by rw [HH.out]; go_num⟩
          case measure => simp [intOf]; omega
        · have HH : Hid ((s.data.toList.take (i + 1)).count 58 = (s.data.toList.take i).count 58) := by
            have h58 : ¬ s[i]'hlt = (58 : UInt8) := fun h => hb (by rw [h]; rfl)
            show _ = _
            rw [List.take_succ_eq_append_getElem hlt', List.count_append, hx, List.count_singleton]
            simp [h58]
          have hbb : (((s[i]'hlt).toNat : Int) == 58) = false := by simpa using hb
          clear hb hx
          generalize (s.data.toList.take i).count 58 = q at *
          go_wp2_with fail
          go_round
          case rel => exact ⟨i + 1, by omega, by go_num, by rw [HH.out]⟩
          case measure => simp [intOf]; omega
      · have hci : (s.data.toList.take i).count 58 = c := by rw [HCO.out, show i = s.size by omega]
        rw [hci]
        clear hci HCO
        rcases H4.out with ⟨rfl, rfl, rfl, rfl⟩ | ⟨rfl, rfl, rfl⟩ | ⟨rfl, rfl, rfl⟩ | ⟨rfl, hc0, rfl, rfl⟩
        · clear H4
          go_wp2_with fail
          refine (KS _).out.mono ?_
          rintro e w3 ⟨rfl, hb3⟩
          go_wp2_with fail
          refine (KS _).out.mono ?_
          rintro e w4 ⟨rfl, hb4⟩
          go_wp2_with fail
          refine (KT _).out.mono ?_
          rintro e w5 ⟨rfl, hb5⟩
          go_wp2_with fail
          refine (KN _).out.mono ?_
          rintro e w6 ⟨rfl, hb6⟩
          go_wp2_with fail
          refine (KN _).out.mono ?_
          rintro e w7 ⟨rfl, hb7⟩
          go_wp2_with fail
          have B2 := B2.out
          have B3 := B2.trans (hb3.mono B2.size)
          have B4 := B3.trans (hb4.mono B3.size)
          have B5 := B4.trans (hb5.mono B4.size)
          have B6 := B5.trans (hb6.mono B5.size)
          have B7 := B6.trans (hb7.mono B6.size)
          go_ret
          exact ⟨rfl, B7⟩
        · clear H4
          go_wp2_with fail
          refine (KS _).out.mono ?_
          rintro e w3 ⟨rfl, hb3⟩
          go_wp2_with fail
          refine (KS _).out.mono ?_
          rintro e w4 ⟨rfl, hb4⟩
          go_wp2_with fail
          refine (KT _).out.mono ?_
          rintro e w5 ⟨rfl, hb5⟩
          go_wp2_with fail
          refine (KN _).out.mono ?_
          rintro e w6 ⟨rfl, hb6⟩
          go_wp2_with fail
          have B2 := B2.out
          have B3 := B2.trans (hb3.mono B2.size)
          have B4 := B3.trans (hb4.mono B3.size)
          have B5 := B4.trans (hb5.mono B4.size)
          have B6 := B5.trans (hb6.mono B5.size)
          go_ret
          exact ⟨rfl, B6⟩
        · clear H4
          go_wp2_with fail
          refine (KS _).out.mono ?_
          rintro e w3 ⟨rfl, hb3⟩
          go_wp2_with fail
          refine (KS _).out.mono ?_
          rintro e w4 ⟨rfl, hb4⟩
          go_wp2_with fail
          refine (KT _).out.mono ?_
          rintro e w5 ⟨rfl, hb5⟩
          go_wp2_with fail
          refine (KN _).out.mono ?_
          rintro e w6 ⟨rfl, hb6⟩
          go_wp2_with fail
          have B2 := B2.out
          have B3 := B2.trans (hb3.mono B2.size)
          have B4 := B3.trans (hb4.mono B3.size)
          have B5 := B4.trans (hb5.mono B4.size)
          have B6 := B5.trans (hb6.mono B5.size)
          go_ret
          exact ⟨rfl, B6⟩
        · clear H4
          have t0 : ¬ (c : Int) ≤ 0 := by omega
          have t1 : (0 : Int) ≤ (c : Int) := by omega
          have t2 : ((c : Int) == (c : Int)) = true := beq_self_eq_true _
          go_wp2_with fail
          refine (KS _).out.mono ?_
          rintro e w3 ⟨rfl, hb3⟩
          go_wp2_with fail
          refine (KS _).out.mono ?_
          rintro e w4 ⟨rfl, hb4⟩
          go_wp2_with fail
          refine (KT _).out.mono ?_
          rintro e w5 ⟨rfl, hb5⟩
          go_wp2_with fail
          refine (KN _).out.mono ?_
          rintro e w6 ⟨rfl, hb6⟩
          go_wp2_with fail
          have B2 := B2.out
          have B3 := B2.trans (hb3.mono B2.size)
          have B4 := B3.trans (hb4.mono B3.size)
          have B5 := B4.trans (hb5.mono B4.size)
          have B6 := B5.trans (hb6.mono B5.size)
          go_ret
          exact ⟨rfl, B6⟩
end Go.Proofs.Ytfhjkicfnehjiaa.fnSelectorsW
