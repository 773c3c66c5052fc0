/-
  impl.CountArgs and impl.IsSelector answer as plain mathematics says. They write nothing that was there.
-/
import Derived.Test.YtamjfbjkdicmcaaGreatDoorBImplSigns
import Derived.Test.YtamjfbjkdicmcaaGreatDoorBImplSplit
namespace Go.Proofs.YtamjfbjkdicmcaaGreatDoor.ImplCount
open Go.RowKit
open Strs
set_option maxHeartbeats 4000000 in
theorem count_any (s : ByteArray) (w : World) (hs : s.size ≤ 1048576) :
    Calls Tryz.prog 80 #[.string s] w fun e w' => e = .returned (.int .i64 (Tok.countArgs s)) ∧ Below w.heap.size w w' := by
  have HV : Hid (Tok.countArgs s = Tok.args s) := Tok.args_is s
  have KO := fun w => Lib.hid (ImplSigns.is_operator s w)
  have KN := fun w => Lib.hid (ImplTok.is_name s w)
  have KC := fun w => Lib.hid (Shelf.strings_Count_one s 58 w)
  have KS := fun w => Lib.hid (Shelf.strings_CutSuffix s ⟨#[58]⟩ w (by omega))
  cases h1 : Tok.has Tok.binaries s with
  | true =>
    have HE : Hid (Tok.countArgs s = 1) := by show _ = _; rw [HV.out]; unfold Tok.args; rw [h1]; rfl
    rw [h1] at KO
    clear h1 HV
    go_enter Tryz.func80, Tryz.ntmps80
    go_wp2_with fail
    refine (KO _).out.mono ?_
    rintro e w1 ⟨rfl, hb1⟩
    go_wp2_with fail
    go_ret
    exact ⟨by rw [HE.out]; rfl, hb1⟩
  | false =>
    rw [h1] at KO
    cases h2 : Tok.isName s with
    | true =>
      have HE : Hid (Tok.countArgs s = 0) := by show _ = _; rw [HV.out]; unfold Tok.args; rw [h1, h2]; rfl
      rw [h2] at KN
      clear h1 h2 HV
      go_enter Tryz.func80, Tryz.ntmps80
      go_wp2_with fail
      refine (KO _).out.mono ?_
      rintro e w1 ⟨rfl, hb1⟩
      go_wp2_with fail
      refine (KN _).out.mono ?_
      rintro e w2 ⟨rfl, hb2⟩
      go_wp2_with fail
      go_ret
      exact ⟨by rw [HE.out]; rfl, hb1.trans (hb2.mono hb1.size)⟩
    | false =>
      rw [h2] at KN
      have HV2 : Hid (Tok.countArgs s = if Lib.hasSuffix s.data.toList [58] = false then -1 else if 4 < Tok.colons s then -1 else if (Cuts.parts (s.extract 0 (s.size - 1)) 58).all (fun p => Tok.name20 p.data.toList) = true then (Tok.colons s : Int) else -1) := by
        show _ = _; rw [HV.out]; unfold Tok.args; rw [h1, h2]; rfl
      clear h1 h2 HV
      have HC : Hid (Lib.countByte s.data.toList 58 = Tok.colons s) := rfl
      rw [HC.out] at KC
      have hcl : Tok.colons s ≤ s.size := by
        unfold Tok.colons; rw [← Tok.len_list]; exact _root_.List.count_le_length
      cases h3 : Lib.hasSuffix s.data.toList [58] with
      | false =>
        have HE : Hid (Tok.countArgs s = -1) := by show _ = _; rw [HV2.out, h3]; rfl
        have h3' : Lib.hasSuffix s.data.toList (⟨#[58]⟩ : ByteArray).data.toList = false := h3
        rw [h3'] at KS
        clear h3 h3' HV2
        go_enter Tryz.func80, Tryz.ntmps80
        go_wp2_with fail
        refine (KO _).out.mono ?_
        rintro e w1 ⟨rfl, hb1⟩
        go_wp2_with fail
        refine (KN _).out.mono ?_
        rintro e w2 ⟨rfl, hb2⟩
        go_wp2_with fail
        refine (KC _).out.mono ?_
        rintro e w3 ⟨rfl, rfl⟩
        go_wp2_with fail
        refine (KS _).out.mono ?_
        rintro e w3 ⟨rfl, rfl⟩
        go_wp2_with fail
        go_ret
        exact ⟨by rw [HE.out]; rfl, hb1.trans (hb2.mono hb1.size)⟩
      | true =>
        have h3' : Lib.hasSuffix s.data.toList (⟨#[58]⟩ : ByteArray).data.toList = true := h3
        have HT : Hid ((⟨(Lib.trimSuffix s.data.toList (⟨#[58]⟩ : ByteArray).data.toList).toArray⟩ : ByteArray) = s.extract 0 (s.size - 1)) := by
          show _ = _
          apply Tok.ba_ext
          unfold Lib.trimSuffix
          rw [if_pos h3', Tok.ext_data]
          show s.data.toList.take (s.data.toList.length - 1) = _
          rw [Tok.len_list]; rfl
        rw [h3', HT.out] at KS
        have HV3 : Hid (Tok.countArgs s = if 4 < Tok.colons s then -1 else if (Cuts.parts (s.extract 0 (s.size - 1)) 58).all (fun p => Tok.name20 p.data.toList) = true then (Tok.colons s : Int) else -1) := by
          show _ = _; rw [HV2.out, h3]; rfl
        clear h3 h3' HV2 HT HC
        have hks : (s.extract 0 (s.size - 1)).size ≤ 1048576 := by rw [← Tok.len_list, Tok.ext_data, _root_.List.length_take]; omega
        generalize s.extract 0 (s.size - 1) = kw at *
        generalize Tok.colons s = n at *
        by_cases h4 : (4 : Int) < (n : Int)
        · have HE : Hid (Tok.countArgs s = -1) := by show _ = _; rw [HV3.out, if_pos (by omega)]
          clear HV3
          go_enter Tryz.func80, Tryz.ntmps80
          go_wp2_with fail
          refine (KO _).out.mono ?_
          rintro e w1 ⟨rfl, hb1⟩
          go_wp2_with fail
          refine (KN _).out.mono ?_
          rintro e w2 ⟨rfl, hb2⟩
          go_wp2_with fail
          refine (KC _).out.mono ?_
          rintro e w3 ⟨rfl, rfl⟩
          go_wp2_with fail
          refine (KS _).out.mono ?_
          rintro e w3 ⟨rfl, rfl⟩
          go_wp2_with fail
          go_ret
          exact ⟨by rw [HE.out]; rfl, hb1.trans (hb2.mono hb1.size)⟩
        · have HV4 : Hid (Tok.countArgs s = if (Cuts.parts kw 58).all (fun p => Tok.name20 p.data.toList) = true then (n : Int) else -1) := by
            show _ = _; rw [HV3.out, if_neg (by omega)]
          have KP := fun w => Lib.hid (ImplSplit.split_any kw 58 w hks)
          have hlen := (Cuts.parts_len kw 58).2
          clear HV3
          generalize Cuts.parts kw 58 = ps at *
          go_enter Tryz.func80, Tryz.ntmps80
          go_wp2_with fail
          refine (KO _).out.mono ?_
          rintro e w1 ⟨rfl, hb1⟩
          go_wp2_with fail
          refine (KN _).out.mono ?_
          rintro e w2 ⟨rfl, hb2⟩
          go_wp2_with fail
          refine (KC _).out.mono ?_
          rintro e w3 ⟨rfl, rfl⟩
          go_wp2_with fail
          refine (KS _).out.mono ?_
          rintro e w3 ⟨rfl, rfl⟩
          go_wp2_with fail
          refine (KP _).out.mono ?_
          rintro e w4 ⟨v, rfl, hown, hb4⟩
          have hb12 := hb1.trans (hb2.mono hb1.size)
          have HB4 : Hid (Below w.heap.size w w4) := hb12.trans (hb4.mono hb12.size)
          have HA := Lib.hid (at_own hown)
          obtain ⟨ra, rc, rfl⟩ := Kit.row_form hown
          clear hown hb4 hb1 hb2 hb12
          go_wp2_with fail
          generalize hn : ps.length = m at *
          have HN := Lib.hid hn; clear hn
          go_loopw [28] (fun j wr => ∃ i : Nat, i ≤ m ∧ j = .int .i64 i ∧ (∀ k (hk : k < ps.length), k < i → Tok.name20 ps[k].data.toList = true) ∧ Below w.heap.size w wr ∧ At wr (.slice ra m rc) ps) (fun j _ => m - (intOf j).toNat)
          case atStart => exact ⟨0, by omega, rfl, fun k hk h => by omega, HB4.out, HA.out⟩
          case round =>
            obtain ⟨i, hi, rfl, hno, hbw, hat⟩ := hrel
            have HNO := Lib.hid hno; clear hno
            have HAT := Lib.hid hat
            by_cases hlt : i < m
            · obtain ⟨_, _, heq, _, hcc⟩ := hat
              rw [HN.out] at heq hcc
              obtain ⟨b, off, hab, hcell⟩ := hcc (by omega)
              simp only [Value.slice.injEq, true_and] at heq
              obtain ⟨rfl, rfl⟩ := heq
              subst hab
              have hil : i < ps.length := by rw [HN.out]; exact hlt
              have hci := hcell i hlt
              have HX : Hid (ps.getD i ByteArray.empty = ps[i]) := by show _ = _; simp [_root_.List.getD, hil]
              rw [HX.out] at hci
              clear hcell hcc
              have HF : Hid (Tok.name20 ps[i].data.toList = true → ∀ k (hk : k < ps.length), k < i + 1 → Tok.name20 ps[k].data.toList = true) := by
                intro hf k hk h1
                by_cases h2 : k = i
                · subst h2; exact hf
                · exact HNO.out k hk (by omega)
              have HT : Hid (Tok.name20 ps[i].data.toList = false → ps.all (fun p => Tok.name20 p.data.toList) = false) := fun hb => Tok.all_not ps _ i hil hb
              clear HX
              generalize ps[i] = x at *
              have KX := fun w => Lib.hid (ImplTok.is_part x w)
              cases he : Tok.name20 x.data.toList with
              | true =>
                rw [he] at KX
                have HR := Lib.hid (HF.out he)
                clear he HF HT
                go_wp2_with fail
                refine (KX _).out.mono ?_
                rintro e w6 ⟨rfl, hb6⟩
                go_wp2_with fail
                go_roundw
                case rel => exact ⟨i + 1, by omega, by go_num, HR.out, hbw.trans (hb6.mono hbw.size), HAT.out.keep hb6⟩
                case measure => simp [intOf]; omega
              | false =>
                rw [he] at KX
                have HE : Hid (Tok.countArgs s = -1) := by show _ = _; rw [HV4.out, HT.out he]; rfl
                clear he HF HT
                go_wp2_with fail
                refine (KX _).out.mono ?_
                rintro e w6 ⟨rfl, hb6⟩
                go_wp2_with fail
                go_ret
                exact ⟨by rw [HE.out]; rfl, hbw.trans (hb6.mono hbw.size)⟩
            · have HE : Hid (Tok.countArgs s = n) := by
                show _ = _
                rw [HV4.out, Tok.all_yes ps (fun p => Tok.name20 p.data.toList) (fun k hk => HNO.out k hk (by have := HN.out; omega))]; rfl
              clear hat
              go_wp2_with fail
              go_ret
              exact ⟨by rw [HE.out]; rfl, hbw⟩
set_option maxHeartbeats 1000000 in
theorem sel_any (s : ByteArray) (w : World) (hs : s.size ≤ 1048576) :
    Calls Tryz.prog 61 #[.string s] w fun e w' => e = .returned (.bool (Tok.sel s)) ∧ Below w.heap.size w w' := by
  have HV := Lib.hid (Tok.sel_is s)
  have KC := fun w => Lib.hid (count_any s w hs)
  generalize Tok.countArgs s = n at *
  go_enter Tryz.func61, Tryz.ntmps61
  go_wp2_with fail
  refine (KC _).out.mono ?_
  rintro e w1 ⟨rfl, hb1⟩
  go_wp2_with fail
  go_ret
  exact ⟨by rw [HV.out]; rfl, hb1⟩
end Go.Proofs.YtamjfbjkdicmcaaGreatDoor.ImplCount
