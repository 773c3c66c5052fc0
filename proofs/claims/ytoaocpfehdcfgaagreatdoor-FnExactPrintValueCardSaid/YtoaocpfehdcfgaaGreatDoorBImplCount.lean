/-
  strings.CutSuffix, strings.Count at one byte and strings.HasPrefix answer as the library's contracts say, at this program's own numbers.
  impl's binary operators, the first one of a list with which a text begins, and whether a text is an operator. They write nothing that was there.
  impl.CountArgs and impl.IsSelector answer as plain mathematics says. They write nothing that was there.
-/
import Derived.Test.YtoaocpfehdcfgaaGreatDoorBImplTok
import Derived.Test.YtoaocpfehdcfgaaGreatDoorBSpecSplit
import Derived.Shelf.Small.Wraps
import Derived.Shelf.Strings.Count
import Derived.Shelf.Strings.Prefix
import Derived.Test.YtoaocpfehdcfgaaGreatDoorRows
import Derived.Deep.RegionHeld3
namespace Go.Proofs.YtoaocpfehdcfgaaGreatDoor.Shelf
open Go.Shelf
def lays104_ren : Go.Shelf.Ren := ⟨fun | 104 => 113 | 211 => 127 | 207 => 137 | n => n, fun | 9 => 9 | 4 => 4 | 24 => 147 | 3 => 3 | n => n, fun | n => n⟩
theorem lays104 : Go.Proofs.Lays.n104 Tryz.prog lays104_ren := {
  mixed := by kernel_rfl
  f104 := Tryz.func113.trans (congrArg some (by kernel_rfl))
  f207 := Tryz.func137.trans (congrArg some (by kernel_rfl))
  f211 := Tryz.func127.trans (congrArg some (by kernel_rfl))
  t3 := Tryz.underlying3
  a3 := Tryz.isAgg3
  z3 := Tryz.sizeOf3
  v3 := Tryz.zeroValue3
  t4 := Tryz.underlying4
  a4 := Tryz.isAgg4
  z4 := Tryz.sizeOf4
  v4 := Tryz.zeroValue4
  t9 := Tryz.underlying9
  a9 := Tryz.isAgg9
  z9 := Tryz.sizeOf9
  v9 := Tryz.zeroValue9
  t24 := Tryz.underlying147
  a24 := Tryz.isAgg147
  z24 := Tryz.sizeOf147
  v24 := Tryz.zeroValue147 }
open Go.RowKit in
theorem strings_CutSuffix (s p : ByteArray) (w : World) (hs : s.size ≤ 9223372036854775807) :
    Calls Tryz.prog 113 #[.string s, .string p] w fun e w' => e = .returned (.tuple #[.string ⟨(Lib.trimSuffix s.data.toList p.data.toList).toArray⟩, .bool (Lib.hasSuffix s.data.toList p.data.toList)]) ∧ w' = w := Any.strings_CutSuffix lays104 s p w hs
def lays138_ren : Go.Shelf.Ren := ⟨fun | 138 => 112 | 195 => 125 | 218 => 126 | 143 => 99 | 219 => 118 | 217 => 130 | 225 => 131 | 224 => 132 | 267 => 133 | 266 => 139 | 314 => 140 | n => n, fun | 9 => 9 | 3 => 3 | 4 => 4 | 5 => 5 | 0 => 0 | 46 => 157 | 146 => 165 | 51 => 164 | n => n, fun | 1 => 0 | n => n⟩
theorem lays138 : Go.Proofs.Lays.n138 Tryz.prog lays138_ren := {
  mixed := by kernel_rfl
  f138 := Tryz.func112.trans (congrArg some (by kernel_rfl))
  f143 := Tryz.func99.trans (congrArg some (by kernel_rfl))
  f195 := Tryz.func125.trans (congrArg some (by kernel_rfl))
  f217 := Tryz.func130.trans (congrArg some (by kernel_rfl))
  f218 := Tryz.func126.trans (congrArg some (by kernel_rfl))
  f219 := Tryz.func118.trans (congrArg some (by kernel_rfl))
  f224 := Tryz.func132.trans (congrArg some (by kernel_rfl))
  f225 := Tryz.func131.trans (congrArg some (by kernel_rfl))
  f266 := Tryz.func139.trans (congrArg some (by kernel_rfl))
  f267 := Tryz.func133.trans (congrArg some (by kernel_rfl))
  f314 := Tryz.func140.trans (congrArg some (by kernel_rfl))
  t0 := Tryz.underlying0
  a0 := Tryz.isAgg0
  z0 := Tryz.sizeOf0
  v0 := Tryz.zeroValue0
  t3 := Tryz.underlying3
  a3 := Tryz.isAgg3
  z3 := Tryz.sizeOf3
  v3 := Tryz.zeroValue3
  t4 := Tryz.underlying4
  a4 := Tryz.isAgg4
  z4 := Tryz.sizeOf4
  v4 := Tryz.zeroValue4
  t5 := Tryz.underlying5
  a5 := Tryz.isAgg5
  z5 := Tryz.sizeOf5
  v5 := Tryz.zeroValue5
  t9 := Tryz.underlying9
  a9 := Tryz.isAgg9
  z9 := Tryz.sizeOf9
  v9 := Tryz.zeroValue9
  t46 := Tryz.underlying157
  a46 := Tryz.isAgg157
  z46 := Tryz.sizeOf157
  v46 := Tryz.zeroValue157
  t51 := Tryz.underlying164
  a51 := Tryz.isAgg164
  z51 := Tryz.sizeOf164
  v51 := Tryz.zeroValue164
  t146 := Tryz.underlying165
  a146 := Tryz.isAgg165
  z146 := Tryz.sizeOf165
  v146 := Tryz.zeroValue165
  g1 := by kernel_rfl }
open Go.RowKit Go.Lib in
theorem strings_Count_one (s : ByteArray) (c : UInt8) (w : World) :
    Calls Tryz.prog 112 #[.string s, .string ⟨#[c]⟩] w fun e w' => e = .returned (.int .i64 (Lib.countByte s.data.toList c)) ∧ w' = w := Any.strings_Count_one lays138 s c w
def lays99_ren : Go.Shelf.Ren := ⟨fun | 99 => 136 | 206 => 141 | n => n, fun | 9 => 9 | 4 => 4 | 3 => 3 | n => n, fun | n => n⟩
theorem lays99 : Go.Proofs.Lays.n99 Tryz.prog lays99_ren := {
  mixed := by kernel_rfl
  f99 := Tryz.func136.trans (congrArg some (by kernel_rfl))
  f206 := Tryz.func141.trans (congrArg some (by kernel_rfl))
  t3 := Tryz.underlying3
  a3 := Tryz.isAgg3
  z3 := Tryz.sizeOf3
  v3 := Tryz.zeroValue3
  t4 := Tryz.underlying4
  a4 := Tryz.isAgg4
  z4 := Tryz.sizeOf4
  v4 := Tryz.zeroValue4
  t9 := Tryz.underlying9
  a9 := Tryz.isAgg9
  z9 := Tryz.sizeOf9
  v9 := Tryz.zeroValue9 }
open Go.RowKit Go.Lib in
theorem strings_HasPrefix (s p : ByteArray) (w : World) :
    Calls Tryz.prog 136 #[.string s, .string p] w fun e w' => e = .returned (.bool (Lib.hasPrefix s.data.toList p.data.toList)) ∧ w' = w := Any.strings_HasPrefix lays99 s p w
end Go.Proofs.YtoaocpfehdcfgaaGreatDoor.Shelf

namespace Go.Proofs.YtoaocpfehdcfgaaGreatDoor.ImplSigns
open Go.RowKit
open Strs
def List (xs : _root_.List ByteArray) (w : World) (e : Ending) (w' : World) : Prop := ∃ a c, e = .returned (.slice a xs.length c) ∧ At w' (.slice a xs.length c) xs ∧ Below w.heap.size w w'
theorem list_at (w : World) (C : Array Value) (xs : _root_.List ByteArray) (n : Nat) (hn : xs.length = n) (hm : n ≤ 1048576) (hC : ∀ j, j < n → C[j]? = some (.string (xs.getD j ByteArray.empty))) :
    List xs w (.returned (.slice (some ⟨w.heap.size, 0, none⟩) n n)) (w.alloc (.cells C 9)) := by
  subst hn
  refine ⟨_, _, rfl, ⟨_, _, rfl, by unfold maxLen; omega, fun _ => ⟨_, 0, rfl, fun j hj => ?_⟩⟩, (Below.refl _ _).alloc (Nat.le_refl _) _⟩
  rw [Nat.zero_add, World.cell?_alloc_mark w _ _ (0, 0) j]
  exact hC j hj
theorem binaries_any (w : World) : Calls Tryz.prog 124 #[] w (List Tok.binaries w) := by
  go_enter Tryz.func124, Tryz.ntmps124
  go_wp2
  go_ret
  refine list_at w _ Tok.binaries 15 rfl (by omega) (fun j hj => ?_)
  obtain rfl | rfl | rfl | rfl | rfl | rfl | rfl | rfl | rfl | rfl | rfl | rfl | rfl | rfl | rfl : j = 0 ∨ j = 1 ∨ j = 2 ∨ j = 3 ∨ j = 4 ∨ j = 5 ∨ j = 6 ∨ j = 7 ∨ j = 8 ∨ j = 9 ∨ j = 10 ∨ j = 11 ∨ j = 12 ∨ j = 13 ∨ j = 14 := by omega
  all_goals rfl
theorem prefix_is (s x : ByteArray) : Lib.hasPrefix s.data.toList x.data.toList = Tok.begins s 0 x := by
  rw [Tok.begins_prefix s 0 x (Nat.zero_le _), _root_.List.drop_zero]; rfl
set_option maxHeartbeats 2000000 in
theorem sign_any (s : ByteArray) (v : Value) (xs : _root_.List ByteArray) (w : World) (h : At w v xs) :
    Calls Tryz.prog 123 #[.string s, v] w fun e w' => e = .returned (.string (Tok.starts s 0 xs)) ∧ w = w' := by
  obtain ⟨a, cap, rfl, hm, hc⟩ := h
  unfold maxLen at hm
  have HC := Lib.hid hc; clear hc
  have KP := fun x w => Lib.hid (Shelf.strings_HasPrefix s x w)
  simp only [prefix_is] at KP
  generalize hn : xs.length = n at *
  have HN := Lib.hid hn; clear hn
  go_enter Tryz.func123, Tryz.ntmps123
  go_wp2_with fail
  go_loop [9] (fun j => ∃ i : Nat, i ≤ n ∧ j = .int .i64 i ∧ ∀ k (hk : k < xs.length), k < i → Tok.begins s 0 xs[k] = false) (fun j => n - (intOf j).toNat)
  case atStart => exact ⟨0, by omega, rfl, fun k hk h => by omega⟩
  case round =>
    obtain ⟨i, hi, rfl, hno⟩ := hrel
    have HNO := Lib.hid hno; clear hno
    by_cases hlt : i < n
    · obtain ⟨b, off, rfl, hcell⟩ := HC.out (by omega)
      have hil : i < xs.length := by rw [HN.out]; exact hlt
      have hci := hcell i hlt
      have HX : Hid (xs.getD i ByteArray.empty = xs[i]) := by show _ = _; simp [_root_.List.getD, hil]
      rw [HX.out] at hci
      clear hcell
      have HF : Hid (Tok.begins s 0 xs[i] = false → ∀ k (hk : k < xs.length), k < i + 1 → Tok.begins s 0 xs[k] = false) := by
        intro hf k hk h1
        by_cases h2 : k = i
        · subst h2; exact hf
        · exact HNO.out k hk (by omega)
      have HT : Hid (Tok.begins s 0 xs[i] = true → Tok.starts s 0 xs = xs[i]) := fun hb => Tok.starts_at s 0 xs i hil hb fun j hj h => HNO.out j hj h
      clear HX
      generalize xs[i] = x at *
      cases he : Tok.begins s 0 x with
      | true =>
        have KX := fun w => KP x w
        rw [he] at KX
        have HR := Lib.hid (HT.out he)
        clear he
        go_wp2_with fail
        refine (KX _).out.mono ?_
        rintro e w1 ⟨rfl, rfl⟩
        go_wp2_with fail
        go_ret
        exact ⟨by rw [HR.out]; rfl, rfl⟩
      | false =>
        have KX := fun w => KP x w
        rw [he] at KX
        have HR := Lib.hid (HF.out he)
        clear he
        go_wp2_with fail
        refine (KX _).out.mono ?_
        rintro e w1 ⟨rfl, rfl⟩
        go_wp2_with fail
        go_round
        case rel => exact ⟨i + 1, by omega, by go_num, HR.out⟩
        case measure => simp [intOf]; omega
    · have HR : Hid (Tok.starts s 0 xs = ByteArray.empty) := Tok.starts_not s 0 xs fun j hj => HNO.out j hj (by have := HN.out; omega)
      go_wp2_with fail
      go_ret
      exact ⟨by rw [HR.out]; rfl, rfl⟩
theorem is_operator (s : ByteArray) (w : World) :
    Calls Tryz.prog 111 #[.string s] w (ImplTok.Part (Tok.has Tok.binaries s) w) := by
  have HV := Lib.hid (Tok.op_is s)
  have KS := fun v w h => Lib.hid (sign_any s v Tok.binaries w h)
  by_cases h0 : s.data.toList = []
  · have hne : (s.toList == []) = true := by rw [ByteArray.toList_eq, h0]; rfl
    have HE : Hid (Tok.has Tok.binaries s = false) := by show _ = _; rw [HV.out, h0]; rfl
    clear h0 HV
    go_enter Tryz.func111, Tryz.ntmps111
    go_wp2_with fail
    go_ret
    exact ⟨by rw [HE.out]; rfl, Below.refl _ _⟩
  · have hne : (s.toList == []) = false := by rw [ByteArray.toList_eq, beq_eq_false_iff_ne]; exact h0
    have HE : Hid (Tok.has Tok.binaries s = ((Tok.starts s 0 Tok.binaries).toList == s.toList)) := by
      show _ = _
      rw [HV.out]
      have : s.data.toList.isEmpty = false := by rw [← Bool.not_eq_true, _root_.List.isEmpty_iff]; exact h0
      rw [this]; rfl
    clear h0 HV
    generalize Tok.starts s 0 Tok.binaries = x at *
    go_enter Tryz.func111, Tryz.ntmps111
    go_wp2_with fail
    refine (binaries_any _).mono ?_
    rintro e w1 ⟨a, c, rfl, hat, hb1⟩
    go_wp2_with fail
    refine (KS _ _ hat).out.mono ?_
    rintro e w2 ⟨rfl, rfl⟩
    go_wp2_with fail
    go_ret
    exact ⟨by rw [HE.out]; rfl, hb1⟩
end Go.Proofs.YtoaocpfehdcfgaaGreatDoor.ImplSigns

namespace Go.Proofs.YtoaocpfehdcfgaaGreatDoor.ImplCount
open Go.RowKit
open Strs
set_option maxHeartbeats 4000000 in
theorem count_any (s : ByteArray) (w : World) (hs : s.size ≤ 1048576) :
    Calls Tryz.prog 96 #[.string s] w fun e w' => e = .returned (.int .i64 (Tok.countArgs s)) ∧ Below w.heap.size w w' := by
  have HV : Hid (Tok.countArgs s = Tok.args s) := Tok.args_is s
  have KO := fun w => Lib.hid (ImplSigns.is_operator s w)
  have KN := fun w => Lib.hid (ImplTok.is_name s w)
  have KC := fun w => Lib.hid (Shelf.strings_Count_one s 58 w)
  have KS := fun w => Lib.hid (Shelf.strings_CutSuffix s ⟨#[58]⟩ w (by omega))
  cases h1 : Tok.has Tok.binaries s with
  | true =>
    have HE : Hid (Tok.countArgs s = 1) := by show _ = _; rw [HV.out]; unfold Tok.args; rw [h1]; rfl
    rw [h1] at KO
    clear h1 HV
    go_enter Tryz.func96, Tryz.ntmps96
    go_wp2_with fail
    refine (KO _).out.mono ?_
    rintro e w1 ⟨rfl, hb1⟩
    go_wp2_with fail
    go_ret
    exact ⟨by rw [HE.out]; rfl, hb1⟩
  | false =>
    rw [h1] at KO
    cases h2 : Tok.isName s with
    | true =>
      have HE : Hid (Tok.countArgs s = 0) := by show _ = _; rw [HV.out]; unfold Tok.args; rw [h1, h2]; rfl
      rw [h2] at KN
      clear h1 h2 HV
      go_enter Tryz.func96, Tryz.ntmps96
      go_wp2_with fail
      refine (KO _).out.mono ?_
      rintro e w1 ⟨rfl, hb1⟩
      go_wp2_with fail
      refine (KN _).out.mono ?_
      rintro e w2 ⟨rfl, hb2⟩
      go_wp2_with fail
      go_ret
      exact ⟨by rw [HE.out]; rfl, hb1.trans (hb2.mono hb1.size)⟩
    | false =>
      rw [h2] at KN
      have HV2 : Hid (Tok.countArgs s = if Lib.hasSuffix s.data.toList [58] = false then -1 else if 4 < Tok.colons s then -1 else if (Cuts.parts (s.extract 0 (s.size - 1)) 58).all (fun p => Tok.name20 p.data.toList) = true then (Tok.colons s : Int) else -1) := by
        show _ = _; rw [HV.out]; unfold Tok.args; rw [h1, h2]; rfl
      clear h1 h2 HV
      have HC : Hid (Lib.countByte s.data.toList 58 = Tok.colons s) := rfl
      rw [HC.out] at KC
      have hcl : Tok.colons s ≤ s.size := by
        unfold Tok.colons; rw [← Tok.len_list]; exact _root_.List.count_le_length
      cases h3 : Lib.hasSuffix s.data.toList [58] with
      | false =>
        have HE : Hid (Tok.countArgs s = -1) := by show _ = _; rw [HV2.out, h3]; rfl
        have h3' : Lib.hasSuffix s.data.toList (⟨#[58]⟩ : ByteArray).data.toList = false := h3
        rw [h3'] at KS
        clear h3 h3' HV2
        go_enter Tryz.func96, Tryz.ntmps96
        go_wp2_with fail
        refine (KO _).out.mono ?_
        rintro e w1 ⟨rfl, hb1⟩
        go_wp2_with fail
        refine (KN _).out.mono ?_
        rintro e w2 ⟨rfl, hb2⟩
        go_wp2_with fail
        refine (KC _).out.mono ?_
        rintro e w3 ⟨rfl, rfl⟩
        go_wp2_with fail
        refine (KS _).out.mono ?_
        rintro e w3 ⟨rfl, rfl⟩
        go_wp2_with fail
        go_ret
        exact ⟨by rw [HE.out]; rfl, hb1.trans (hb2.mono hb1.size)⟩
      | true =>
        have h3' : Lib.hasSuffix s.data.toList (⟨#[58]⟩ : ByteArray).data.toList = true := h3
        have HT : Hid ((⟨(Lib.trimSuffix s.data.toList (⟨#[58]⟩ : ByteArray).data.toList).toArray⟩ : ByteArray) = s.extract 0 (s.size - 1)) := by
          show _ = _
          apply Tok.ba_ext
          unfold Lib.trimSuffix
          rw [if_pos h3', Tok.ext_data]
          show s.data.toList.take (s.data.toList.length - 1) = _
          rw [Tok.len_list]; rfl
        rw [h3', HT.out] at KS
        have HV3 : Hid (Tok.countArgs s = if 4 < Tok.colons s then -1 else if (Cuts.parts (s.extract 0 (s.size - 1)) 58).all (fun p => Tok.name20 p.data.toList) = true then (Tok.colons s : Int) else -1) := by
          show _ = _; rw [HV2.out, h3]; rfl
        clear h3 h3' HV2 HT HC
        have hks : (s.extract 0 (s.size - 1)).size ≤ 1048576 := by rw [← Tok.len_list, Tok.ext_data, _root_.List.length_take]; omega
        generalize s.extract 0 (s.size - 1) = kw at *
        generalize Tok.colons s = n at *
        by_cases h4 : (4 : Int) < (n : Int)
        · have HE : Hid (Tok.countArgs s = -1) := by show _ = _; rw [HV3.out, if_pos (by omega)]
          clear HV3
          go_enter Tryz.func96, Tryz.ntmps96
          go_wp2_with fail
          refine (KO _).out.mono ?_
          rintro e w1 ⟨rfl, hb1⟩
          go_wp2_with fail
          refine (KN _).out.mono ?_
          rintro e w2 ⟨rfl, hb2⟩
          go_wp2_with fail
          refine (KC _).out.mono ?_
          rintro e w3 ⟨rfl, rfl⟩
          go_wp2_with fail
          refine (KS _).out.mono ?_
          rintro e w3 ⟨rfl, rfl⟩
          go_wp2_with fail
          go_ret
          exact ⟨by rw [HE.out]; rfl, hb1.trans (hb2.mono hb1.size)⟩
        · have HV4 : Hid (Tok.countArgs s = if (Cuts.parts kw 58).all (fun p => Tok.name20 p.data.toList) = true then (n : Int) else -1) := by
            show _ = _; rw [HV3.out, if_neg (by omega)]
          have KP := fun w => Lib.hid (ImplSplit.split_any kw 58 w hks)
          have hlen := (Cuts.parts_len kw 58).2
          clear HV3
          generalize Cuts.parts kw 58 = ps at *
          go_enter Tryz.func96, Tryz.ntmps96
          go_wp2_with fail
          refine (KO _).out.mono ?_
          rintro e w1 ⟨rfl, hb1⟩
          go_wp2_with fail
          refine (KN _).out.mono ?_
          rintro e w2 ⟨rfl, hb2⟩
          go_wp2_with fail
          refine (KC _).out.mono ?_
          rintro e w3 ⟨rfl, rfl⟩
          go_wp2_with fail
          refine (KS _).out.mono ?_
          rintro e w3 ⟨rfl, rfl⟩
          go_wp2_with fail
          refine (KP _).out.mono ?_
          rintro e w4 ⟨v, rfl, hown, hb4⟩
          have hb12 := hb1.trans (hb2.mono hb1.size)
          have HB4 : Hid (Below w.heap.size w w4) := hb12.trans (hb4.mono hb12.size)
          have HA := Lib.hid (at_own hown)
          obtain ⟨ra, rc, rfl⟩ := Kit.row_form hown
          clear hown hb4 hb1 hb2 hb12
          go_wp2_with fail
          generalize hn : ps.length = m at *
          have HN := Lib.hid hn; clear hn
          go_loopw [28] (fun j wr => ∃ i : Nat, i ≤ m ∧ j = .int .i64 i ∧ (∀ k (hk : k < ps.length), k < i → Tok.name20 ps[k].data.toList = true) ∧ Below w.heap.size w wr ∧ At wr (.slice ra m rc) ps) (fun j _ => m - (intOf j).toNat)
          case atStart => exact ⟨0, by omega, rfl, fun k hk h => by omega, HB4.out, HA.out⟩
          case round =>
            obtain ⟨i, hi, rfl, hno, hbw, hat⟩ := hrel
            have HNO := Lib.hid hno; clear hno
            have HAT := Lib.hid hat
            by_cases hlt : i < m
            · obtain ⟨_, _, heq, _, hcc⟩ := hat
              rw [HN.out] at heq hcc
              obtain ⟨b, off, hab, hcell⟩ := hcc (by omega)
              simp only [Value.slice.injEq, true_and] at heq
              obtain ⟨rfl, rfl⟩ := heq
              subst hab
              have hil : i < ps.length := by rw [HN.out]; exact hlt
              have hci := hcell i hlt
              have HX : Hid (ps.getD i ByteArray.empty = ps[i]) := by show _ = _; simp [_root_.List.getD, hil]
              rw [HX.out] at hci
              clear hcell hcc
              have HF : Hid (Tok.name20 ps[i].data.toList = true → ∀ k (hk : k < ps.length), k < i + 1 → Tok.name20 ps[k].data.toList = true) := by
                intro hf k hk h1
                by_cases h2 : k = i
                · subst h2; exact hf
                · exact HNO.out k hk (by omega)
              have HT : Hid (Tok.name20 ps[i].data.toList = false → ps.all (fun p => Tok.name20 p.data.toList) = false) := fun hb => Tok.all_not ps _ i hil hb
              clear HX
              generalize ps[i] = x at *
              have KX := fun w => Lib.hid (ImplTok.is_part x w)
              cases he : Tok.name20 x.data.toList with
              | true =>
                rw [he] at KX
                have HR := Lib.hid (HF.out he)
                clear he HF HT
                go_wp2_with fail
                refine (KX _).out.mono ?_
                rintro e w6 ⟨rfl, hb6⟩
                go_wp2_with fail
                go_roundw
                case rel => exact ⟨i + 1, by omega, by go_num, HR.out, hbw.trans (hb6.mono hbw.size), HAT.out.keep hb6⟩
                case measure => simp [intOf]; omega
              | false =>
                rw [he] at KX
                have HE : Hid (Tok.countArgs s = -1) := by show _ = _; rw [HV4.out, HT.out he]; rfl
                clear he HF HT
                go_wp2_with fail
                refine (KX _).out.mono ?_
                rintro e w6 ⟨rfl, hb6⟩
                go_wp2_with fail
                go_ret
                exact ⟨by rw [HE.out]; rfl, hbw.trans (hb6.mono hbw.size)⟩
            · have HE : Hid (Tok.countArgs s = n) := by
                show _ = _
                rw [HV4.out, Tok.all_yes ps (fun p => Tok.name20 p.data.toList) (fun k hk => HNO.out k hk (by have := HN.out; omega))]; rfl
              clear hat
              go_wp2_with fail
              go_ret
              exact ⟨by rw [HE.out]; rfl, hbw⟩
set_option maxHeartbeats 1000000 in
theorem sel_any (s : ByteArray) (w : World) (hs : s.size ≤ 1048576) :
    Calls Tryz.prog 70 #[.string s] w fun e w' => e = .returned (.bool (Tok.sel s)) ∧ Below w.heap.size w w' := by
  have HV := Lib.hid (Tok.sel_is s)
  have KC := fun w => Lib.hid (count_any s w hs)
  generalize Tok.countArgs s = n at *
  go_enter Tryz.func70, Tryz.ntmps70
  go_wp2_with fail
  refine (KC _).out.mono ?_
  rintro e w1 ⟨rfl, hb1⟩
  go_wp2_with fail
  go_ret
  exact ⟨by rw [HV.out]; rfl, hb1⟩
end Go.Proofs.YtoaocpfehdcfgaaGreatDoor.ImplCount
