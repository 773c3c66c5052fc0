/-
  strings.Cut, strings.CutPrefix and strings.TrimLeft answer as the library's contracts say, at this program's own numbers.
  impl.skipBlanks: what stands behind spaces, line feeds, tabs and comments. It writes nothing that was there.
  impl.Tokens: the tokens of a source, in a row of its own. It writes nothing that was there. The source has at most 1048576 bytes.
-/
import Derived.Shelf.Small.Wraps
import Derived.Shelf.Strings.Cut
import Derived.Shelf.Strings.SlTrimAscii
import Derived.Test.YtbflpocbjdccgaaGreatDoorRows
import Derived.Test.YtbflpocbjdccgaaGreatDoorBMax
import Derived.Test.YtbflpocbjdccgaaGreatDoorBImplQuot
import Derived.Test.YtbflpocbjdccgaaGreatDoorBImplNext
import Derived.Test.YtbflpocbjdccgaaGreatDoorBTokFit
namespace Go.Proofs.YtbflpocbjdccgaaGreatDoor.Shelf
open Go.Shelf
def lays145_ren : Go.Shelf.Ren := ⟨fun | 145 => 80 | 220 => 107 | 219 => 128 | 217 => 139 | 225 => 140 | 224 => 141 | 267 => 142 | 266 => 152 | 314 => 153 | n => n, fun | 9 => 9 | 4 => 4 | 59 => 95 | 3 => 3 | 5 => 5 | 46 => 125 | 146 => 140 | 51 => 139 | n => n, fun | 1 => 0 | n => n⟩
theorem lays145 : Go.Proofs.Lays.n145 Tryz.prog lays145_ren := {
  mixed := by kernel_rfl
  f145 := Tryz.func80.trans (congrArg some (by kernel_rfl))
  f217 := Tryz.func139.trans (congrArg some (by kernel_rfl))
  f219 := Tryz.func128.trans (congrArg some (by kernel_rfl))
  f220 := Tryz.func107.trans (congrArg some (by kernel_rfl))
  f224 := Tryz.func141.trans (congrArg some (by kernel_rfl))
  f225 := Tryz.func140.trans (congrArg some (by kernel_rfl))
  f266 := Tryz.func152.trans (congrArg some (by kernel_rfl))
  f267 := Tryz.func142.trans (congrArg some (by kernel_rfl))
  f314 := Tryz.func153.trans (congrArg some (by kernel_rfl))
  t3 := Tryz.underlying3
  a3 := Tryz.isAgg3
  z3 := Tryz.sizeOf3
  v3 := Tryz.zeroValue3
  t4 := Tryz.underlying4
  a4 := Tryz.isAgg4
  z4 := Tryz.sizeOf4
  v4 := Tryz.zeroValue4
  t5 := Tryz.underlying5
  a5 := Tryz.isAgg5
  z5 := Tryz.sizeOf5
  v5 := Tryz.zeroValue5
  t9 := Tryz.underlying9
  a9 := Tryz.isAgg9
  z9 := Tryz.sizeOf9
  v9 := Tryz.zeroValue9
  t46 := Tryz.underlying125
  a46 := Tryz.isAgg125
  z46 := Tryz.sizeOf125
  v46 := Tryz.zeroValue125
  t51 := Tryz.underlying139
  a51 := Tryz.isAgg139
  z51 := Tryz.sizeOf139
  v51 := Tryz.zeroValue139
  t59 := Tryz.underlying95
  a59 := Tryz.isAgg95
  z59 := Tryz.sizeOf95
  v59 := Tryz.zeroValue95
  t146 := Tryz.underlying140
  a146 := Tryz.isAgg140
  z146 := Tryz.sizeOf140
  v146 := Tryz.zeroValue140
  g1 := by kernel_rfl }
open Go.RowKit Go.Lib in
theorem strings_Cut (s sep : ByteArray) (m : Int) (w : World) (hs : s.size < 4294967281) (hm : w.cell? ⟨0, 0, none⟩ = some (.int .i64 m)) :
    Calls Tryz.prog 80 #[.string s, .string sep] w fun e w' => e = .returned (.tuple #[.string ⟨(Lib.cut s.data.toList sep.data.toList).1.toArray⟩, .string ⟨(Lib.cut s.data.toList sep.data.toList).2.1.toArray⟩, .bool (Lib.cut s.data.toList sep.data.toList).2.2]) ∧ ∃ n, w' = w.drewN n := Any.strings_Cut lays145 s sep m w hs hm
def lays103_ren : Go.Shelf.Ren := ⟨fun | 103 => 79 | 210 => 106 | 206 => 127 | n => n, fun | 9 => 9 | 4 => 4 | 24 => 75 | 3 => 3 | n => n, fun | n => n⟩
theorem lays103 : Go.Proofs.Lays.n103 Tryz.prog lays103_ren := {
  mixed := by kernel_rfl
  f103 := Tryz.func79.trans (congrArg some (by kernel_rfl))
  f206 := Tryz.func127.trans (congrArg some (by kernel_rfl))
  f210 := Tryz.func106.trans (congrArg some (by kernel_rfl))
  t3 := Tryz.underlying3
  a3 := Tryz.isAgg3
  z3 := Tryz.sizeOf3
  v3 := Tryz.zeroValue3
  t4 := Tryz.underlying4
  a4 := Tryz.isAgg4
  z4 := Tryz.sizeOf4
  v4 := Tryz.zeroValue4
  t9 := Tryz.underlying9
  a9 := Tryz.isAgg9
  z9 := Tryz.sizeOf9
  v9 := Tryz.zeroValue9
  t24 := Tryz.underlying75
  a24 := Tryz.isAgg75
  z24 := Tryz.sizeOf75
  v24 := Tryz.zeroValue75 }
open Go.RowKit in
theorem strings_CutPrefix (s p : ByteArray) (w : World) :
    Calls Tryz.prog 79 #[.string s, .string p] w fun e w' => e = .returned (.tuple #[.string ⟨(Lib.trimPrefix s.data.toList p.data.toList).toArray⟩, .bool (Lib.hasPrefix s.data.toList p.data.toList)]) ∧ w' = w := Any.strings_CutPrefix lays103 s p w
def lays161_ren : Go.Shelf.Ren := ⟨fun | 161 => 78 | 231 => 102 | 227 => 103 | 233 => 104 | 235 => 105 | 228 => 124 | 197 => 125 | 151 => 126 | 260 => 137 | 152 => 138 | 137 => 150 | 119 => 151 | 224 => 141 | 225 => 140 | 217 => 139 | 266 => 152 | n => n, fun | 9 => 9 | 4 => 4 | 3 => 3 | 5 => 5 | 117 => 104 | 116 => 103 | 0 => 0 | 124 => 107 | 105 => 115 | 21 => 21 | 119 => 135 | 46 => 125 | 139 => 138 | 138 => 137 | n => n, fun | 3 => 1 | 4 => 2 | n => n⟩
theorem lays161 : Go.Proofs.Lays.n161 Tryz.prog lays161_ren := {
  mixed := by kernel_rfl
  f119 := Tryz.func151.trans (congrArg some (by kernel_rfl))
  f137 := Tryz.func150.trans (congrArg some (by kernel_rfl))
  f151 := Tryz.func126.trans (congrArg some (by kernel_rfl))
  f152 := Tryz.func138.trans (congrArg some (by kernel_rfl))
  f161 := Tryz.func78.trans (congrArg some (by kernel_rfl))
  f197 := Tryz.func125.trans (congrArg some (by kernel_rfl))
  f217 := Tryz.func139.trans (congrArg some (by kernel_rfl))
  f224 := Tryz.func141.trans (congrArg some (by kernel_rfl))
  f225 := Tryz.func140.trans (congrArg some (by kernel_rfl))
  f227 := Tryz.func103.trans (congrArg some (by kernel_rfl))
  f228 := Tryz.func124.trans (congrArg some (by kernel_rfl))
  f231 := Tryz.func102.trans (congrArg some (by kernel_rfl))
  f233 := Tryz.func104.trans (congrArg some (by kernel_rfl))
  f235 := Tryz.func105.trans (congrArg some (by kernel_rfl))
  f260 := Tryz.func137.trans (congrArg some (by kernel_rfl))
  f266 := Tryz.func152.trans (congrArg some (by kernel_rfl))
  t0 := Tryz.underlying0
  a0 := Tryz.isAgg0
  z0 := Tryz.sizeOf0
  v0 := Tryz.zeroValue0
  t3 := Tryz.underlying3
  a3 := Tryz.isAgg3
  z3 := Tryz.sizeOf3
  v3 := Tryz.zeroValue3
  t4 := Tryz.underlying4
  a4 := Tryz.isAgg4
  z4 := Tryz.sizeOf4
  v4 := Tryz.zeroValue4
  t5 := Tryz.underlying5
  a5 := Tryz.isAgg5
  z5 := Tryz.sizeOf5
  v5 := Tryz.zeroValue5
  t9 := Tryz.underlying9
  a9 := Tryz.isAgg9
  z9 := Tryz.sizeOf9
  v9 := Tryz.zeroValue9
  t21 := Tryz.underlying21
  a21 := Tryz.isAgg21
  z21 := Tryz.sizeOf21
  v21 := Tryz.zeroValue21
  t46 := Tryz.underlying125
  a46 := Tryz.isAgg125
  z46 := Tryz.sizeOf125
  v46 := Tryz.zeroValue125
  t105 := Tryz.underlying115
  a105 := Tryz.isAgg115
  z105 := Tryz.sizeOf115
  v105 := Tryz.zeroValue115
  t116 := Tryz.underlying103
  a116 := Tryz.isAgg103
  z116 := Tryz.sizeOf103
  t117 := Tryz.underlying104
  a117 := Tryz.isAgg104
  z117 := Tryz.sizeOf104
  v117 := Tryz.zeroValue104
  t119 := Tryz.underlying135
  a119 := Tryz.isAgg135
  z119 := Tryz.sizeOf135
  t124 := Tryz.underlying107
  a124 := Tryz.isAgg107
  z124 := Tryz.sizeOf107
  v124 := Tryz.zeroValue107
  t138 := Tryz.underlying137
  a138 := Tryz.isAgg137
  z138 := Tryz.sizeOf137
  v138 := Tryz.zeroValue137
  t139 := Tryz.underlying138
  a139 := Tryz.isAgg138
  z139 := Tryz.sizeOf138
  v139 := Tryz.zeroValue138
  g3 := by kernel_rfl
  g4 := by kernel_rfl }
open Go.RowKit in
theorem strings_TrimLeft_one (s : ByteArray) (c : UInt8) (hc : c.toNat < 128) (w : World) :
    Calls Tryz.prog 78 #[.string s, .string ⟨#[c]⟩] w fun e w' => e = .returned (.string ⟨(Lib.trimLeftB s.data.toList c).toArray⟩) ∧ w' = w := Any.strings_TrimLeft_one lays161 s c hc w
end Go.Proofs.YtbflpocbjdccgaaGreatDoor.Shelf

namespace Go.Proofs.YtbflpocbjdccgaaGreatDoor.ImplSkip
open Go.RowKit
open Strs

theorem trim_any (s : ByteArray) (w : World) :
    Calls Tryz.prog 78 #[.string s, .string ⟨#[32, 10, 9]⟩] w fun e w' => e = .returned (.string ⟨(Lib.trimLeftS s.data.toList [32, 10, 9]).toArray⟩) ∧ Below w.heap.size w w' :=
  Any.strings_TrimLeft_laid Shelf.lays161 (by kernel_rfl) s ⟨#[32, 10, 9]⟩ w (by decide) (ascii_of_all (by decide))
/-- What is left behind blanks and comments; none where a comment has no end. -/
def Left (r : Option (List UInt8)) (w : World) (e : Ending) (w' : World) : Prop := match r with
  | none => e = .returned (.tuple #[.string ⟨#[]⟩, .bool false]) ∧ Below w.heap.size w w'
  | some l => e = .returned (.tuple #[.string ⟨l.toArray⟩, .bool true]) ∧ Below w.heap.size w w'

theorem cutp_any (l : List UInt8) (w : World) :
    Calls Tryz.prog 79 #[.string ⟨l.toArray⟩, .string ⟨#[34]⟩] w fun e w' => e = .returned (.tuple #[.string ⟨(Lib.trimPrefix l [34]).toArray⟩, .bool (Lib.hasPrefix l [34])]) ∧ w' = w := Shelf.strings_CutPrefix ⟨l.toArray⟩ ⟨#[34]⟩ w
theorem cut_any (l : List UInt8) (w : World) (hM : Max w) (hl : l.length ≤ 1048576) :
    Calls Tryz.prog 80 #[.string ⟨l.toArray⟩, .string ⟨#[34]⟩] w fun e w' => e = .returned (.tuple #[.string ⟨(Lib.cut l [34]).1.toArray⟩, .string ⟨(Lib.cut l [34]).2.1.toArray⟩, .bool (Lib.cut l [34]).2.2]) ∧ Below w.heap.size w w' := by
  obtain ⟨m, hm⟩ := hM
  refine (Shelf.strings_Cut ⟨l.toArray⟩ ⟨#[34]⟩ m w (by rw [← Tok.len_list]; show l.length < _; omega) hm).mono ?_
  rintro e w' ⟨h, n, rfl⟩
  exact ⟨h, below_drewN (Below.refl _ _) n⟩
def strLen (v : Value) : Nat := match v with | .string b => b.size | _ => 0
theorem strLen_mk (l : List UInt8) : strLen (.string ⟨l.toArray⟩) = l.length := by
  show (⟨l.toArray⟩ : ByteArray).size = _
  rw [← Tok.len_list]
theorem skip_more (f : Nat) (l : List UInt8) (h1 : Lib.hasPrefix (Lib.trimLeftS l [32, 10, 9]) [34] = true) (h2 : (Lib.cut (Lib.trimPrefix (Lib.trimLeftS l [32, 10, 9]) [34]) [34]).2.2 = true) :
    Tok.skip (f + 1) l = Tok.skip f (Lib.cut (Lib.trimPrefix (Lib.trimLeftS l [32, 10, 9]) [34]) [34]).2.1 ∧ (Lib.cut (Lib.trimPrefix (Lib.trimLeftS l [32, 10, 9]) [34]) [34]).2.1.length < l.length := by
  constructor
  · rw [Tok.skip]; simp only [if_pos h1, if_pos h2]
  · have h3 : (Lib.trimLeftS l [32, 10, 9]).length ≤ l.length := by
      unfold Lib.trimLeftS
      exact (List.dropWhile_sublist _).length_le
    generalize Lib.trimLeftS l [32, 10, 9] = m at *
    have h4 : Lib.trimPrefix m [34] = m.drop 1 := by unfold Lib.trimPrefix; rw [if_pos h1]; rfl
    rw [h4] at h2 ⊢
    have h5 : 0 < m.length := by
      cases m with
      | nil => exact absurd h1 (by decide)
      | cons c m => simp
    rw [Tok.cut_one] at h2 ⊢
    split
    · show ((m.drop 1).drop _).length < _
      rw [List.length_drop, List.length_drop]; omega
    · next h => rw [if_neg h] at h2; cases h2

set_option maxRecDepth 10000 in
set_option maxHeartbeats 1000000 in
theorem skip_any (s : ByteArray) (w : World) (hM : Max w) (hs : s.size ≤ 1048576) :
    Calls Tryz.prog 58 #[.string s] w (Left (Tok.skip (s.size + 1) s.data.toList) w) := by
  have hsl := Tok.len_list s
  go_enter Tryz.func58, Tryz.ntmps58
  go_wp2_with fail
  go_loopw [0] (fun v wr => ∃ (f : Nat) (l : List UInt8), v = .string ⟨l.toArray⟩ ∧ l.length ≤ s.size ∧ l.length < f ∧ Tok.skip (s.size + 1) s.data.toList = Tok.skip f l ∧ Below w.heap.size w wr) (fun v _ => strLen v)
  case atStart => exact ⟨s.size + 1, s.data.toList, rfl, by omega, by omega, rfl, Below.refl _ _⟩
  case round =>
    obtain ⟨f, l, rfl, hl, hf, hk, hbw⟩ := hrel
    have HK := Lib.hid hk; clear hk
    obtain ⟨f, rfl⟩ : ∃ g, f = g + 1 := ⟨f - 1, by have := HK; omega⟩
    have HM := Lib.hid (hM.keep hbw)
    have KT : ∀ w, Hid (Calls Tryz.prog 78 #[.string ⟨l.toArray⟩, .string ⟨#[32, 10, 9]⟩] w fun e w' => e = .returned (.string ⟨(Lib.trimLeftS l [32, 10, 9]).toArray⟩) ∧ Below w.heap.size w w') := fun w => trim_any ⟨l.toArray⟩ w
    have HS : Hid (Tok.skip (f + 1) l = (if Lib.hasPrefix (Lib.trimLeftS l [32, 10, 9]) [34] = true then (if (Lib.cut (Lib.trimPrefix (Lib.trimLeftS l [32, 10, 9]) [34]) [34]).2.2 = true then Tok.skip f (Lib.cut (Lib.trimPrefix (Lib.trimLeftS l [32, 10, 9]) [34]) [34]).2.1 else none) else some (Lib.trimLeftS l [32, 10, 9]))) := rfl
    have HQ := fun h1 h2 => Lib.hid (skip_more f l h1 h2)
    have hml : (Lib.trimPrefix (Lib.trimLeftS l [32, 10, 9]) [34]).length ≤ 1048576 := by
      have h1 : (Lib.trimLeftS l [32, 10, 9]).length ≤ l.length := by
        unfold Lib.trimLeftS
        exact (List.dropWhile_sublist _).length_le
      have h2 : (Lib.trimPrefix (Lib.trimLeftS l [32, 10, 9]) [34]).length ≤ (Lib.trimLeftS l [32, 10, 9]).length := by
        unfold Lib.trimPrefix
        split
        · rw [List.length_drop]; omega
        · exact Nat.le_refl _
      omega
    generalize Lib.trimLeftS l [32, 10, 9] = m at *
    have KP := fun w => Lib.hid (cutp_any m w)
    cases h1 : Lib.hasPrefix m [34] with
    | false =>
      have HR : Hid (Tok.skip (s.size + 1) s.data.toList = some m) := by show _ = _; rw [HK.out, HS.out, h1]; rfl
      rw [h1] at KP
      clear h1 HS HQ HK
      go_wp2_with fail
      refine (KT _).out.mono ?_
      rintro e w1 ⟨rfl, hb1⟩
      have HB1 := hbw.trans (hb1.mono hbw.size)
      go_wp2_with fail
      refine (KP _).out.mono ?_
      rintro e w2 ⟨rfl, rfl⟩
      go_wp2_with fail
      go_ret2
      rw [HR.out]
      exact ⟨rfl, HB1⟩
    | true =>
      rw [h1] at KP
      have KC := fun w h => Lib.hid (cut_any (Lib.trimPrefix m [34]) w h hml)
      generalize Lib.trimPrefix m [34] = c at *
      cases h2 : (Lib.cut c [34]).2.2 with
      | false =>
        have HR : Hid (Tok.skip (s.size + 1) s.data.toList = none) := by show _ = _; rw [HK.out, HS.out, if_pos h1, h2]; rfl
        rw [h2] at KC
        clear h1 h2 HS HQ HK
        generalize (Lib.cut c [34]).1 = c1 at *
        generalize (Lib.cut c [34]).2.1 = c2 at *
        go_wp2_with fail
        refine (KT _).out.mono ?_
        rintro e w1 ⟨rfl, hb1⟩
        have HB1 := hbw.trans (hb1.mono hbw.size)
        have HM1 := Lib.hid (HM.out.keep hb1)
        go_wp2_with fail
        refine (KP _).out.mono ?_
        rintro e w2 ⟨rfl, rfl⟩
        go_wp2_with fail
        refine (KC _ HM1.out).out.mono ?_
        rintro e w3 ⟨rfl, hb3⟩
        have HB3 := HB1.trans (hb3.mono HB1.size)
        go_wp2_with fail
        go_ret2
        rw [HR.out]
        exact ⟨rfl, HB3⟩
      | true =>
        have HR := HQ h1 h2
        rw [h2] at KC
        clear h1 h2 HS HQ
        generalize (Lib.cut c [34]).1 = c1 at *
        generalize (Lib.cut c [34]).2.1 = c2 at *
        go_wp2_with fail
        refine (KT _).out.mono ?_
        rintro e w1 ⟨rfl, hb1⟩
        have HB1 := hbw.trans (hb1.mono hbw.size)
        have HM1 := Lib.hid (HM.out.keep hb1)
        go_wp2_with fail
        refine (KP _).out.mono ?_
        rintro e w2 ⟨rfl, rfl⟩
        go_wp2_with fail
        refine (KC _ HM1.out).out.mono ?_
        rintro e w3 ⟨rfl, hb3⟩
        have HB3 := HB1.trans (hb3.mono HB1.size)
        go_wp2_with fail
        go_roundw
        case rel => exact ⟨f, c2, rfl, by have := HR.out.2; omega, by have := HR.out.2; omega, HK.out.trans HR.out.1, HB3⟩
        case measure =>
          have := HR.out.2
          simp [strLen_mk]; omega
end Go.Proofs.YtbflpocbjdccgaaGreatDoor.ImplSkip

namespace Go.Proofs.YtbflpocbjdccgaaGreatDoor.ImplTokens
open Go.RowKit
open Strs SpecTokens

set_option maxRecDepth 10000 in
set_option maxHeartbeats 1000000 in
theorem tokens_big (s : ByteArray) (w : World) (h4 : 4000 < s.size) :
    Calls Tryz.prog 33 #[.string s] w (SpecTokens.Read (Tok.tokens s) w) := by
  have HV := Lib.hid (Tok.tokens_long s h4)
  have h4i : (4000 : Int) < (s.size : Int) := by omega
  go_enter Tryz.func33, Tryz.ntmps33
  go_wp2_with fail
  go_ret2
  rw [HV.out]
  exact ⟨rfl, Below.refl _ _⟩

set_option maxRecDepth 10000 in
set_option maxHeartbeats 4000000 in
theorem tokens_small (s : ByteArray) (w : World) (hM : Max w) (h4 : ¬ 4000 < s.size) :
    Calls Tryz.prog 33 #[.string s] w (SpecTokens.Read (Tok.tokens s) w) := by
  obtain ⟨i0, hi, hz0, hz1, hz2⟩ := info_parts infoT
  have hsl := Tok.len_list s
  have HV : Hid (Tok.tokens s = Tok.from_ s 0 []) := Tok.tokens_short s h4
  have h4i : ¬ (4000 : Int) < (s.size : Int) := by omega
  go_enter Tryz.func33, Tryz.ntmps33
  go_wp2_with fail
  go_loopw [0, 4] (fun x v wr => ∃ (p : Nat) (acc : _root_.List Tok.T), p ≤ s.size ∧ acc.length ≤ 800 ∧ x = .string (Tok.rest s p) ∧ Tok.tokens s = Tok.from_ s p acc ∧
      wr.ownsRow w.heap.size 48 3 v acc.length (row acc) ∧ Below w.heap.size w wr) (fun x _ _ => ImplSkip.strLen x)
  case atStart => exact ⟨0, [], Nat.zero_le _, by simp, by rw [Tok.rest_zero], HV.out, World.ownsRow_nil _ _ _ _, Below.refl _ _⟩
  case round =>
    obtain ⟨p, acc, hpl, hacc, rfl, hgo, hown, hbw⟩ := hrel
    have HGO := Lib.hid hgo; clear hgo
    obtain ⟨ra, rc, rfl⟩ := Kit.row_form hown
    have HO := Lib.hid hown; clear hown
    have hbs := hbw.size
    have HM := Lib.hid (hM.keep hbw)
    have hrz := Tok.rest_size s p
    have KS := Lib.hid (ImplSkip.skip_any (Tok.rest s p) wr HM.out (by omega))
    have HF := Lib.hid (Tok.skip_from s acc ((Tok.rest s p).size + 1) p hpl (by omega))
    rw [Tok.rest_data] at KS
    have HLEN : Hid (ImplSkip.strLen (.string (Tok.rest s p)) = s.size - p) := hrz
    generalize Tok.skip ((Tok.rest s p).size + 1) (s.data.toList.drop p) = r at *
    cases r with
    | none =>
      have HN : Hid (Tok.tokens s = none) := HGO.out.trans HF.out
      go_wp2_with fail
      refine KS.out.mono ?_
      rintro e w1 ⟨rfl, hb1⟩
      have HB1 := hbw.trans (hb1.mono hbs)
      go_wp2_with fail
      go_ret2
      rw [HN.out]
      exact ⟨rfl, HB1⟩
    | some m =>
      obtain ⟨q, hpq, hql, rfl, hfr, hnx⟩ := HF.out
      have HNX := Lib.hid hnx; clear hnx
      have HG2 : Hid (Tok.tokens s = Tok.from_ s q acc) := HGO.out.trans hfr
      clear HGO hfr HF
      have HR : Hid ((⟨(s.data.toList.drop q).toArray⟩ : ByteArray) = Tok.rest s q) := Tok.ba_ext (by rw [Tok.rest_data])
      unfold ImplSkip.Left at KS
      simp only [HR.out] at KS
      have hqz := Tok.rest_size s q
      by_cases hlt : q < s.size
      · have hlt' : q < s.data.toList.length := by rw [hsl]; exact hlt
        have hp0 : 0 < (Tok.rest s q).size := by omega
        have hx : s.data.toList[q]'hlt' = (Tok.rest s q)[0]'hp0 := by
          have h1 : 0 < (Tok.rest s q).data.toList.length := by rw [Tok.len_list]; exact hp0
          show _ = (Tok.rest s q).data.toList[0]'h1
          simp only [Tok.rest_data, _root_.List.getElem_drop, Nat.add_zero]
        have hne : ((Tok.rest s q).toList == []) = false := by
          rw [ByteArray.toList_eq, beq_eq_false_iff_ne]; intro h
          have h2 : (Tok.rest s q).size = 0 := by rw [← Tok.len_list, h]; rfl
          omega
        have HSH := Lib.hid (Tok.next_rest s q (s.data.toList[q]'hlt') hql)
        have KT := fun w h => Lib.hid (ImplRead.token_any (Tok.rest s q) w h (by omega) hp0)
        have HST := fun t e => Lib.hid (Tok.next_step s q hlt' t e)
        obtain ⟨hn1, hn2⟩ := HNX.out hlt'
        have H1 := Lib.hid (Tok.from_none s q acc hlt' hn1 hn2)
        have H2 := fun t e => Lib.hid (Tok.from_full s q acc hlt' hn1 hn2 t e)
        have H3 := fun t e => Lib.hid (Tok.from_more s q acc hlt' hn1 hn2 t e)
        rw [hx] at HSH H1
        simp only [hx] at H2 H3 HST
        have HRR := fun e => Lib.hid (show (Tok.rest s q).extract e (Tok.rest s q).size = Tok.rest s (q + e) from by
          rw [show (Tok.rest s q).extract e (Tok.rest s q).size = Tok.rest (Tok.rest s q) e from rfl, Tok.rest_rest])
        clear hn1 hn2 hx HNX HR
        generalize Tok.next s q ((Tok.rest s q)[0]'hp0) = u at *
        generalize Tok.next (Tok.rest s q) 0 ((Tok.rest s q)[0]'hp0) = r at *
        generalize Tok.rest s q = y at *
        cases r with
        | none =>
          have hu : u = none := HSH.out
          have HN : Hid (Tok.tokens s = none) := HG2.out.trans (H1.out hu)
          clear H1 H2 H3 HST HSH HG2
          go_wp2_with fail
          refine KS.out.mono ?_
          rintro e w1 ⟨rfl, hb1⟩
          have HB1 := hbw.trans (hb1.mono hbs)
          have HM1 := Lib.hid (HM.out.keep hb1)
          go_wp2_with fail
          refine (KT _ HM1.out).out.mono ?_
          rintro e w2 ⟨k, t, n, rfl, hb2⟩
          have HB2 := HB1.trans (hb2.mono HB1.size)
          go_wp2_with fail
          go_ret2
          rw [HN.out]
          exact ⟨rfl, HB2.alloc HB2.size _⟩
        | some z =>
          obtain ⟨t, e0⟩ := z
          have hu : u = some (t, q + e0) := HSH.out
          obtain ⟨hpe, hes, hk⟩ := (HST t (q + e0)).out hu
          have e00 : ((e0 : Int) == 0) = false := by rw [beq_eq_false_iff_ne]; omega
          have HE := HRR e0
          clear HRR
          by_cases h8 : (acc.length : Int) = 800
          · have t8 : ((acc.length : Int) == 800) = true := by rw [beq_iff_eq]; exact h8
            have HN : Hid (Tok.tokens s = none) := HG2.out.trans ((H2 t (q + e0)).out hu (by omega))
            clear H1 H2 H3 HST HSH HG2 hk
            go_wp2_with fail
            refine KS.out.mono ?_
            rintro e w1 ⟨rfl, hb1⟩
            have HB1 := hbw.trans (hb1.mono hbs)
            have HM1 := Lib.hid (HM.out.keep hb1)
            go_wp2_with fail
            refine (KT _ HM1.out).out.mono ?_
            rintro e w2 ⟨rfl, hb2⟩
            have HB2 := HB1.trans (hb2.mono HB1.size)
            go_wp2_with fail
            go_ret2
            rw [HN.out]
            exact ⟨rfl, HB2.alloc HB2.size _⟩
          · have t8 : ((acc.length : Int) == 800) = false := by rw [beq_eq_false_iff_ne]; exact h8
            have HG3 : Hid (Tok.tokens s = Tok.from_ s (q + e0) (acc ++ [t])) := HG2.out.trans ((H3 t (q + e0)).out hu (by omega))
            clear H1 H2 H3 HST HSH HG2 hk
            go_wp2_with fail
            refine KS.out.mono ?_
            rintro e w1 ⟨rfl, hb1⟩
            have HB1 := hbw.trans (hb1.mono hbs)
            have HM1 := Lib.hid (HM.out.keep hb1)
            have HO1 := Lib.hid (own_keep HO.out hb1)
            clear HO
            go_wp2_with fail
            refine (KT _ HM1.out).out.mono ?_
            rintro e w2 ⟨rfl, hb2⟩
            have HB2 : Hid (Below w.heap.size w w2) := HB1.trans (hb2.mono HB1.size)
            have hs2 : w.heap.size ≤ w2.heap.size := HB2.out.size
            have HO2 := Lib.hid (own_keep HO1.out hb2)
            clear HO1 hb1 hb2 HB1 hbw
            go_wp2_with (at_builtin; go_must (refine wpList_append_own _ rfl _ _ 31 rfl w.heap.size 48 i0 (.agg #[.int .i64 0, .string ByteArray.empty, .int .i64 0]) 3 32 Tryz.underlying31 hi hz0 hz1 hz2 rfl (by decide) _ _ _ rfl ((HO2.out.alloc _).alloc _) ⟨w2.heap.size + 1, 0, none⟩ 1 1 [.int .i64 t.kind, .string t.text, .int .i64 t.num] rfl rfl ?c1 ?c2 ?c3 ?c4 ?c5 ?_))
            case c1 => exact three_cells2 w2 _ _ _ _ _
            case c2 => exact three_one _ _ _
            case c3 => unfold maxLen; omega
            case c4 => omega
            case c5 => simp; omega
            intro v' w3 hown' hgr _
            have HOWN := Lib.hid hown'
            have HGR := Lib.hid hgr
            clear hown' hgr
            go_wp2_with fail
            go_roundw
            case rel =>
              refine ⟨q + e0, acc ++ [t], hes, by simp; omega, by first | rw [HE.out] | rw [← hqz, HE.out], HG3.out, ?_, ?_⟩
              · rw [row_snoc]
                simpa [cells] using HOWN.out
              · exact app_below3 (Nat.le_refl _) (HB2.out.alloc hs2 _) (HO2.out.alloc _) HGR.out
            case measure =>
              rw [HLEN.out]
              simp [ImplSkip.strLen]; omega
      · have hnil : ((Tok.rest s q).toList == []) = true := by
          rw [ByteArray.toList_eq, beq_iff_eq]
          exact _root_.List.eq_nil_of_length_eq_zero (by rw [Tok.len_list]; omega)
        have HE : Hid (Tok.tokens s = some acc) := HG2.out.trans (Tok.from_end s q acc hlt)
        clear HNX HG2
        go_wp2_with fail
        refine KS.out.mono ?_
        rintro e w1 ⟨rfl, hb1⟩
        have HB1 := hbw.trans (hb1.mono hbs)
        have HO1 := Lib.hid (own_keep HO.out hb1)
        go_wp2_with fail
        go_ret2
        rw [HE.out]
        exact ⟨_, rfl, HO1.out, HB1⟩

theorem tokens_any (s : ByteArray) (w : World) (hM : Max w) :
    Calls Tryz.prog 33 #[.string s] w (SpecTokens.Read (Tok.tokens s) w) := by
  by_cases h : 4000 < s.size
  · exact tokens_big s w h
  · exact tokens_small s w hM h
end Go.Proofs.YtbflpocbjdccgaaGreatDoor.ImplTokens
