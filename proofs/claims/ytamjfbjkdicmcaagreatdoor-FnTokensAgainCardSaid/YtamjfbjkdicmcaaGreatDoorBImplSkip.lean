/-
  impl.skipBlanks: what stands behind spaces, line feeds, tabs and comments. It writes nothing that was there.
-/
import Derived.Test.YtamjfbjkdicmcaaGreatDoorBCutTrim
import Derived.Test.YtamjfbjkdicmcaaGreatDoorBMax
import Derived.Test.YtamjfbjkdicmcaaGreatDoorBReadMath
import Derived.Shelf.Strings.SlTrimAscii
namespace Go.Proofs.YtamjfbjkdicmcaaGreatDoor.ImplSkip
open Go.RowKit
open Strs
theorem trim_any (s : ByteArray) (w : World) :
    Calls Tryz.prog 19 #[.string s, .string ⟨#[32, 10, 9]⟩] w fun e w' => e = .returned (.string ⟨(Lib.trimLeftS s.data.toList [32, 10, 9]).toArray⟩) ∧ Below w.heap.size w w' :=
  Any.strings_TrimLeft_laid Shelf.lays161 (by kernel_rfl) s ⟨#[32, 10, 9]⟩ w (by decide) (ascii_of_all (by decide))
def Left (r : Option (List UInt8)) (w : World) (e : Ending) (w' : World) : Prop := match r with
  | none => e = .returned (.tuple #[.string ⟨#[]⟩, .bool false]) ∧ Below w.heap.size w w'
  | some l => e = .returned (.tuple #[.string ⟨l.toArray⟩, .bool true]) ∧ Below w.heap.size w w'
theorem cutp_any (l : List UInt8) (w : World) :
    Calls Tryz.prog 20 #[.string ⟨l.toArray⟩, .string ⟨#[34]⟩] w fun e w' => e = .returned (.tuple #[.string ⟨(Lib.trimPrefix l [34]).toArray⟩, .bool (Lib.hasPrefix l [34])]) ∧ w' = w := Shelf.strings_CutPrefix ⟨l.toArray⟩ ⟨#[34]⟩ w
theorem cut_any (l : List UInt8) (w : World) (hM : Max w) (hl : l.length ≤ 1048576) :
    Calls Tryz.prog 21 #[.string ⟨l.toArray⟩, .string ⟨#[34]⟩] w fun e w' => e = .returned (.tuple #[.string ⟨(Lib.cut l [34]).1.toArray⟩, .string ⟨(Lib.cut l [34]).2.1.toArray⟩, .bool (Lib.cut l [34]).2.2]) ∧ Below w.heap.size w w' := by
  obtain ⟨m, hm⟩ := hM
  refine (Shelf.strings_Cut ⟨l.toArray⟩ ⟨#[34]⟩ m w (by rw [← Tok.len_list]; show l.length < _; omega) hm).mono ?_
  rintro e w' ⟨h, n, rfl⟩
  exact ⟨h, below_drewN (Below.refl _ _) n⟩
def strLen (v : Value) : Nat := match v with | .string b => b.size | _ => 0
theorem strLen_mk (l : List UInt8) : strLen (.string ⟨l.toArray⟩) = l.length := by
  show (⟨l.toArray⟩ : ByteArray).size = _
  rw [← Tok.len_list]
theorem skip_more (f : Nat) (l : List UInt8) (h1 : Lib.hasPrefix (Lib.trimLeftS l [32, 10, 9]) [34] = true) (h2 : (Lib.cut (Lib.trimPrefix (Lib.trimLeftS l [32, 10, 9]) [34]) [34]).2.2 = true) :
    Tok.skip (f + 1) l = Tok.skip f (Lib.cut (Lib.trimPrefix (Lib.trimLeftS l [32, 10, 9]) [34]) [34]).2.1 ∧ (Lib.cut (Lib.trimPrefix (Lib.trimLeftS l [32, 10, 9]) [34]) [34]).2.1.length < l.length := by
  constructor
  · rw [Tok.skip]; simp only [if_pos h1, if_pos h2]
  · have h3 : (Lib.trimLeftS l [32, 10, 9]).length ≤ l.length := by
      unfold Lib.trimLeftS
      exact (List.dropWhile_sublist _).length_le
    generalize Lib.trimLeftS l [32, 10, 9] = m at *
    have h4 : Lib.trimPrefix m [34] = m.drop 1 := by unfold Lib.trimPrefix; rw [if_pos h1]; rfl
    rw [h4] at h2 ⊢
    have h5 : 0 < m.length := by
      cases m with
      | nil => exact absurd h1 (by decide)
      | cons c m => simp
    rw [Tok.cut_one] at h2 ⊢
    split
    · show ((m.drop 1).drop _).length < _
      rw [List.length_drop, List.length_drop]; omega
    · next h => rw [if_neg h] at h2; cases h2
set_option maxRecDepth 10000 in
set_option maxHeartbeats 1000000 in
theorem skip_any (s : ByteArray) (w : World) (hM : Max w) (hs : s.size ≤ 1048576) :
    Calls Tryz.prog 10 #[.string s] w (Left (Tok.skip (s.size + 1) s.data.toList) w) := by
  have hsl := Tok.len_list s
  go_enter Tryz.func10, Tryz.ntmps10
  go_wp2_with fail
  go_loopw [0] (fun v wr => ∃ (f : Nat) (l : List UInt8), v = .string ⟨l.toArray⟩ ∧ l.length ≤ s.size ∧ l.length < f ∧ Tok.skip (s.size + 1) s.data.toList = Tok.skip f l ∧ Below w.heap.size w wr) (fun v _ => strLen v)
  case atStart => exact ⟨s.size + 1, s.data.toList, rfl, by omega, by omega, rfl, Below.refl _ _⟩
  case round =>
    obtain ⟨f, l, rfl, hl, hf, hk, hbw⟩ := hrel
    have HK := Lib.hid hk; clear hk
    obtain ⟨f, rfl⟩ : ∃ g, f = g + 1 := ⟨f - 1, by have := HK; omega⟩
    have HM := Lib.hid (hM.keep hbw)
    have KT : ∀ w, Hid (Calls Tryz.prog 19 #[.string ⟨l.toArray⟩, .string ⟨#[32, 10, 9]⟩] w fun e w' => e = .returned (.string ⟨(Lib.trimLeftS l [32, 10, 9]).toArray⟩) ∧ Below w.heap.size w w') := fun w => trim_any ⟨l.toArray⟩ w
    have HS : Hid (Tok.skip (f + 1) l = (if Lib.hasPrefix (Lib.trimLeftS l [32, 10, 9]) [34] = true then (if (Lib.cut (Lib.trimPrefix (Lib.trimLeftS l [32, 10, 9]) [34]) [34]).2.2 = true then Tok.skip f (Lib.cut (Lib.trimPrefix (Lib.trimLeftS l [32, 10, 9]) [34]) [34]).2.1 else none) else some (Lib.trimLeftS l [32, 10, 9]))) := rfl
    have HQ := fun h1 h2 => Lib.hid (skip_more f l h1 h2)
    have hml : (Lib.trimPrefix (Lib.trimLeftS l [32, 10, 9]) [34]).length ≤ 1048576 := by
      have h1 : (Lib.trimLeftS l [32, 10, 9]).length ≤ l.length := by
        unfold Lib.trimLeftS
        exact (List.dropWhile_sublist _).length_le
      have h2 : (Lib.trimPrefix (Lib.trimLeftS l [32, 10, 9]) [34]).length ≤ (Lib.trimLeftS l [32, 10, 9]).length := by
        unfold Lib.trimPrefix
        split
        · rw [List.length_drop]; omega
        · exact Nat.le_refl _
      omega
    generalize Lib.trimLeftS l [32, 10, 9] = m at *
    have KP := fun w => Lib.hid (cutp_any m w)
    cases h1 : Lib.hasPrefix m [34] with
    | false =>
      have HR : Hid (Tok.skip (s.size + 1) s.data.toList = some m) := by show _ = _; rw [HK.out, HS.out, h1]; rfl
      rw [h1] at KP
      clear h1 HS HQ HK
      go_wp2_with fail
      refine (KT _).out.mono ?_
      rintro e w1 ⟨rfl, hb1⟩
      have HB1 := hbw.trans (hb1.mono hbw.size)
      go_wp2_with fail
      refine (KP _).out.mono ?_
      rintro e w2 ⟨rfl, rfl⟩
      go_wp2_with fail
      go_ret2
      rw [HR.out]
      exact ⟨rfl, HB1⟩
    | true =>
      rw [h1] at KP
      have KC := fun w h => Lib.hid (cut_any (Lib.trimPrefix m [34]) w h hml)
      generalize Lib.trimPrefix m [34] = c at *
      cases h2 : (Lib.cut c [34]).2.2 with
      | false =>
        have HR : Hid (Tok.skip (s.size + 1) s.data.toList = none) := by show _ = _; rw [HK.out, HS.out, if_pos h1, h2]; rfl
        rw [h2] at KC
        clear h1 h2 HS HQ HK
        generalize (Lib.cut c [34]).1 = c1 at *
        generalize (Lib.cut c [34]).2.1 = c2 at *
        go_wp2_with fail
        refine (KT _).out.mono ?_
        rintro e w1 ⟨rfl, hb1⟩
        have HB1 := hbw.trans (hb1.mono hbw.size)
        have HM1 := Lib.hid (HM.out.keep hb1)
        go_wp2_with fail
        refine (KP _).out.mono ?_
        rintro e w2 ⟨rfl, rfl⟩
        go_wp2_with fail
        refine (KC _ HM1.out).out.mono ?_
        rintro e w3 ⟨rfl, hb3⟩
        have HB3 := HB1.trans (hb3.mono HB1.size)
        go_wp2_with fail
        go_ret2
        rw [HR.out]
        exact ⟨rfl, HB3⟩
      | true =>
        have HR := HQ h1 h2
        rw [h2] at KC
        clear h1 h2 HS HQ
        generalize (Lib.cut c [34]).1 = c1 at *
        generalize (Lib.cut c [34]).2.1 = c2 at *
        go_wp2_with fail
        refine (KT _).out.mono ?_
        rintro e w1 ⟨rfl, hb1⟩
        have HB1 := hbw.trans (hb1.mono hbw.size)
        have HM1 := Lib.hid (HM.out.keep hb1)
        go_wp2_with fail
        refine (KP _).out.mono ?_
        rintro e w2 ⟨rfl, rfl⟩
        go_wp2_with fail
        refine (KC _ HM1.out).out.mono ?_
        rintro e w3 ⟨rfl, hb3⟩
        have HB3 := HB1.trans (hb3.mono HB1.size)
        go_wp2_with fail
        go_roundw
        case rel => exact ⟨f, c2, rfl, by have := HR.out.2; omega, by have := HR.out.2; omega, HK.out.trans HR.out.1, HB3⟩
        case measure =>
          have := HR.out.2
          simp [strLen_mk]; omega
end Go.Proofs.YtamjfbjkdicmcaaGreatDoor.ImplSkip
