/-
  impl's printBool, cutText, withArticle, printArray.
-/
import Derived.Test.YtoaocpfehdcfgaaGreatDoorBBldB
import Derived.Test.YtoaocpfehdcfgaaGreatDoorBImplFormat
import Derived.Test.YtoaocpfehdcfgaaGreatDoorBImplStoL
import Derived.Test.YtoaocpfehdcfgaaGreatDoorBPvContains
import Derived.Deep.QuietTactic
import Derived.BigQuiet
import Derived.Lib.QuietBelow
namespace Go.Proofs.YtoaocpfehdcfgaaGreatDoor.ImplPv
open Go.RowKit
open Strs Tree Core Sto Pv BldB Go.Proofs.YtoaocpfehdcfgaaGreatDoor.Data
open ImplSto (eq_yes eq_no)
open SpecCore (grown_below)
set_option linter.unusedVariables false
set_option linter.unusedSimpArgs false
theorem bytes_ext {a b : ByteArray} (h : a.data.toList = b.data.toList) : a = b := ByteArray.ext (Array.ext' h)
theorem bool_any (b : Bool) (w : World) :
    Calls Tryz.prog 45 #[.bool b] w fun e w' => e = .returned (.string (if b then ⟨#[116, 114, 117, 101]⟩ else ⟨#[102, 97, 108, 115, 101]⟩)) ∧ w = w' := by
  cases b
  all_goals
    go_enter Tryz.func45, Tryz.ntmps45
    go_wp2_with fail
    go_ret
    exact ⟨rfl, rfl⟩
theorem cut_is (s : ByteArray) (n : Nat) (hn : n = min s.size 200) : s.extract 0 n = tx (cut s.data.toList) := by
  apply bytes_ext
  rw [tx_list]
  unfold cut
  have hl := Tok.len_list s
  subst hn
  by_cases h : s.size ≤ 200
  · rw [Nat.min_eq_left h, List.take_of_length_le (by omega)]
    simp
  · rw [Nat.min_eq_right (by omega)]
    simp
theorem cut_any (s : ByteArray) (w : World) :
    Calls Tryz.prog 47 #[.string s] w fun e w' => e = .returned (.string (tx (cut s.data.toList))) ∧ w = w' := by
  by_cases h : s.size ≤ 200
  · have g : (s.size : Int) ≤ 200 := by omega
    have hm : min (s.size : Int) 200 = (s.size : Int) := by omega
    rw [← (show s = tx (cut s.data.toList) by
      apply bytes_ext
      rw [tx_list]
      unfold cut
      rw [List.take_of_length_le (by rw [Tok.len_list]; exact h)])]
    go_enter Tryz.func47, Tryz.ntmps47
    go_wp2_with fail
    go_ret
    exact ⟨rfl, rfl⟩
  · have g : ¬ (s.size : Int) ≤ 200 := by omega
    have g2 : (200 : Int) ≤ (s.size : Int) := by omega
    have hm : min (s.size : Int) 200 = 200 := by omega
    rw [← cut_is s 200 (by omega)]
    go_enter Tryz.func47, Tryz.ntmps47
    go_wp2_with fail
    go_ret
    exact ⟨rfl, rfl⟩
theorem first_is {nm : ByteArray} (h1 : 1 ≤ nm.size) : ∃ c, nm.extract 0 1 = ⟨#[c]⟩ := by
  have hl := Tok.len_list nm
  cases hd : nm.data.toList with
  | nil => rw [hd] at hl; simp at hl; omega
  | cons c r =>
    refine ⟨c, bytes_ext ?_⟩
    have : (nm.extract 0 1).data.toList = nm.data.toList.take 1 := by simp
    rw [this, hd]; rfl
theorem art_an {nm : ByteArray} (h : Tok.has vowels (nm.extract 0 1) = true) : (⟨#[97, 110, 32]⟩ ++ nm : ByteArray) = tx (art nm) := by
  apply bytes_ext
  rw [tx_list]
  unfold art
  rw [h]
  simp
theorem art_a {nm : ByteArray} (h : Tok.has vowels (nm.extract 0 1) = false) : (⟨#[97, 32]⟩ ++ nm : ByteArray) = tx (art nm) := by
  apply bytes_ext
  rw [tx_list]
  unfold art
  rw [h]
  simp
theorem article_any (nm : ByteArray) (w : World) (h1 : 1 ≤ nm.size) (h2 : nm.size ≤ 1048576) :
    Calls Tryz.prog 50 #[.string nm] w fun e w' => e = .returned (.string (tx (art nm))) ∧ Below w.heap.size w w' := by
  have KH : Hid (Calls Tryz.prog 78 #[.string ⟨#[65, 69, 73, 79, 85]⟩, .string (nm.extract 0 1)] w fun e w' => e = .returned (.bool (Tok.has vowels (nm.extract 0 1))) ∧ w' = w) := Lib.hid (by
    obtain ⟨c, hc⟩ := first_is h1
    rw [hc]
    exact contains_any c w)
  have g1 : (1 : Int) ≤ (nm.size : Int) := by omega
  cases hb : Tok.has vowels (nm.extract 0 1) with
  | true =>
    rw [← art_an hb]
    rw [hb] at KH
    clear hb
    go_enter Tryz.func50, Tryz.ntmps50
    go_wp2_with fail
    refine KH.out.mono ?_
    rintro e w1 ⟨rfl, rfl⟩
    go_wp2_with fail
    go_ret
    exact ⟨rfl, Below.refl _ _⟩
  | false =>
    rw [← art_a hb]
    rw [hb] at KH
    clear hb
    go_enter Tryz.func50, Tryz.ntmps50
    go_wp2_with fail
    refine KH.out.mono ?_
    rintro e w1 ⟨rfl, rfl⟩
    go_wp2_with fail
    go_ret
    exact ⟨rfl, Below.refl _ _⟩
def arrF (s : St) : Nat → List V → List UInt8
  | 0 => fun _ => [46, 46, 46]
  | d + 1 => whole (printD s d)
theorem printD_eq (s : St) (d : Nat) (v : V) : printD s d v = printV s (arrF s d) v := by
  cases d with
  | zero => rw [printD]; rfl
  | succ d => rw [printD]; rfl
def OkI (s : St) (d : Nat) : Prop := ∀ (aI : Int) (v : V) (w : World) (sb : Nat), aI = 3 - (d : Int) → SAt w sb s → Max w → fitB s.classes.length s.objects.length 1000 v = true → v.text.size ≤ 1048576 →
  Calls Tryz.prog 22 #[.pointer (some ⟨sb, 0, none⟩), .agg #[.int .i64 v.kind, .int .i64 v.num, .string v.text], .int .i64 aI] w fun e w' => e = .returned (.string (tx (printD s d v))) ∧ Below w.heap.size w w'
set_option maxRecDepth 10000 in
set_option maxHeartbeats 16000000 in
theorem array_any {s : St} {d : Nat} (hd : d ≤ 3) (hic : infosB s.classes = true) (ih : ∀ d', d = d' + 1 → OkI s d') (aI : Int) (haI : aI = 3 - (d : Int)) (fs : List V) (w : World) (sb : Nat) (h : SAt w sb s) (hM : Max w) (hfs : ∀ v, v ∈ fs → fitB s.classes.length s.objects.length 1000 v = true) (hsz : ∀ v, v ∈ fs → v.text.size ≤ 1048576) (hn : fs.length ≤ 50) (vf : Value) (hvf : VsAt 0 w vf fs) :
    Calls Tryz.prog 49 #[.pointer (some ⟨sb, 0, none⟩), vf, .int .i64 aI] w fun e w' => e = .returned (.string (tx (arrF s d fs))) ∧ Below w.heap.size w w' := by
  have HF := Lib.hid hvf
  obtain ⟨fa, fc, rfl, hfm, -⟩ := hvf
  unfold maxLen at hfm
  cases d with
  | zero =>
    have g : (aI == 3) = true := (eq_yes (by omega)).1
    rw [show tx (arrF s 0 fs) = ⟨#[46, 46, 46]⟩ from rfl]
    clear h hM hfs hsz ih
    go_enter Tryz.func49, Tryz.ntmps49
    go_wp2_with fail
    go_ret
    exact ⟨rfl, Below.refl _ _⟩
  | succ d =>
  have g : (aI == 3) = false := (eq_no (by omega)).1
  have hok := ih d rfl
  have HS := Lib.hid h
  have HMX := Lib.hid hM
  have KP := fun (v : V) (hv : v ∈ fs) w' (q : SAt w' sb s) (qm : Max w') => Lib.hid (hok (aI + 1) v w' sb (by omega) q qm (hfs v hv) (hsz v hv))
  have HLEN := Lib.hid (fun v hv => printD_len hic d v (show valB v = true by have := hfs v hv; unfold fitB at this; rw [Bool.and_eq_true] at this; exact this.1))
  rw [show arrF s (d + 1) fs = whole (printD s d) fs from rfl]
  clear h hM hfs hsz ih hok
  have haR : aI ≤ 2 ∧ -1 ≤ aI := by omega
  clear haI
  generalize printD s d = f at *
  obtain ⟨F, hF⟩ : ∃ F, F = fs.length := ⟨_, rfl⟩
  rw [← hF] at hfm hn HF ⊢
  have HFL := Lib.hid hF
  clear hF
  have HIL : Hid (∀ i, i ≤ F → (inner f fs i).length ≤ i * 201) := Lib.hid fun i hi => inner_len f fs 200 (fun v hv => HLEN.out v hv) i (by rw [← HFL.out]; exact hi)
  have K0 := Lib.hid (put_byte (fresh_st w) 40 (by simp))
  rw [show (((40 : UInt8).toNat : Nat) : Int) = 40 from rfl, List.nil_append, show ([40] : List UInt8) = 40 :: inner f fs 0 from rfl] at K0
  go_enter Tryz.func49, Tryz.ntmps49
  go_wp2_with fail
  refine K0.out.mono ?_
  rintro e w1 ⟨rfl, hs1, -⟩
  have H1 := Lib.hid hs1
  clear hs1 K0
  go_wp2_with fail
  go_loopw [8, 9, 15] (fun _ _ j wr => ∃ i : Nat, i ≤ F ∧ j = .int .i64 i ∧ Hid (St w w.heap.size (40 :: inner f fs i) wr)) (fun _ _ j _ => F - (intOf j).toNat)
  case atStart => exact ⟨0, by omega, rfl, H1⟩
  case round =>
    obtain ⟨i, hi, rfl, HB⟩ := hrel
    clear H1
    by_cases hlt : i < F
    case neg =>
      have HW : Hid (tx (cut (40 :: inner f fs i ++ [41])) = tx (whole f fs)) := Lib.hid (by
        have hiF : i = F := by omega
        unfold whole; rw [hiF, HFL.out]; rfl)
      have hl := HIL.out i hi
      have K1 := Lib.hid (put_byte HB.out 41 (by simp only [List.length_cons]; have : i * 201 ≤ 50 * 201 := Nat.mul_le_mul_right _ (by omega); omega))
      rw [show (((41 : UInt8).toNat : Nat) : Int) = 41 from rfl] at K1
      go_wp2_with fail
      refine K1.out.mono ?_
      rintro e w3 ⟨rfl, hs3, -⟩
      have H3 := Lib.hid hs3
      have KS := Lib.hid (string_any hs3)
      clear hs3 K1
      go_wp2_with fail
      refine KS.out.mono ?_
      rintro e w4 ⟨rfl, hb4⟩
      have H4 := Lib.hid (H3.out.base.trans hb4)
      have KC := fun w' => Lib.hid (cut_any (tx (40 :: inner f fs i ++ [41])) w')
      rw [tx_list, HW.out] at KC
      clear hb4 KS
      go_wp2_with fail
      refine (KC _).out.mono ?_
      rintro e w5 ⟨rfl, rfl⟩
      go_wp2_with fail
      go_ret
      exact ⟨rfl, H4.out⟩
    have hil : i < fs.length := by rw [← HFL.out]; exact hlt
    obtain ⟨v, hv⟩ : ∃ v, fs[i]? = some v := ⟨_, List.getElem?_eq_getElem hil⟩
    have hvm := List.mem_of_getElem? hv
    obtain ⟨fb, fo, rfl, -, d0, d1, d2, -⟩ := RowOf.at (RowOf.keep HF.out fun _ _ _ _ q => q.below HB.out.base) hv
    have hl := HIL.out i hi
    have hib : i * 201 ≤ 50 * 201 := Nat.mul_le_mul_right _ (by omega)
    obtain ⟨W, hW⟩ : ∃ W, W = wr.alloc (.cells #[.int .i64 v.kind, .int .i64 v.num, .string v.text] 37) := ⟨_, rfl⟩
    have hbW : Below wr.heap.size wr W := by rw [hW]; exact (Below.refl _ _).alloc (Nat.le_refl _) _
    have HSW := Lib.hid (St.below HB.out hbW)
    have hbx := Box.new wr #[.int .i64 v.kind, .int .i64 v.num, .string v.text] 37 (by decide)
    rw [← hW] at hbx
    have HBX := Lib.hid hbx
    have KL := Lib.hid (len_any HSW.out)
    have hwb : wr.heap.size ≠ w.heap.size := by have := HB.out.lt; omega
    have HWW := Lib.hid hW
    have KPV := KP v hvm
    have hvl := HLEN.out v hvm
    have HVV := Lib.hid hv
    clear hbW hbx hv hvm hW
    have hiI : (i : Int) < (F : Int) := by omega
    obtain ⟨vk, vm, vt⟩ := v
    simp only at *
    by_cases hbig : 200 < (40 :: inner f fs i).length
    · have gb : (200 : Int) < ((inner f fs i).length : Int) + 1 := by rw [List.length_cons] at hbig; omega
      have HW : Hid (tx (cut (40 :: inner f fs i ++ [41])) = tx (whole f fs)) := Lib.hid (by rw [← cut_early f fs i (by omega) hbig]; rfl)
      have K1 := Lib.hid (put_byte HSW.out 41 (by simp only [List.length_cons]; omega))
      rw [show (((41 : UInt8).toNat : Nat) : Int) = 41 from rfl] at K1
      go_upto_region 8 with fail
      rw [← HWW.out]
      go_wp2_with fail
      refine KL.out.mono ?_
      rintro e w3 ⟨rfl, rfl⟩
      go_wp2_with fail
      refine K1.out.mono ?_
      rintro e w3 ⟨rfl, hs3, -⟩
      have H3 := Lib.hid hs3
      have KS := Lib.hid (string_any hs3)
      clear hs3 K1
      go_wp2_with fail
      refine KS.out.mono ?_
      rintro e w4 ⟨rfl, hb4⟩
      have H4 := Lib.hid (H3.out.base.trans hb4)
      have KC := fun w' => Lib.hid (cut_any (tx (40 :: inner f fs i ++ [41])) w')
      rw [tx_list, HW.out] at KC
      clear hb4 KS
      go_wp2_with fail
      refine (KC _).out.mono ?_
      rintro e w5 ⟨rfl, rfl⟩
      go_wp2_with fail
      go_ret
      exact ⟨rfl, H4.out⟩
    have gb : ¬ (200 : Int) < ((inner f fs i).length : Int) + 1 := by rw [List.length_cons] at hbig; omega
    by_cases h0 : 0 < i
    · have g0 : (0 : Int) < (i : Int) := by omega
      have K1 := Lib.hid (put_byte HSW.out 32 (by simp only [List.length_cons]; omega))
      rw [show (((32 : UInt8).toNat : Nat) : Int) = 32 from rfl] at K1
      have HNEW : Hid (40 :: inner f fs i ++ [32] ++ (f ⟨vk, vm, vt⟩) = 40 :: inner f fs (i + 1)) := Lib.hid (by rw [inner_more f fs i _ h0 HVV.out]; simp)
      go_upto_region 8 with fail
      rw [← HWW.out]
      go_wp2_with fail
      refine KL.out.mono ?_
      rintro e w3 ⟨rfl, rfl⟩
      go_wp2_with fail
      refine K1.out.mono ?_
      rintro e w3 ⟨rfl, hs3, hf3⟩
      have H3 := Lib.hid hs3
      have hbx3 := HBX.out.fr hf3 hwb
      have x0 : w3.cell? ⟨wr.heap.size, 0, none⟩ = some (.int .i64 vk) := hbx3.cell 0
      have x1 : w3.cell? ⟨wr.heap.size, 1, none⟩ = some (.int .i64 vm) := hbx3.cell 1
      have x2 : w3.cell? ⟨wr.heap.size, 2, none⟩ = some (.string vt) := hbx3.cell 2
      have KQ := KPV w3 (HS.out.below hs3.base) (HMX.out.keep hs3.base)
      clear hs3 hf3 hbx3 K1 KL
      go_wp2_with fail
      refine KQ.out.mono ?_
      rintro e w4 ⟨rfl, hb4⟩
      have KW := Lib.hid (put_str (St.below H3.out hb4) (tx (f ⟨vk, vm, vt⟩)) (by rw [tx_size]; simp only [List.length_append, List.length_cons, List.length_nil]; omega))
      rw [tx_list, HNEW.out] at KW
      clear hb4 x0 x1 x2 d0 d1 d2 KQ
      go_wp2_with fail
      refine KW.out.mono ?_
      rintro e w5 ⟨rfl, hs5, -⟩
      have H5 := Lib.hid hs5
      clear hs5 KW
      go_wp2_with fail
      go_roundw
      case rel => exact ⟨i + 1, by omega, by go_num, H5⟩
      case measure => simp [intOf]; omega
    · have g0 : ¬ (0 : Int) < (i : Int) := by omega
      have HNEW : Hid (40 :: inner f fs i ++ (f ⟨vk, vm, vt⟩) = 40 :: inner f fs (i + 1)) := Lib.hid (by
        have hi0 : i = 0 := by omega
        have hv := HVV.out
        rw [hi0] at hv ⊢
        rw [inner_one f fs _ hv, inner_zero]; rfl)
      have hbx3 := HBX.out
      have x0 : W.cell? ⟨wr.heap.size, 0, none⟩ = some (.int .i64 vk) := hbx3.cell 0
      have x1 : W.cell? ⟨wr.heap.size, 1, none⟩ = some (.int .i64 vm) := hbx3.cell 1
      have x2 : W.cell? ⟨wr.heap.size, 2, none⟩ = some (.string vt) := hbx3.cell 2
      have KQ := KPV W (HS.out.below HSW.out.base) (HMX.out.keep HSW.out.base)
      clear hbx3
      go_upto_region 8 with fail
      rw [← HWW.out]
      go_wp2_with fail
      refine KL.out.mono ?_
      rintro e w3 ⟨rfl, rfl⟩
      go_wp2_with fail
      refine KQ.out.mono ?_
      rintro e w4 ⟨rfl, hb4⟩
      have KW := Lib.hid (put_str (St.below HSW.out hb4) (tx (f ⟨vk, vm, vt⟩)) (by rw [tx_size]; simp only [List.length_cons]; omega))
      rw [tx_list, HNEW.out] at KW
      clear hb4 x0 x1 x2 d0 d1 d2 KQ KL
      go_wp2_with fail
      refine KW.out.mono ?_
      rintro e w5 ⟨rfl, hs5, -⟩
      have H5 := Lib.hid hs5
      clear hs5 KW
      go_wp2_with fail
      go_roundw
      case rel => exact ⟨i + 1, by omega, by go_num, H5⟩
      case measure => simp [intOf]; omega
end Go.Proofs.YtoaocpfehdcfgaaGreatDoor.ImplPv
