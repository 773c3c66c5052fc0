/-
  Draws: spec.l2Draw and DrawTokens draw a text, a function of the bytes. They write nothing that was there but the cursor.
-/
import Derived.Test.YtamjfbjkdicmcaaGreatDoorBCurF
import Derived.Test.YtamjfbjkdicmcaaGreatDoorBKit
namespace Go.Proofs.YtamjfbjkdicmcaaGreatDoor.DrawTok
open Go.RowKit
open CurF
open Cur (grown_trans grown_cell)
def parts : List ByteArray := [⟨#[120]⟩, ⟨#[97, 116, 58]⟩, ⟨#[49, 50]⟩, ⟨#[39, 105, 116, 39, 39, 115, 39]⟩, ⟨#[35, 97, 116, 58, 112, 117, 116, 58]⟩, ⟨#[35, 43]⟩, ⟨#[43]⟩, ⟨#[47, 47]⟩, ⟨#[58, 61]⟩, ⟨#[94]⟩, ⟨#[46]⟩, ⟨#[91]⟩, ⟨#[93]⟩, ⟨#[58]⟩, ⟨#[99, 108, 97, 115, 115]⟩, ⟨#[101, 110, 100]⟩, ⟨#[124]⟩, ⟨#[32]⟩, ⟨#[10]⟩, ⟨#[34, 110, 111, 116, 101, 34]⟩, ⟨#[61, 61]⟩, ⟨#[57, 57, 57, 57, 57, 57, 57, 57, 57]⟩, ⟨#[49, 48, 48, 48, 48, 48, 48, 48, 48, 48]⟩, ⟨#[39]⟩, ⟨#[35]⟩, ⟨#[92, 92]⟩, ⟨#[97, 98, 99, 100, 101, 102, 103, 104, 105, 106, 107, 108, 109, 110, 111, 112, 113, 114, 115, 116, 117]⟩, ⟨#[49, 97]⟩, ⟨#[59]⟩, ⟨#[40]⟩, ⟨#[120, 58, 61]⟩, ⟨#[60, 61]⟩]
theorem parts_bd : ∀ s ∈ parts, s.size ≤ 21 := by
  intro s hs
  simp only [parts, List.mem_cons, List.not_mem_nil, or_false] at hs
  rcases hs with rfl | rfl | rfl | rfl | rfl | rfl | rfl | rfl | rfl | rfl | rfl | rfl | rfl | rfl | rfl | rfl | rfl | rfl | rfl | rfl | rfl | rfl | rfl | rfl | rfl | rfl | rfl | rfl | rfl | rfl | rfl | rfl <;> decide
theorem parts_at (w : World) : ∀ j, j < 32 → (w.alloc (.cells #[.string ⟨#[120]⟩, .string ⟨#[97, 116, 58]⟩, .string ⟨#[49, 50]⟩, .string ⟨#[39, 105, 116, 39, 39, 115, 39]⟩, .string ⟨#[35, 97, 116, 58, 112, 117, 116, 58]⟩, .string ⟨#[35, 43]⟩, .string ⟨#[43]⟩, .string ⟨#[47, 47]⟩, .string ⟨#[58, 61]⟩, .string ⟨#[94]⟩, .string ⟨#[46]⟩, .string ⟨#[91]⟩, .string ⟨#[93]⟩, .string ⟨#[58]⟩, .string ⟨#[99, 108, 97, 115, 115]⟩, .string ⟨#[101, 110, 100]⟩, .string ⟨#[124]⟩, .string ⟨#[32]⟩, .string ⟨#[10]⟩, .string ⟨#[34, 110, 111, 116, 101, 34]⟩, .string ⟨#[61, 61]⟩, .string ⟨#[57, 57, 57, 57, 57, 57, 57, 57, 57]⟩, .string ⟨#[49, 48, 48, 48, 48, 48, 48, 48, 48, 48]⟩, .string ⟨#[39]⟩, .string ⟨#[35]⟩, .string ⟨#[92, 92]⟩, .string ⟨#[97, 98, 99, 100, 101, 102, 103, 104, 105, 106, 107, 108, 109, 110, 111, 112, 113, 114, 115, 116, 117]⟩, .string ⟨#[49, 97]⟩, .string ⟨#[59]⟩, .string ⟨#[40]⟩, .string ⟨#[120, 58, 61]⟩, .string ⟨#[60, 61]⟩] 9)).cell? ⟨w.heap.size, j, none⟩ = some (.string (parts.getD j ByteArray.empty)) := by
  intro j hj
  rw [World.cell?_alloc_mark w _ _ (0, 0) j]
  obtain rfl | rfl | rfl | rfl | rfl | rfl | rfl | rfl | rfl | rfl | rfl | rfl | rfl | rfl | rfl | rfl | rfl | rfl | rfl | rfl | rfl | rfl | rfl | rfl | rfl | rfl | rfl | rfl | rfl | rfl | rfl | rfl : j = 0 ∨ j = 1 ∨ j = 2 ∨ j = 3 ∨ j = 4 ∨ j = 5 ∨ j = 6 ∨ j = 7 ∨ j = 8 ∨ j = 9 ∨ j = 10 ∨ j = 11 ∨ j = 12 ∨ j = 13 ∨ j = 14 ∨ j = 15 ∨ j = 16 ∨ j = 17 ∨ j = 18 ∨ j = 19 ∨ j = 20 ∨ j = 21 ∨ j = 22 ∨ j = 23 ∨ j = 24 ∨ j = 25 ∨ j = 26 ∨ j = 27 ∨ j = 28 ∨ j = 29 ∨ j = 30 ∨ j = 31 := by omega
  all_goals rfl
def stepF (len : Nat) (z : Nat → Int) (x : ByteArray × St) : ByteArray × St :=
  let s1 := (belowF len z 32 x.2).2
  let b := (belowF len z 4 s1).1 == 0
  ((x.1 ++ pickF len z parts x.2) ++ (if b = true then ByteArray.empty else ⟨#[32]⟩), (belowF len z 4 s1).2)
def loopF (len : Nat) (z : Nat → Int) : Nat → ByteArray × St → ByteArray × St
  | 0, x => x
  | n + 1, x => stepF len z (loopF len z n x)
theorem loopF_size (len : Nat) (z : Nat → Int) (x : ByteArray × St) (n : Nat) : (loopF len z n x).1.size ≤ x.1.size + 22 * n := by
  induction n with
  | zero => exact Nat.le_refl _
  | succ n ih =>
    have hp := parts_bd _ (pickF_mem len z parts (loopF len z n x).2 (by decide))
    rw [loopF, stepF]
    simp only
    rw [ByteArray.size_append, ByteArray.size_append]
    split
    · have : ByteArray.empty.size = 0 := rfl
      omega
    · have : (⟨#[32]⟩ : ByteArray).size = 1 := rfl
      omega
def textF (len : Nat) (z : Nat → Int) (s : St) : ByteArray := (loopF len z (belowF len z 14 s).1.toNat (ByteArray.empty, (belowF len z 14 s).2)).1
theorem textF_size (len : Nat) (z : Nat → Int) (s : St) : (textF len z s).size ≤ 308 := by
  have h := loopF_size len z (ByteArray.empty, (belowF len z 14 s).2) (belowF len z 14 s).1.toNat
  have hb := belowF_bd len z 14 s (by decide)
  have : ByteArray.empty.size = 0 := rfl
  unfold textF
  simp only at h
  omega
def Drawn (t : ByteArray) (g : Nat) (w : World) (e : Ending) (w' : World) : Prop := e = .returned (.string t) ∧ w.grownBy w' (some g)
set_option maxRecDepth 10000 in
set_option maxHeartbeats 2000000 in
theorem draw_any (g : Nat) (a : Option Addr) (len cap : Nat) (z : Nat → Int) (s : St) (w : World) (hc : Cur w g a len cap s) (hb : Bytes w g a len z) :
    Calls Tryz.prog 13 #[.pointer (some ⟨g, 0, none⟩)] w (Drawn (textF len z s) g w) := by
  have hlt := hc.lt
  have HC := Lib.hid hc; clear hc
  have HB := Lib.hid hb; clear hb
  go_enter Tryz.func13, Tryz.ntmps13
  go_wp2_with fail
  obtain ⟨W, hW, hcells, hcW, hbW, hgW⟩ : ∃ W, W = w.alloc (.cells #[.string ⟨#[120]⟩, .string ⟨#[97, 116, 58]⟩, .string ⟨#[49, 50]⟩, .string ⟨#[39, 105, 116, 39, 39, 115, 39]⟩, .string ⟨#[35, 97, 116, 58, 112, 117, 116, 58]⟩, .string ⟨#[35, 43]⟩, .string ⟨#[43]⟩, .string ⟨#[47, 47]⟩, .string ⟨#[58, 61]⟩, .string ⟨#[94]⟩, .string ⟨#[46]⟩, .string ⟨#[91]⟩, .string ⟨#[93]⟩, .string ⟨#[58]⟩, .string ⟨#[99, 108, 97, 115, 115]⟩, .string ⟨#[101, 110, 100]⟩, .string ⟨#[124]⟩, .string ⟨#[32]⟩, .string ⟨#[10]⟩, .string ⟨#[34, 110, 111, 116, 101, 34]⟩, .string ⟨#[61, 61]⟩, .string ⟨#[57, 57, 57, 57, 57, 57, 57, 57, 57]⟩, .string ⟨#[49, 48, 48, 48, 48, 48, 48, 48, 48, 48]⟩, .string ⟨#[39]⟩, .string ⟨#[35]⟩, .string ⟨#[92, 92]⟩, .string ⟨#[97, 98, 99, 100, 101, 102, 103, 104, 105, 106, 107, 108, 109, 110, 111, 112, 113, 114, 115, 116, 117]⟩, .string ⟨#[49, 97]⟩, .string ⟨#[59]⟩, .string ⟨#[40]⟩, .string ⟨#[120, 58, 61]⟩, .string ⟨#[60, 61]⟩] 9) ∧ (∀ j, j < 32 → W.cell? ⟨w.heap.size, j, none⟩ = some (.string (parts.getD j ByteArray.empty))) ∧ Cur W g a len cap s ∧ Bytes W g a len z ∧ w.grownBy W (some g) :=
    ⟨_, rfl, parts_at w, HC.out.below (Draw.alloc_below _ _), HB.out.below (Draw.alloc_below _ _), World.grownBy_alloc w _ _⟩
  rw [← hW]; clear hW HC HB
  have hne : w.heap.size ≠ g := by omega
  generalize w.heap.size = B at *
  have HCE := Lib.hid hcells; clear hcells
  have HBW := Lib.hid hbW; clear hbW
  have KB := Lib.hid (below_any g a len cap z 14 s W (by omega) (by omega) hcW HBW.out)
  have hbd := belowF_bd len z 14 s (by omega)
  have HT : Hid (textF len z s = (loopF len z (belowF len z 14 s).1.toNat (ByteArray.empty, (belowF len z 14 s).2)).1) := rfl
  clear hcW
  generalize belowF len z 14 s = r0 at *
  obtain ⟨n0, s0⟩ := r0
  obtain ⟨hn0, hn1⟩ := hbd
  simp only at hn0 hn1 HT
  obtain ⟨n, rfl⟩ := Int.eq_ofNat_of_zero_le hn0
  have HT2 : Hid (textF len z s = (loopF len z n (ByteArray.empty, s0)).1) := HT.out
  clear HT
  go_wp2_with fail
  refine KB.out.mono ?_
  rintro e w1 ⟨rfl, hc1, hg1⟩
  have HGW := Lib.hid hgW
  have HW1 := Lib.hid hg1
  have HC1 := Lib.hid hc1
  clear hc1 hg1 hgW KB
  go_wp2_with fail
  go_loopw [4, 6] (fun v j wr => ∃ (i : Nat) (x : ByteArray) (st : St), i ≤ n ∧ j = .int .i64 i ∧ v = .string x ∧ loopF len z i (ByteArray.empty, s0) = (x, st) ∧ Cur wr g a len cap st ∧ W.grownBy wr (some g)) (fun _ j _ => n - (intOf j).toNat)
  case atStart => exact ⟨0, ByteArray.empty, s0, by omega, rfl, rfl, rfl, HC1.out, HW1.out⟩
  case round =>
    obtain ⟨i, x, st, hi, rfl, rfl, hx, hcr, hgr⟩ := hrel
    have hxs : x.size ≤ 22 * i := by
      have h := loopF_size len z (ByteArray.empty, s0) i
      rw [hx] at h
      have : ByteArray.empty.size = 0 := rfl
      simp only at h
      omega
    have HX := Lib.hid hx; clear hx
    have HCR := Lib.hid hcr; clear hcr
    have HGR := Lib.hid hgr; clear hgr
    by_cases hlt2 : i < n
    · have KP := Lib.hid (pick_any g a len cap z B 32 32 parts st wr rfl (by omega) (by omega) hne (fun j hj => grown_cell HGR.out hne (HCE.out j hj)) HCR.out (HBW.out.keep HGR.out))
      have hps := parts_bd _ (pickF_mem len z parts st (by decide))
      have HST : Hid (stepF len z (x, st) = ((x ++ pickF len z parts st) ++ (if ((belowF len z 4 (belowF len z 32 st).2).1 == 0) = true then ByteArray.empty else ⟨#[32]⟩), (belowF len z 4 (belowF len z 32 st).2).2)) := rfl
      have HL : Hid (loopF len z (i + 1) (ByteArray.empty, s0) = stepF len z (x, st)) := by show _ = _; rw [loopF, HX.out]
      generalize (belowF len z 32 st).2 = s1 at *
      generalize pickF len z parts st = t at *
      have KO := fun w h1 h2 => Lib.hid (once_any g a len cap z 4 s1 w (by omega) (by omega) h1 h2)
      generalize belowF len z 4 s1 = r1 at *
      obtain ⟨y, s2⟩ := r1
      simp only at HST KO
      have hadd : ∀ W, (Op.stringOp .add x t).run Tryz.prog W = .ok (.string (x ++ t)) W := fun W => run_string_add_sum W _ _ (by omega)
      have hsz2 : (x ++ t).size = x.size + t.size := ByteArray.size_append
      generalize hxt : x ++ t = xt at *
      have hadd2 : ∀ W, (Op.stringOp .add xt ⟨#[32]⟩).run Tryz.prog W = .ok (.string (xt ++ ⟨#[32]⟩)) W := fun W => run_string_add_sum W _ _ (by show xt.size + 1 ≤ _; omega)
      cases hy : (y == 0) with
      | true =>
        have HE : Hid (loopF len z (i + 1) (ByteArray.empty, s0) = (xt, s2)) := by
          show _ = _
          rw [HL.out, HST.out, hy, if_pos rfl, ByteArray.append_empty]
        rw [hy] at KO
        clear HST HL hxt
        go_wp2_with fail
        refine KP.out.mono ?_
        rintro e w2 ⟨rfl, hc2, hg2⟩
        have HC2 := Lib.hid hc2
        have HG2 := Lib.hid (grown_trans HGR.out hg2)
        clear hc2 hg2
        go_wp2_with fail
        refine (KO _ HC2.out (HBW.out.keep HG2.out)).out.mono ?_
        rintro e w3 ⟨rfl, hc3, hg3⟩
        have HC3 := Lib.hid hc3
        have HG3 := Lib.hid (grown_trans HG2.out hg3)
        clear hc3 hg3
        go_wp2_with fail
        go_roundw
        case rel => exact ⟨i + 1, xt, s2, by omega, by go_num, rfl, HE.out, HC3.out, HG3.out⟩
        case measure => simp [intOf]; omega
      | false =>
        have HE : Hid (loopF len z (i + 1) (ByteArray.empty, s0) = (xt ++ ⟨#[32]⟩, s2)) := by
          show _ = _
          rw [HL.out, HST.out, hy, if_neg (by decide)]
        rw [hy] at KO
        clear HST HL hxt
        go_wp2_with fail
        refine KP.out.mono ?_
        rintro e w2 ⟨rfl, hc2, hg2⟩
        have HC2 := Lib.hid hc2
        have HG2 := Lib.hid (grown_trans HGR.out hg2)
        clear hc2 hg2
        go_wp2_with fail
        refine (KO _ HC2.out (HBW.out.keep HG2.out)).out.mono ?_
        rintro e w3 ⟨rfl, hc3, hg3⟩
        have HC3 := Lib.hid hc3
        have HG3 := Lib.hid (grown_trans HG2.out hg3)
        clear hc3 hg3
        go_wp2_with fail
        go_roundw
        case rel => exact ⟨i + 1, xt ++ ⟨#[32]⟩, s2, by omega, by go_num, rfl, HE.out, HC3.out, HG3.out⟩
        case measure => simp [intOf]; omega
    · have HE : Hid (textF len z s = x) := by
        show _ = _
        rw [HT2.out, show n = i by omega, HX.out]
      have HG9 := Lib.hid (grown_trans HGW.out HGR.out)
      go_wp2_with fail
      go_ret
      exact ⟨by rw [HE.out]; rfl, HG9.out⟩
def drawn (len : Nat) (z : Nat → Int) : ByteArray := textF len z (newS len z)
set_option maxHeartbeats 1000000 in
theorem tokens_any (a : Option Addr) (len cap : Nat) (z : Nat → Int) (w : World) (hl : len ≤ 1048576) (hr : Raw w a len z) :
    Calls Tryz.prog 6 #[.slice a len cap] w fun e w' => e = .returned (.string (drawn len z)) ∧ Below w.heap.size w w' := by
  have HR := Lib.hid hr; clear hr
  have HV : Hid (drawn len z = textF len z (newS len z)) := rfl
  go_enter Tryz.func6, Tryz.ntmps6
  go_wp2_with fail
  refine (new_any a len cap z w hl HR.out).mono ?_
  rintro e w1 ⟨rfl, hc, hb1, hs1⟩
  have HC := Lib.hid hc; clear hc
  have HB1 := Lib.hid hb1; clear hb1
  have HY := Lib.hid (HR.out.bytes HB1.out)
  generalize hG : w.heap.size = g at *
  have HG := Lib.hid hG; clear hG
  go_wp2_with fail
  refine (draw_any g a len cap z (newS len z) w1 HC.out HY.out).mono ?_
  rintro e w2 ⟨rfl, hg2⟩
  rw [← HV.out]
  have HG2 := Lib.hid hg2; clear hg2
  go_wp2_with fail
  go_ret
  exact ⟨rfl, by have := HG.out; subst this; exact Draw.cur_below HB1.out HG2.out⟩
end Go.Proofs.YtamjfbjkdicmcaaGreatDoor.DrawTok
