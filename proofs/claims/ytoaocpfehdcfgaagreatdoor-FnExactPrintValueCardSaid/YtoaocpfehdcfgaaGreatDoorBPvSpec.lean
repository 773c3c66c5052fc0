/-
  spec.l9IsStore, IsStore, l9Class, ClassOf.
  spec.IsStore, l9Class, ClassOf.
  spec.l9Cut, l9Article, l9Print, PrintValue.
-/
import Derived.Test.YtoaocpfehdcfgaaGreatDoorBPvContains
import Derived.Test.YtoaocpfehdcfgaaGreatDoorBSpecClassesI
import Derived.Test.YtoaocpfehdcfgaaGreatDoorBSpecFmt
import Derived.Test.YtoaocpfehdcfgaaGreatDoorBSpecFormat
import Derived.Test.YtoaocpfehdcfgaaGreatDoorBSpecJoin
import Derived.Test.YtoaocpfehdcfgaaGreatDoorBSpecName
import Derived.Test.YtoaocpfehdcfgaaGreatDoorBSpecObj
import Derived.Deep.QuietTactic
import Derived.BigQuiet
import Derived.Deep.DeepCutAuto
import Derived.Deep.CutRange
namespace Go.Proofs.YtoaocpfehdcfgaaGreatDoor.SpecSto
open Go.RowKit
open Strs Tree Core Sto Go.Proofs.YtoaocpfehdcfgaaGreatDoor.Data
open SpecCore (grown_below)
set_option linter.unusedVariables false
set_option linter.unusedSimpArgs false
theorem text_any (s : ByteArray) (w : World) :
    Calls Tryz.prog 31 #[.string s] w fun e w' => e = .returned (.agg #[.int .i64 3, .int .i64 0, .string s]) ∧ Below w.heap.size w w' := by
  go_enter Tryz.func31, Tryz.ntmps31
  go_wp2_with fail
  exact bodyPost_ret (v := .agg #[.int .i64 3, .int .i64 0, .string s]) (by simp [results, Tryz.results31, go_sem, *]) rfl ⟨rfl, (Below.refl _ _).alloc (Nat.le_refl _) _⟩
theorem valB3 (s : ByteArray) : valB ⟨3, 0, s⟩ = lineB s := by
  unfold valB
  show (if (3 : Int) = 0 then _ else _) = _
  rw [if_neg (by decide)]
  show (if (3 : Int) = 1 then _ else _) = _
  rw [if_neg (by decide)]
  show (if (3 : Int) = 2 then _ else _) = _
  rw [if_neg (by decide)]
  show (if (3 : Int) = 3 then _ else _) = _
  rw [if_pos rfl]
  rfl
theorem in_rg (a b c : Int) (r : Bool) (h : decide (b ≤ a ∧ a ≤ c) = r) (w : World) :
    Calls Tryz.prog 29 #[.int .i64 a, .int .i64 b, .int .i64 c] w fun e w' => e = .returned (.bool r) ∧ Below w.heap.size w w' :=
  (in_is a b c r h w).mono fun _ _ h => ⟨h.1, h.2 ▸ Below.refl _ _⟩
theorem sto_cases (A : Bool) (no no60 : Nat) (md bu ti : Int) (L R : Bool) (hR : R = (A && (((decide ((no : Int) ≤ md) && decide (md ≤ 800)) && (decide (no60 ≤ 60) && ((decide (0 ≤ ti) && decide (ti ≤ bu)) && decide (bu ≤ 3000)))) && L))) :
    (R = false ∧ (A = false ∨ (A = true ∧ decide ((no : Int) ≤ md ∧ md ≤ 800) = false) ∨ (A = true ∧ decide ((no : Int) ≤ md ∧ md ≤ 800) = true ∧ decide ((60 : Int) < no60) = true) ∨ (A = true ∧ decide ((no : Int) ≤ md ∧ md ≤ 800) = true ∧ decide ((60 : Int) < no60) = false ∧ decide (0 ≤ bu ∧ bu ≤ 3000) = false) ∨
      (A = true ∧ decide ((no : Int) ≤ md ∧ md ≤ 800) = true ∧ decide ((60 : Int) < no60) = false ∧ decide (0 ≤ bu ∧ bu ≤ 3000) = true ∧ decide (0 ≤ ti ∧ ti ≤ bu) = false))) ∨
    (A = true ∧ decide ((no : Int) ≤ md ∧ md ≤ 800) = true ∧ decide ((60 : Int) < no60) = false ∧ decide (0 ≤ bu ∧ bu ≤ 3000) = true ∧ decide (0 ≤ ti ∧ ti ≤ bu) = true ∧ R = L) := by
  have key : ((decide ((no : Int) ≤ md) && decide (md ≤ 800)) && (decide (no60 ≤ 60) && ((decide (0 ≤ ti) && decide (ti ≤ bu)) && decide (bu ≤ 3000)))) = decide (((no : Int) ≤ md ∧ md ≤ 800) ∧ no60 ≤ 60 ∧ (0 ≤ bu ∧ bu ≤ 3000) ∧ 0 ≤ ti ∧ ti ≤ bu) := by
    rw [Bool.eq_iff_iff]
    simp only [Bool.and_eq_true, decide_eq_true_eq]
    omega
  rw [key] at hR
  cases A with
  | false => exact .inl ⟨hR, .inl rfl⟩
  | true =>
  rw [Bool.true_and] at hR
  by_cases h2 : (no : Int) ≤ md ∧ md ≤ 800
  case neg => exact .inl ⟨by rw [hR, decide_eq_false (fun h => h2 h.1), Bool.false_and], .inr (.inl ⟨rfl, decide_eq_false h2⟩)⟩
  by_cases h3 : no60 ≤ 60
  case neg => exact .inl ⟨by rw [hR, decide_eq_false (fun h => h3 h.2.1), Bool.false_and], .inr (.inr (.inl ⟨rfl, decide_eq_true h2, decide_eq_true (by omega)⟩))⟩
  by_cases h4 : 0 ≤ bu ∧ bu ≤ 3000
  case neg => exact .inl ⟨by rw [hR, decide_eq_false (fun h => h4 h.2.2.1), Bool.false_and], .inr (.inr (.inr (.inl ⟨rfl, decide_eq_true h2, decide_eq_false (by omega), decide_eq_false h4⟩)))⟩
  by_cases h5 : 0 ≤ ti ∧ ti ≤ bu
  case neg => exact .inl ⟨by rw [hR, decide_eq_false (fun h => h5 h.2.2.2), Bool.false_and], .inr (.inr (.inr (.inr ⟨rfl, decide_eq_true h2, decide_eq_false (by omega), decide_eq_true h4, decide_eq_false h5⟩)))⟩
  exact .inr ⟨rfl, decide_eq_true h2, decide_eq_false (by omega), decide_eq_true h4, decide_eq_true h5, by rw [hR, decide_eq_true ⟨h2, h3, h4, h5⟩, Bool.true_and]⟩
set_option maxRecDepth 10000 in
set_option maxHeartbeats 16000000 in
theorem store_any {w : World} {sb : Nat} {s : St} (nb : Int) (h : SAt w sb s) (hs : SmallSt s) :
    Calls Tryz.prog 14 #[.pointer (some ⟨sb, 0, none⟩), .int .i64 nb] w fun e w' => e = .returned (.bool (stoB s nb)) ∧ Below w.heap.size w w' := by
  have HS := Lib.hid h
  have HSM := Lib.hid hs
  obtain ⟨v0, v1, v2, c0, c1, c2, c3, c4, c5, h0, h1, h2⟩ := h
  have KC := fun d os => Lib.hid (Calls.regrown_of (w := w) (d := d) (os := os) (SpecCore.classes_any (h0.below (below_regrown w d os)) hs.c))
  obtain ⟨a0, p0, rfl, hm0, -⟩ := id h0
  obtain ⟨a1, p1, rfl, hm1, -⟩ := id h1
  obtain ⟨a2, p2, rfl, hm2, -⟩ := id h2
  unfold maxLen at hm0 hm1 hm2
  have HO := Lib.hid h1
  have HU := Lib.hid h2
  have HCASE := Lib.hid (sto_cases (infosB s.classes) s.objects.length s.output.length s.made s.budget s.ticks (s.output.all lineB && s.objects.all (objB s.classes s.objects.length nb)) (stoB s nb) rfl)
  have K2 := fun r hr d os => Lib.hid (Calls.regrown_of (w := w) (d := d) (os := os) (in_rg s.made s.objects.length 800 r hr _))
  have K4 := fun r hr d os => Lib.hid (Calls.regrown_of (w := w) (d := d) (os := os) (in_rg s.budget 0 3000 r hr _))
  have K5 := fun r hr d os => Lib.hid (Calls.regrown_of (w := w) (d := d) (os := os) (in_rg s.ticks 0 s.budget r hr _))
  clear h0 h1 h2 hs
  have HA : Hid (infosB s.classes = true → infosB s.classes = true) := Lib.hid id
  generalize hR : stoB s nb = R at *
  clear hR
  generalize hA : infosB s.classes = A at *
  have HAE := Lib.hid hA
  clear hA HA
  generalize hU : s.output.length = U at *
  have HUL := Lib.hid hU
  generalize hN : s.objects.length = N at *
  have HNL := Lib.hid hN
  generalize hti : s.ticks = ti at *
  generalize hbu : s.budget = bu at *
  generalize hmd : s.made = md at *
  clear hU hN hti hbu hmd
  have k0 := cell_regrown c0; have k1 := cell_regrown c1; have k2 := cell_regrown c2; have k3 := cell_regrown c3; have k4 := cell_regrown c4; have k5 := cell_regrown c5
  clear c0 c1 c2 c3 c4 c5
  obtain ⟨hR, hc⟩ | ⟨hA, q2, q3, q4, q5, hR⟩ := HCASE.out
  · subst hR
    clear HCASE HS HSM HO HU
    rcases hc with hA | ⟨hA, q2⟩ | ⟨hA, q2, q3⟩ | ⟨hA, q2, q3, q4⟩ | ⟨hA, q2, q3, q4, q5⟩
    all_goals
      subst hA
      clear HAE HUL HNL
      go_enter Tryz.func14, Tryz.ntmps14
      go_upto_region 1 with fail
      refine wp_region_quiet_below (by kernel_rfl) (by kernel_rfl) ?_
      repeat (go_big_quiet_step (first
        | (go_at_call 28; exact (KC _ _).out)
        | (go_at_call_of 29 (Value.int IntKind.i64 800); exact (K2 _ q2 _ _).out)
        | (go_at_call_of 29 (Value.int IntKind.i64 3000); exact (K4 _ q4 _ _).out)
        | (go_at_call_of 29 (Value.int IntKind.i64 ti); exact (K5 _ q5 _ _).out)))
      refine wpQuiet_nil ?_
      intro w2 hw2
      have HB2 := Lib.hid (grown_below hw2); clear hw2 k0 k1 k2 k3 k4 k5
      go_wp2_with fail
      go_ret
      exact ⟨rfl, HB2.out⟩
  subst hA
  have HV : Hid (R = (s.output.all lineB && s.objects.all (objB s.classes N nb))) := Lib.hid hR
  clear hR HCASE
  go_enter Tryz.func14, Tryz.ntmps14
  go_upto_region 1 with fail
  refine wp_region_quiet_below (by kernel_rfl) (by kernel_rfl) ?_
  repeat (go_big_quiet_step (first
    | (go_at_call 28; exact (KC _ _).out)
    | (go_at_call_of 29 (Value.int IntKind.i64 800); exact (K2 _ q2 _ _).out)
    | (go_at_call_of 29 (Value.int IntKind.i64 3000); exact (K4 _ q4 _ _).out)
    | (go_at_call_of 29 (Value.int IntKind.i64 ti); exact (K5 _ q5 _ _).out)))
  refine wpQuiet_nil ?_
  intro w2 hw2
  have HB2 := Lib.hid (grown_below hw2); clear hw2 k0 k1 k2 k3 k4 k5 KC K2 K4 K5 q2 q3 q4 q5
  go_wp2_with fail
  go_loopw [5] (fun j wr => ∃ i : Nat, i ≤ U ∧ j = .int .i64 i ∧ Hid ((s.output.take i).all lineB = true) ∧ Hid (Below w.heap.size w wr)) (fun j _ => U - (intOf j).toNat)
  case atStart => exact ⟨0, by omega, rfl, Lib.hid rfl, HB2⟩
  case round =>
    obtain ⟨i, hi, rfl, HQ, HB⟩ := hrel
    clear HB2
    obtain ⟨x0, x1, x2, -, -, e2, -, -, -, -, -, g2⟩ := HS.out.below HB.out
    obtain ⟨ua, uc, rfl, hum, -, hcell⟩ := g2
    rw [HUL.out] at hum e2
    unfold maxLen at hum
    by_cases hlt : i < U
    · have hil : i < s.output.length := by rw [HUL.out]; exact hlt
      obtain ⟨ub, uo, rfl, -, hcd⟩ := hcell (by rw [HUL.out]; omega)
      have e3 := hcd i hil
      have hx := List.getElem?_eq_getElem hil
      have hxs := HSM.out.u _ (List.getElem_mem hil)
      have HNO : Hid (lineB s.output[i] = false → R = false) := Lib.hid fun hh => by rw [HV.out, all_no hx hh, Bool.false_and]
      have HYES : Hid (lineB s.output[i] = true → (s.output.take (i + 1)).all lineB = true) := Lib.hid fun hh => all_take HQ.out hx hh
      have KV := fun w' => Lib.hid (val_any ⟨3, 0, s.output[i]⟩ w' hxs)
      rw [valB3] at KV
      clear hcd hcell hx hxs
      generalize s.output[i] = x at *
      have KT := fun w' => Lib.hid (text_any x w')
      have hiI : (i : Int) < (U : Int) := by omega
      generalize lineB x = B at *
      cases B with
      | false =>
        have hR := HNO.out rfl
        subst hR
        clear HNO HYES HV
        go_wp2_with fail
        refine (KT _).out.mono ?_
        rintro e w3 ⟨rfl, hb3⟩
        have H3 := Lib.hid (HB.out.trans (hb3.mono HB.out.size)); clear hb3 e2 e3
        go_wp2_with fail
        refine (KV _).out.mono ?_
        rintro e w4 ⟨rfl, hb4⟩
        have H4 := Lib.hid (H3.out.trans (hb4.mono H3.out.size)); clear hb4
        go_wp2_with fail
        go_ret
        exact ⟨rfl, H4.out⟩
      | true =>
        have HNEW := Lib.hid (HYES.out rfl)
        clear HNO HYES
        go_wp2_with fail
        refine (KT _).out.mono ?_
        rintro e w3 ⟨rfl, hb3⟩
        have H3 := Lib.hid (HB.out.trans (hb3.mono HB.out.size)); clear hb3 e2 e3
        go_wp2_with fail
        refine (KV _).out.mono ?_
        rintro e w4 ⟨rfl, hb4⟩
        have H4 := Lib.hid (H3.out.trans (hb4.mono H3.out.size)); clear hb4
        go_wp2_with fail
        go_roundw
        case rel => exact ⟨i + 1, by omega, by go_num, HNEW, H4⟩
        case measure => simp [intOf]; omega
    clear hcell
    have HV2 : Hid (R = s.objects.all (objB s.classes N nb)) := Lib.hid (by rw [HV.out, all_end HQ.out (by rw [HUL.out]; omega), Bool.true_and])
    clear HV HQ
    go_wp2_with fail
    go_loopw [6] (fun j wq => ∃ q : Nat, q ≤ N ∧ j = .int .i64 q ∧ Hid ((s.objects.take q).all (objB s.classes N nb) = true) ∧ Hid (Below w.heap.size w wq)) (fun j _ => N - (intOf j).toNat)
    case atStart => exact ⟨0, by omega, rfl, Lib.hid rfl, HB⟩
    case round =>
      obtain ⟨q, hq, rfl, HQ, HB⟩ := hrel
      clear e2
      have HSW := Lib.hid (HS.out.below HB.out)
      obtain ⟨x0, x1, x2, -, d1, -, -, -, -, -, g1, -⟩ := HSW.out
      have HG := Lib.hid g1
      obtain ⟨oa, oc, rfl, hom, -⟩ := g1
      rw [HNL.out] at hom d1
      unfold maxLen at hom
      by_cases hlt : q < N
      · have hql : q < s.objects.length := by rw [HNL.out]; exact hlt
        obtain ⟨o, ho⟩ : ∃ o, s.objects[q]? = some o := ⟨_, List.getElem?_eq_getElem hql⟩
        obtain ⟨ob, oo, rfl, -, vf, vn, y0, y1, y2, y3, hvf, hvn, -⟩ := HG.out.at ho
        have K := Lib.hid (object_any o nb vf vn HSW.out HAE.out hvf hvn (HSM.out.o o (List.mem_of_getElem? ho)).2.2)
        rw [HNL.out] at K
        have HNO : Hid (objB s.classes N nb o = false → R = false) := Lib.hid fun hh => by rw [HV2.out, all_no ho hh]
        have HYES : Hid (objB s.classes N nb o = true → (s.objects.take (q + 1)).all (objB s.classes N nb) = true) := Lib.hid fun hh => all_take HQ.out ho hh
        obtain ⟨fa, fc, rfl, hfm, -⟩ := hvf
        obtain ⟨na, nc, rfl, hnm, -⟩ := hvn
        clear ho
        have hqI : (q : Int) < (N : Int) := by omega
        generalize objB s.classes N nb o = B at *
        generalize o.fields.length = fl at *
        generalize o.nums.length = nl at *
        generalize o.kind = ok at *
        generalize o.cls = ocl at *
        cases B with
        | false =>
          have hR := HNO.out rfl
          subst hR
          clear HNO HYES HV2
          go_wp2_with fail
          refine K.out.mono ?_
          rintro e w3 ⟨rfl, hb3⟩
          have H3 := Lib.hid (HB.out.trans (hb3.mono HB.out.size)); clear hb3 d1 y0 y1 y2 y3
          go_wp2_with fail
          go_ret
          exact ⟨rfl, H3.out⟩
        | true =>
          have HNEW := Lib.hid (HYES.out rfl)
          clear HNO HYES
          go_wp2_with fail
          refine K.out.mono ?_
          rintro e w3 ⟨rfl, hb3⟩
          have H3 := Lib.hid (HB.out.trans (hb3.mono HB.out.size)); clear hb3 d1 y0 y1 y2 y3
          go_wp2_with fail
          go_roundw
          case rel => exact ⟨q + 1, by omega, by go_num, HNEW, H3⟩
          case measure => simp [intOf]; omega
      have hR : R = true := by rw [HV2.out]; exact all_end HQ.out (by rw [HNL.out]; omega)
      subst hR
      clear HV2
      go_wp2_with fail
      go_ret
      exact ⟨rfl, HB.out⟩
end Go.Proofs.YtoaocpfehdcfgaaGreatDoor.SpecSto

namespace Go.Proofs.YtoaocpfehdcfgaaGreatDoor.SpecSto
open Go.RowKit
open Strs Tree Core Sto Go.Proofs.YtoaocpfehdcfgaaGreatDoor.Data
set_option linter.unusedVariables false
set_option linter.unusedSimpArgs false
end Go.Proofs.YtoaocpfehdcfgaaGreatDoor.SpecSto

namespace Go.Proofs.YtoaocpfehdcfgaaGreatDoor.SpecPv
open Go.RowKit
open Strs Tree Core Sto Pv Go.Proofs.YtoaocpfehdcfgaaGreatDoor.Data
open SpecSto (OBox obox_new eq_yes eq_no)
open SpecCore (grown_below)
set_option linter.unusedVariables false
set_option linter.unusedSimpArgs false
theorem bytes_ext {a b : ByteArray} (h : a.data.toList = b.data.toList) : a = b := ByteArray.ext (Array.ext' h)
theorem cut_big (s : ByteArray) : s.extract 0 200 = tx (cut s.data.toList) := by
  apply bytes_ext
  rw [tx_list]
  unfold cut
  simp
theorem cut_small (s : ByteArray) (h : s.size ≤ 200) : s = tx (cut s.data.toList) := by
  apply bytes_ext
  rw [tx_list]
  unfold cut
  rw [List.take_of_length_le (by rw [Tok.len_list]; exact h)]
theorem cut_any (s : ByteArray) (w : World) :
    Calls Tryz.prog 34 #[.string s] w fun e w' => e = .returned (.string (tx (cut s.data.toList))) ∧ w = w' := by
  by_cases h : s.size ≤ 200
  · have g : ¬ (200 : Int) < (s.size : Int) := by omega
    rw [← cut_small s h]
    go_enter Tryz.func34, Tryz.ntmps34
    go_wp2_with fail
    go_ret
    exact ⟨rfl, rfl⟩
  · have g : (200 : Int) < (s.size : Int) := by omega
    have g2 : (200 : Int) ≤ (s.size : Int) := by omega
    rw [← cut_big s]
    go_enter Tryz.func34, Tryz.ntmps34
    go_wp2_with fail
    go_ret
    exact ⟨rfl, rfl⟩
theorem art_an {nm : ByteArray} (h : Tok.has vowels (nm.extract 0 1) = true) : (⟨#[97, 110, 32]⟩ ++ nm : ByteArray) = tx (art nm) := by
  apply bytes_ext
  rw [tx_list]
  unfold art
  rw [h]
  simp
theorem art_a {nm : ByteArray} (h : Tok.has vowels (nm.extract 0 1) = false) : (⟨#[97, 32]⟩ ++ nm : ByteArray) = tx (art nm) := by
  apply bytes_ext
  rw [tx_list]
  unfold art
  rw [h]
  simp
theorem vowels_at (w : World) : At (w.alloc (.cells #[.string ⟨#[65]⟩, .string ⟨#[69]⟩, .string ⟨#[73]⟩, .string ⟨#[79]⟩, .string ⟨#[85]⟩] 9)) (.slice (some ⟨w.heap.size, 0, none⟩) 5 5) vowels := by
  refine ⟨_, 5, rfl, by unfold maxLen vowels; decide, fun _ => ⟨w.heap.size, 0, rfl, fun j hj => ?_⟩⟩
  match j, hj with
  | 0, _ => go_simp; rfl
  | 1, _ => go_simp; rfl
  | 2, _ => go_simp; rfl
  | 3, _ => go_simp; rfl
  | 4, _ => go_simp; rfl
set_option maxHeartbeats 1000000 in
theorem article_any (nm : ByteArray) (w : World) (h1 : 1 ≤ nm.size) (h2 : nm.size ≤ 1048576) :
    Calls Tryz.prog 36 #[.string nm] w fun e w' => e = .returned (.string (tx (art nm))) ∧ Below w.heap.size w w' := by
  have KH := Lib.hid (SpecTok.has_any _ _ (nm.extract 0 1) _ (vowels_at w))
  have g1 : (1 : Int) ≤ (nm.size : Int) := by omega
  cases hb : Tok.has vowels (nm.extract 0 1) with
  | true =>
    rw [← art_an hb]
    rw [hb] at KH
    clear hb
    go_enter Tryz.func36, Tryz.ntmps36
    go_wp2_with fail
    refine KH.out.mono ?_
    rintro e w1 ⟨rfl, rfl⟩
    go_wp2_with fail
    go_ret
    exact ⟨rfl, (Below.refl _ _).alloc (Nat.le_refl _) _⟩
  | false =>
    rw [← art_a hb]
    rw [hb] at KH
    clear hb
    go_enter Tryz.func36, Tryz.ntmps36
    go_wp2_with fail
    refine KH.out.mono ?_
    rintro e w1 ⟨rfl, rfl⟩
    go_wp2_with fail
    go_ret
    exact ⟨rfl, (Below.refl _ _).alloc (Nat.le_refl _) _⟩
set_option maxRecDepth 100000 in
theorem join_none (a : Option Addr) (c : Nat) (sep : ByteArray) (w : World) :
    Calls Tryz.prog 37 #[.slice a 0 c, .string sep] w fun e w' => e = .returned (.string ⟨#[]⟩) ∧ Below w.heap.size w w' := by
  go_enter Tryz.func37, Tryz.ntmps37
  go_wp2_with fail
  refine wp_loop_rounds 1 ?_
  rw [rounds_succ]
  have hcv := Kit.conv_row (w.alloc (.cells #[] 5)) w.heap.size _ [] (World.ownsRow_lit w #[] 0 (Nat.le_refl _) (Nat.zero_le _) rfl)
  go_wp2_with fail
  go_ret
  exact ⟨rfl, (Below.refl _ _).alloc (Nat.le_refl _) _⟩
theorem join_own {B : Nat} {v : Value} {xs : List ByteArray} {w : World} (h : w.ownsRow B 9 1 v xs.length (xs.map Value.string)) (ht : JoinMath.total xs xs.length ≤ 1048576) (hn : xs.length ≤ 1048576) (hl : (JoinMath.acc xs spc xs.length).length ≤ 1048576) :
    Calls Tryz.prog 37 #[v, .string ⟨#[32]⟩] w fun e w' => e = .returned (.string (tx (JoinMath.acc xs spc xs.length))) ∧ Below w.heap.size w w' := by
  have h' := h
  obtain ⟨_, ⟨rfl, hz⟩ | ⟨g, cap, cur, rfl, hg, hgs, hnc, hcm, _, _⟩⟩ := h
  · have hx : xs = [] := List.eq_nil_of_length_eq_zero hz
    subst hx
    exact join_none none 0 ⟨#[32]⟩ w
  · have hlies : SpecJoin.Lies w g 0 xs := by
      intro j hj
      rw [Nat.zero_add, h'.cellAt j (by omega)]
      rw [List.getElem?_map, List.getElem?_eq_getElem hj]
      unfold JoinMath.at_
      rw [List.getD_eq_getElem?_getD, List.getElem?_eq_getElem hj]
      rfl
    have K := SpecJoin.spec_some g 0 cap xs.length xs spc w rfl hlies ht hn (by decide)
    have hf : SpecJoin.Out xs spc = JoinMath.acc xs spc xs.length := by
      unfold SpecJoin.Out SpecJoin.Fits
      rw [decide_eq_true hl, if_pos rfl]
    rw [hf] at K
    exact K
theorem whole_is (f : V → List UInt8) (fs : List V) : tx (cut (⟨#[40]⟩ ++ tx (JoinMath.acc (txs f fs) spc (txs f fs).length) ++ ⟨#[41]⟩ : ByteArray).data.toList) = tx (whole f fs) := by
  unfold whole inner
  rw [txs_len]
  congr 2
end Go.Proofs.YtoaocpfehdcfgaaGreatDoor.SpecPv
