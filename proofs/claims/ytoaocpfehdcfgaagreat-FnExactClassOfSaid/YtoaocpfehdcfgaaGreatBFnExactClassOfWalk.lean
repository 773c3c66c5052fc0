/-
  spec.l9IsStore, IsStore, l9Class, ClassOf.
  spec.IsStore, l9Class, ClassOf.
  The walk of laws.FnExactClassOf: it returns true at every input.
-/
import Derived.Test.YtoaocpfehdcfgaaGreatBImplStoL
import Derived.Test.YtoaocpfehdcfgaaGreatBLwFnExactClassOf
import Derived.Test.YtoaocpfehdcfgaaGreatBSpecClassesI
import Derived.Test.YtoaocpfehdcfgaaGreatBSpecObj
namespace Go.Proofs.YtoaocpfehdcfgaaGreat.SpecSto
open Go.RowKit
open Strs Tree Core Sto Go.Proofs.YtoaocpfehdcfgaaGreat.Data
open SpecCore (grown_below)
set_option linter.unusedVariables false
set_option linter.unusedSimpArgs false
theorem text_any (s : ByteArray) (w : World) :
    Calls Tryz.prog 34 #[.string s] w fun e w' => e = .returned (.agg #[.int .i64 3, .int .i64 0, .string s]) ∧ Below w.heap.size w w' := by
  go_enter Tryz.func34, Tryz.ntmps34
  go_wp2_with fail
  exact bodyPost_ret (v := .agg #[.int .i64 3, .int .i64 0, .string s]) (by simp [results, Tryz.results34, go_sem, *]) rfl ⟨rfl, (Below.refl _ _).alloc (Nat.le_refl _) _⟩
theorem valB3 (s : ByteArray) : valB ⟨3, 0, s⟩ = lineB s := by
  unfold valB
  show (if (3 : Int) = 0 then _ else _) = _
  rw [if_neg (by decide)]
  show (if (3 : Int) = 1 then _ else _) = _
  rw [if_neg (by decide)]
  show (if (3 : Int) = 2 then _ else _) = _
  rw [if_neg (by decide)]
  show (if (3 : Int) = 3 then _ else _) = _
  rw [if_pos rfl]
  rfl
theorem in_rg (a b c : Int) (r : Bool) (h : decide (b ≤ a ∧ a ≤ c) = r) (w : World) :
    Calls Tryz.prog 32 #[.int .i64 a, .int .i64 b, .int .i64 c] w fun e w' => e = .returned (.bool r) ∧ Below w.heap.size w w' :=
  (in_is a b c r h w).mono fun _ _ h => ⟨h.1, h.2 ▸ Below.refl _ _⟩
theorem sto_cases (A : Bool) (no no60 : Nat) (md bu ti : Int) (L R : Bool) (hR : R = (A && (((decide ((no : Int) ≤ md) && decide (md ≤ 800)) && (decide (no60 ≤ 60) && ((decide (0 ≤ ti) && decide (ti ≤ bu)) && decide (bu ≤ 3000)))) && L))) :
    (R = false ∧ (A = false ∨ (A = true ∧ decide ((no : Int) ≤ md ∧ md ≤ 800) = false) ∨ (A = true ∧ decide ((no : Int) ≤ md ∧ md ≤ 800) = true ∧ decide ((60 : Int) < no60) = true) ∨ (A = true ∧ decide ((no : Int) ≤ md ∧ md ≤ 800) = true ∧ decide ((60 : Int) < no60) = false ∧ decide (0 ≤ bu ∧ bu ≤ 3000) = false) ∨
      (A = true ∧ decide ((no : Int) ≤ md ∧ md ≤ 800) = true ∧ decide ((60 : Int) < no60) = false ∧ decide (0 ≤ bu ∧ bu ≤ 3000) = true ∧ decide (0 ≤ ti ∧ ti ≤ bu) = false))) ∨
    (A = true ∧ decide ((no : Int) ≤ md ∧ md ≤ 800) = true ∧ decide ((60 : Int) < no60) = false ∧ decide (0 ≤ bu ∧ bu ≤ 3000) = true ∧ decide (0 ≤ ti ∧ ti ≤ bu) = true ∧ R = L) := by
  have key : ((decide ((no : Int) ≤ md) && decide (md ≤ 800)) && (decide (no60 ≤ 60) && ((decide (0 ≤ ti) && decide (ti ≤ bu)) && decide (bu ≤ 3000)))) = decide (((no : Int) ≤ md ∧ md ≤ 800) ∧ no60 ≤ 60 ∧ (0 ≤ bu ∧ bu ≤ 3000) ∧ 0 ≤ ti ∧ ti ≤ bu) := by
    rw [Bool.eq_iff_iff]
    simp only [Bool.and_eq_true, decide_eq_true_eq]
    omega
  rw [key] at hR
  cases A with
  | false => exact .inl ⟨hR, .inl rfl⟩
  | true =>
  rw [Bool.true_and] at hR
  by_cases h2 : (no : Int) ≤ md ∧ md ≤ 800
  case neg => exact .inl ⟨by rw [hR, decide_eq_false (fun h => h2 h.1), Bool.false_and], .inr (.inl ⟨rfl, decide_eq_false h2⟩)⟩
  by_cases h3 : no60 ≤ 60
  case neg => exact .inl ⟨by rw [hR, decide_eq_false (fun h => h3 h.2.1), Bool.false_and], .inr (.inr (.inl ⟨rfl, decide_eq_true h2, decide_eq_true (by omega)⟩))⟩
  by_cases h4 : 0 ≤ bu ∧ bu ≤ 3000
  case neg => exact .inl ⟨by rw [hR, decide_eq_false (fun h => h4 h.2.2.1), Bool.false_and], .inr (.inr (.inr (.inl ⟨rfl, decide_eq_true h2, decide_eq_false (by omega), decide_eq_false h4⟩)))⟩
  by_cases h5 : 0 ≤ ti ∧ ti ≤ bu
  case neg => exact .inl ⟨by rw [hR, decide_eq_false (fun h => h5 h.2.2.2), Bool.false_and], .inr (.inr (.inr (.inr ⟨rfl, decide_eq_true h2, decide_eq_false (by omega), decide_eq_true h4, decide_eq_false h5⟩)))⟩
  exact .inr ⟨rfl, decide_eq_true h2, decide_eq_false (by omega), decide_eq_true h4, decide_eq_true h5, by rw [hR, decide_eq_true ⟨h2, h3, h4, h5⟩, Bool.true_and]⟩
set_option maxRecDepth 10000 in
set_option maxHeartbeats 16000000 in
theorem store_any {w : World} {sb : Nat} {s : St} (nb : Int) (h : SAt w sb s) (hs : SmallSt s) :
    Calls Tryz.prog 17 #[.pointer (some ⟨sb, 0, none⟩), .int .i64 nb] w fun e w' => e = .returned (.bool (stoB s nb)) ∧ Below w.heap.size w w' := by
  have HS := Lib.hid h
  have HSM := Lib.hid hs
  obtain ⟨v0, v1, v2, c0, c1, c2, c3, c4, c5, h0, h1, h2⟩ := h
  have KC := fun d os => Lib.hid (Calls.regrown_of (w := w) (d := d) (os := os) (SpecCore.classes_any (h0.below (below_regrown w d os)) hs.c))
  obtain ⟨a0, p0, rfl, hm0, -⟩ := id h0
  obtain ⟨a1, p1, rfl, hm1, -⟩ := id h1
  obtain ⟨a2, p2, rfl, hm2, -⟩ := id h2
  unfold maxLen at hm0 hm1 hm2
  have HO := Lib.hid h1
  have HU := Lib.hid h2
  have HCASE := Lib.hid (sto_cases (infosB s.classes) s.objects.length s.output.length s.made s.budget s.ticks (s.output.all lineB && s.objects.all (objB s.classes s.objects.length nb)) (stoB s nb) rfl)
  have K2 := fun r hr d os => Lib.hid (Calls.regrown_of (w := w) (d := d) (os := os) (in_rg s.made s.objects.length 800 r hr _))
  have K4 := fun r hr d os => Lib.hid (Calls.regrown_of (w := w) (d := d) (os := os) (in_rg s.budget 0 3000 r hr _))
  have K5 := fun r hr d os => Lib.hid (Calls.regrown_of (w := w) (d := d) (os := os) (in_rg s.ticks 0 s.budget r hr _))
  clear h0 h1 h2 hs
  have HA : Hid (infosB s.classes = true → infosB s.classes = true) := Lib.hid id
  generalize hR : stoB s nb = R at *
  clear hR
  generalize hA : infosB s.classes = A at *
  have HAE := Lib.hid hA
  clear hA HA
  generalize hU : s.output.length = U at *
  have HUL := Lib.hid hU
  generalize hN : s.objects.length = N at *
  have HNL := Lib.hid hN
  generalize hti : s.ticks = ti at *
  generalize hbu : s.budget = bu at *
  generalize hmd : s.made = md at *
  clear hU hN hti hbu hmd
  have k0 := cell_regrown c0; have k1 := cell_regrown c1; have k2 := cell_regrown c2; have k3 := cell_regrown c3; have k4 := cell_regrown c4; have k5 := cell_regrown c5
  clear c0 c1 c2 c3 c4 c5
  obtain ⟨hR, hc⟩ | ⟨hA, q2, q3, q4, q5, hR⟩ := HCASE.out
  · subst hR
    clear HCASE HS HSM HO HU
    rcases hc with hA | ⟨hA, q2⟩ | ⟨hA, q2, q3⟩ | ⟨hA, q2, q3, q4⟩ | ⟨hA, q2, q3, q4, q5⟩
    all_goals
      subst hA
      clear HAE HUL HNL
      go_enter Tryz.func17, Tryz.ntmps17
      go_upto_region 1 with fail
      refine wp_region_quiet_below (by kernel_rfl) (by kernel_rfl) ?_
      repeat (go_big_quiet_step (first
        | (go_at_call 31; exact (KC _ _).out)
        | (go_at_call_of 32 (Value.int IntKind.i64 800); exact (K2 _ q2 _ _).out)
        | (go_at_call_of 32 (Value.int IntKind.i64 3000); exact (K4 _ q4 _ _).out)
        | (go_at_call_of 32 (Value.int IntKind.i64 ti); exact (K5 _ q5 _ _).out)))
      refine wpQuiet_nil ?_
      intro w2 hw2
      have HB2 := Lib.hid (grown_below hw2); clear hw2 k0 k1 k2 k3 k4 k5
      go_wp2_with fail
      go_ret
      exact ⟨rfl, HB2.out⟩
  subst hA
  have HV : Hid (R = (s.output.all lineB && s.objects.all (objB s.classes N nb))) := Lib.hid hR
  clear hR HCASE
  go_enter Tryz.func17, Tryz.ntmps17
  go_upto_region 1 with fail
  refine wp_region_quiet_below (by kernel_rfl) (by kernel_rfl) ?_
  repeat (go_big_quiet_step (first
    | (go_at_call 31; exact (KC _ _).out)
    | (go_at_call_of 32 (Value.int IntKind.i64 800); exact (K2 _ q2 _ _).out)
    | (go_at_call_of 32 (Value.int IntKind.i64 3000); exact (K4 _ q4 _ _).out)
    | (go_at_call_of 32 (Value.int IntKind.i64 ti); exact (K5 _ q5 _ _).out)))
  refine wpQuiet_nil ?_
  intro w2 hw2
  have HB2 := Lib.hid (grown_below hw2); clear hw2 k0 k1 k2 k3 k4 k5 KC K2 K4 K5 q2 q3 q4 q5
  go_wp2_with fail
  go_loopw [5] (fun j wr => ∃ i : Nat, i ≤ U ∧ j = .int .i64 i ∧ Hid ((s.output.take i).all lineB = true) ∧ Hid (Below w.heap.size w wr)) (fun j _ => U - (intOf j).toNat)
  case atStart => exact ⟨0, by omega, rfl, Lib.hid rfl, HB2⟩
  case round =>
    obtain ⟨i, hi, rfl, HQ, HB⟩ := hrel
    clear HB2
    obtain ⟨x0, x1, x2, -, -, e2, -, -, -, -, -, g2⟩ := HS.out.below HB.out
    obtain ⟨ua, uc, rfl, hum, -, hcell⟩ := g2
    rw [HUL.out] at hum e2
    unfold maxLen at hum
    by_cases hlt : i < U
    · have hil : i < s.output.length := by rw [HUL.out]; exact hlt
      obtain ⟨ub, uo, rfl, -, hcd⟩ := hcell (by rw [HUL.out]; omega)
      have e3 := hcd i hil
      have hx := List.getElem?_eq_getElem hil
      have hxs := HSM.out.u _ (List.getElem_mem hil)
      have HNO : Hid (lineB s.output[i] = false → R = false) := Lib.hid fun hh => by rw [HV.out, all_no hx hh, Bool.false_and]
      have HYES : Hid (lineB s.output[i] = true → (s.output.take (i + 1)).all lineB = true) := Lib.hid fun hh => all_take HQ.out hx hh
      have KV := fun w' => Lib.hid (val_any ⟨3, 0, s.output[i]⟩ w' hxs)
      rw [valB3] at KV
      clear hcd hcell hx hxs
      generalize s.output[i] = x at *
      have KT := fun w' => Lib.hid (text_any x w')
      have hiI : (i : Int) < (U : Int) := by omega
      generalize lineB x = B at *
      cases B with
      | false =>
        have hR := HNO.out rfl
        subst hR
        clear HNO HYES HV
        go_wp2_with fail
        refine (KT _).out.mono ?_
        rintro e w3 ⟨rfl, hb3⟩
        have H3 := Lib.hid (HB.out.trans (hb3.mono HB.out.size)); clear hb3 e2 e3
        go_wp2_with fail
        refine (KV _).out.mono ?_
        rintro e w4 ⟨rfl, hb4⟩
        have H4 := Lib.hid (H3.out.trans (hb4.mono H3.out.size)); clear hb4
        go_wp2_with fail
        go_ret
        exact ⟨rfl, H4.out⟩
      | true =>
        have HNEW := Lib.hid (HYES.out rfl)
        clear HNO HYES
        go_wp2_with fail
        refine (KT _).out.mono ?_
        rintro e w3 ⟨rfl, hb3⟩
        have H3 := Lib.hid (HB.out.trans (hb3.mono HB.out.size)); clear hb3 e2 e3
        go_wp2_with fail
        refine (KV _).out.mono ?_
        rintro e w4 ⟨rfl, hb4⟩
        have H4 := Lib.hid (H3.out.trans (hb4.mono H3.out.size)); clear hb4
        go_wp2_with fail
        go_roundw
        case rel => exact ⟨i + 1, by omega, by go_num, HNEW, H4⟩
        case measure => simp [intOf]; omega
    clear hcell
    have HV2 : Hid (R = s.objects.all (objB s.classes N nb)) := Lib.hid (by rw [HV.out, all_end HQ.out (by rw [HUL.out]; omega), Bool.true_and])
    clear HV HQ
    go_wp2_with fail
    go_loopw [6] (fun j wq => ∃ q : Nat, q ≤ N ∧ j = .int .i64 q ∧ Hid ((s.objects.take q).all (objB s.classes N nb) = true) ∧ Hid (Below w.heap.size w wq)) (fun j _ => N - (intOf j).toNat)
    case atStart => exact ⟨0, by omega, rfl, Lib.hid rfl, HB⟩
    case round =>
      obtain ⟨q, hq, rfl, HQ, HB⟩ := hrel
      clear e2
      have HSW := Lib.hid (HS.out.below HB.out)
      obtain ⟨x0, x1, x2, -, d1, -, -, -, -, -, g1, -⟩ := HSW.out
      have HG := Lib.hid g1
      obtain ⟨oa, oc, rfl, hom, -⟩ := g1
      rw [HNL.out] at hom d1
      unfold maxLen at hom
      by_cases hlt : q < N
      · have hql : q < s.objects.length := by rw [HNL.out]; exact hlt
        obtain ⟨o, ho⟩ : ∃ o, s.objects[q]? = some o := ⟨_, List.getElem?_eq_getElem hql⟩
        obtain ⟨ob, oo, rfl, -, vf, vn, y0, y1, y2, y3, hvf, hvn, -⟩ := HG.out.at ho
        have K := Lib.hid (object_any o nb vf vn HSW.out HAE.out hvf hvn (HSM.out.o o (List.mem_of_getElem? ho)).2.2)
        rw [HNL.out] at K
        have HNO : Hid (objB s.classes N nb o = false → R = false) := Lib.hid fun hh => by rw [HV2.out, all_no ho hh]
        have HYES : Hid (objB s.classes N nb o = true → (s.objects.take (q + 1)).all (objB s.classes N nb) = true) := Lib.hid fun hh => all_take HQ.out ho hh
        obtain ⟨fa, fc, rfl, hfm, -⟩ := hvf
        obtain ⟨na, nc, rfl, hnm, -⟩ := hvn
        clear ho
        have hqI : (q : Int) < (N : Int) := by omega
        generalize objB s.classes N nb o = B at *
        generalize o.fields.length = fl at *
        generalize o.nums.length = nl at *
        generalize o.kind = ok at *
        generalize o.cls = ocl at *
        cases B with
        | false =>
          have hR := HNO.out rfl
          subst hR
          clear HNO HYES HV2
          go_wp2_with fail
          refine K.out.mono ?_
          rintro e w3 ⟨rfl, hb3⟩
          have H3 := Lib.hid (HB.out.trans (hb3.mono HB.out.size)); clear hb3 d1 y0 y1 y2 y3
          go_wp2_with fail
          go_ret
          exact ⟨rfl, H3.out⟩
        | true =>
          have HNEW := Lib.hid (HYES.out rfl)
          clear HNO HYES
          go_wp2_with fail
          refine K.out.mono ?_
          rintro e w3 ⟨rfl, hb3⟩
          have H3 := Lib.hid (HB.out.trans (hb3.mono HB.out.size)); clear hb3 d1 y0 y1 y2 y3
          go_wp2_with fail
          go_roundw
          case rel => exact ⟨q + 1, by omega, by go_num, HNEW, H3⟩
          case measure => simp [intOf]; omega
      have hR : R = true := by rw [HV2.out]; exact all_end HQ.out (by rw [HNL.out]; omega)
      subst hR
      clear HV2
      go_wp2_with fail
      go_ret
      exact ⟨rfl, HB.out⟩
end Go.Proofs.YtoaocpfehdcfgaaGreat.SpecSto

namespace Go.Proofs.YtoaocpfehdcfgaaGreat.SpecSto
open Go.RowKit
open Strs Tree Core Sto Go.Proofs.YtoaocpfehdcfgaaGreat.Data
set_option linter.unusedVariables false
set_option linter.unusedSimpArgs false
theorem isstore_any {w : World} {v0 v1 v2 : Value} {s : St} (h0 : IsAt 0 w v0 s.classes) (h1 : OsAt 0 w v1 s.objects) (h2 : Texts 0 w s.output v2) (hs : SmallSt s) :
    Calls Tryz.prog 6 #[.agg #[v0, v1, v2, .int .i64 s.ticks, .int .i64 s.budget, .int .i64 s.made]] w fun e w' => e = .returned (.bool (stoB s 0)) ∧ Below w.heap.size w w' := by
  have hb : Below w.heap.size w (w.alloc (.cells #[v0, v1, v2, .int .i64 s.ticks, .int .i64 s.budget, .int .i64 s.made] 32)) := (Below.refl _ _).alloc (Nat.le_refl _) _
  have K := Lib.hid (store_any 0 (sat_new 32 h0 h1 h2) hs)
  have HB := Lib.hid hb
  clear hb h0 h1 h2 hs
  generalize stoB s 0 = R at *
  go_enter Tryz.func6, Tryz.ntmps6
  go_wp2_with fail
  refine K.out.mono ?_
  rintro e w1 ⟨rfl, hb1⟩
  have H1 := Lib.hid (HB.out.trans (hb1.mono HB.out.size))
  clear hb1
  go_wp2_with fail
  go_ret
  exact ⟨rfl, H1.out⟩
set_option maxRecDepth 10000 in
set_option maxHeartbeats 8000000 in
theorem class_any {w : World} {sb : Nat} {s : St} {nb : Int} (v : V) (h : SAt w sb s) (hf : fitB s.classes.length s.objects.length nb v = true) :
    Calls Tryz.prog 26 #[.pointer (some ⟨sb, 0, none⟩), .agg #[.int .i64 v.kind, .int .i64 v.num, .string v.text]] w fun e w' => e = .returned (.int .i64 (clsOf s v)) ∧ Below w.heap.size w w' := by
  have hv : valB v = true := by unfold fitB at hf; rw [Bool.and_eq_true] at hf; exact hf.1
  have HX := Lib.hid (vbox_new w v 40)
  rcases val_kind hv with hk | hk | hk | hk | hk | hk | hk | hk
  case inr.inr.inr.inr.inr.inr.inl =>
    obtain ⟨hn0, hn1⟩ := fit_ref hf hk
    obtain ⟨n, hn⟩ : ∃ n : Nat, v.num = (n : Int) := ⟨v.num.toNat, by omega⟩
    have hnl : n < s.objects.length := by omega
    obtain ⟨o, ho⟩ : ∃ o, s.objects[n]? = some o := ⟨_, List.getElem?_eq_getElem hnl⟩
    have hR : clsOf s v = o.cls := by
      unfold clsOf
      rw [hk, hn, Int.toNat_natCast, ho]
      rfl
    rw [hR]
    obtain ⟨v0, v1, v2, c0, c1, c2, -, -, -, -, h1, -⟩ := h.below HX.out.below
    obtain ⟨oa, oc, rfl, hom, -⟩ := id h1
    obtain ⟨ob, oo, rfl, -, vf, vn, y0, y1, -⟩ := h1.at ho
    unfold maxLen at hom
    obtain ⟨k, m, t⟩ := v
    simp only at hk hn HX ⊢
    subst hk hn
    clear h h1 hf hv ho hR c0 c2 y0
    generalize s.objects.length = N at *
    generalize o.cls = c at *
    have m0 := HX.out.a0; have m1 := HX.out.a1
    go_enter Tryz.func26, Tryz.ntmps26
    go_wp2_with fail
    go_quiet (fail)
    go_wp2_with fail
    go_ret
    exact ⟨rfl, below_drewN HX.out.below _⟩
  all_goals
    obtain ⟨k, m, t⟩ := v
    simp only at hk HX ⊢
    subst hk
    clear h hf hv
    go_enter Tryz.func26, Tryz.ntmps26
    go_wp2_with fail
    go_ret
    exact ⟨rfl, (HX.out.below.alloc (by simp) _)⟩
set_option maxRecDepth 10000 in
set_option maxHeartbeats 8000000 in
theorem classof_any {w : World} {v0 v1 v2 : Value} {s : St} (v : V) (h0 : IsAt 0 w v0 s.classes) (h1 : OsAt 0 w v1 s.objects) (h2 : Texts 0 w s.output v2) (hs : SmallSt s) (hv : v.text.size ≤ 1048576) :
    Calls Tryz.prog 11 #[.agg #[v0, v1, v2, .int .i64 s.ticks, .int .i64 s.budget, .int .i64 s.made], .agg #[.int .i64 v.kind, .int .i64 v.num, .string v.text]] w fun e w' => e = .returned (.int .i64 (classAns s v)) ∧ Below w.heap.size w w' := by
  have hb : Below w.heap.size w (w.alloc (.cells #[v0, v1, v2, .int .i64 s.ticks, .int .i64 s.budget, .int .i64 s.made] 32)) := (Below.refl _ _).alloc (Nat.le_refl _) _
  have S0 := sat_new 32 h0 h1 h2
  obtain ⟨W, hW⟩ : ∃ W, W = w.alloc (.cells #[v0, v1, v2, .int .i64 s.ticks, .int .i64 s.budget, .int .i64 s.made] 32) := ⟨_, rfl⟩
  have hWs : W.heap.size = w.heap.size + 1 := by rw [hW]; simp
  have X0 := vbox_new W v 40
  rw [← hW] at S0 hb
  rw [hWs] at X0
  have HX := Lib.hid X0
  have HS := Lib.hid (S0.below X0.below)
  have HB := Lib.hid (hb.trans (X0.below.mono hb.size))
  have K1 := Lib.hid (store_any 1000 HS.out hs)
  have K2 := fun w' (q : SAt w' w.heap.size s) => Lib.hid (fits_any v 1000 q hv)
  have K3 := fun w' (q : SAt w' w.heap.size s) hf => Lib.hid (class_any (nb := 1000) v q hf)
  have HV : Hid (classAns s v = if stoB s 1000 && fitB s.classes.length s.objects.length 1000 v then clsOf s v else -1) := Lib.hid rfl
  rw [hW] at HX HS HB K1
  have m0 := HX.out.a0; have m1 := HX.out.a1; have m2 := HX.out.a2
  clear hb S0 X0 h0 h1 h2 hs hWs hW
  obtain ⟨k, m, t⟩ := v
  simp only at *
  generalize classAns s ⟨k, m, t⟩ = R at *
  generalize clsOf s ⟨k, m, t⟩ = Q at *
  generalize hF : fitB s.classes.length s.objects.length 1000 ⟨k, m, t⟩ = F at *
  generalize stoB s 1000 = A at *
  cases A with
  | false =>
    have hR : R = -1 := HV.out
    subst hR
    clear HV
    go_enter Tryz.func11, Tryz.ntmps11
    go_wp2_with fail
    refine K1.out.mono ?_
    rintro e w1 ⟨rfl, hb1⟩
    have H1 := Lib.hid (HB.out.trans (hb1.mono HB.out.size))
    clear hb1 m0 m1 m2
    go_wp2_with fail
    go_ret
    exact ⟨rfl, H1.out⟩
  | true =>
  cases F with
  | false =>
    have hR : R = -1 := HV.out
    subst hR
    clear HV
    go_enter Tryz.func11, Tryz.ntmps11
    go_wp2_with fail
    refine K1.out.mono ?_
    rintro e w1 ⟨rfl, hb1⟩
    have H1 := Lib.hid (HB.out.trans (hb1.mono HB.out.size))
    have S1 := Lib.hid (HS.out.below hb1)
    have X1 := Lib.hid (HX.out.step hb1)
    clear hb1 m0 m1 m2
    have m0 := X1.out.a0; have m1 := X1.out.a1; have m2 := X1.out.a2
    go_wp2_with fail
    refine (K2 _ S1.out).out.mono ?_
    rintro e w2 ⟨rfl, hb2⟩
    have H2 := Lib.hid (H1.out.trans (hb2.mono H1.out.size))
    clear hb2 m0 m1 m2
    go_wp2_with fail
    go_ret
    exact ⟨rfl, H2.out⟩
  | true =>
    have hR : R = Q := HV.out
    subst hR
    clear HV
    go_enter Tryz.func11, Tryz.ntmps11
    go_wp2_with fail
    refine K1.out.mono ?_
    rintro e w1 ⟨rfl, hb1⟩
    have H1 := Lib.hid (HB.out.trans (hb1.mono HB.out.size))
    have S1 := Lib.hid (HS.out.below hb1)
    have X1 := Lib.hid (HX.out.step hb1)
    clear hb1 m0 m1 m2
    have m0 := X1.out.a0; have m1 := X1.out.a1; have m2 := X1.out.a2
    go_wp2_with fail
    refine (K2 _ S1.out).out.mono ?_
    rintro e w2 ⟨rfl, hb2⟩
    have H2 := Lib.hid (H1.out.trans (hb2.mono H1.out.size))
    have S2 := Lib.hid (S1.out.below hb2)
    have X2 := Lib.hid (X1.out.step hb2)
    clear hb2 m0 m1 m2
    have m0 := X2.out.a0; have m1 := X2.out.a1; have m2 := X2.out.a2
    go_wp2_with fail
    refine (K3 _ S2.out (by first | exact hF | trivial)).out.mono ?_
    rintro e w3 ⟨rfl, hb3⟩
    have H3 := Lib.hid (H2.out.trans (hb3.mono H2.out.size))
    clear hb3 m0 m1 m2
    go_wp2_with fail
    go_ret
    exact ⟨rfl, H3.out⟩
end Go.Proofs.YtoaocpfehdcfgaaGreat.SpecSto

namespace Go.Proofs.YtoaocpfehdcfgaaGreat.fnExactClassOfW
open Go.RowKit
open Strs Tree Texts Core Sto Go.Proofs.YtoaocpfehdcfgaaGreat.Data
theorem walk (ds : List D) (hf : FitL (env 12) (erases ds)) (dv : List D) (hfv : FitL (env 10) (erases dv)) (w : World) (hh : Holdss 0 w ds) (hv : Holdss 0 w dv) :
    Calls Tryz.prog 4 #[agg ds, agg dv] w fun e w' => e = .returned (.bool true) ∧ Below w.heap.size w w' := by
  obtain ⟨s, hs⟩ := store_get hf
  obtain ⟨v, -, hdv⟩ := value_get hfv
  refine walk_of (classAns s v) w ds hf hh dv hfv hv ?_ ?_
  · intro w' es fs he hfe hh hst hw hhf hstf hwf
    obtain ⟨lo, hh⟩ := hh
    obtain ⟨lo2, hhf⟩ := hhf
    have he2 := he.trans hs
    have hf2 := hfe.trans hdv
    have hsm := smallSt_of (s := s) (by rw [← he2]; exact hw)
    obtain ⟨v0, v1, v2, hag, h0, h1, h2, -⟩ := store_open he2 (hh.keep (Nat.zero_le _) (fun _ _ _ _ hc => hc)) hst
    obtain ⟨hav, -, -, -⟩ := value_agg hf2 hhf
    rw [hag, hav]
    exact SpecSto.classof_any v h0 h1 h2 hsm (by rw [hf2, plainV_weight] at hwf; exact hwf)
  · intro w' es fs he hfe ho hw hwf
    have he2 := he.trans hs
    have hf2 := hfe.trans hdv
    have hsm := smallSt_of (s := s) (by rw [← he2]; exact hw)
    obtain ⟨v0, v1, v2, hag, h0, h1, h2, -⟩ := store_open he2 ho.left.holds ho.left.strict
    obtain ⟨hav, -, -, -⟩ := value_agg hf2 ho.right.holds
    rw [hag, hav]
    exact ImplSto.classof_any v h0 h1 h2 hsm (by rw [hf2, plainV_weight] at hwf; exact hwf)
end Go.Proofs.YtoaocpfehdcfgaaGreat.fnExactClassOfW
