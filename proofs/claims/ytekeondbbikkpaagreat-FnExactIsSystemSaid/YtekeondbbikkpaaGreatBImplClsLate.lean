/-
  impl's hasFieldsBehind, extendsOneOf, areClasses.
  impl's extendsOneOf.
-/
import Derived.Test.YtekeondbbikkpaaGreatBImplClsEq
namespace Go.Proofs.YtekeondbbikkpaaGreat.ImplCore
open Go.RowKit
open Strs Tree Core Go.Proofs.YtekeondbbikkpaaGreat.Data
open ImplTok (Part)
open SpecCore (builtins builtins_len builtins_at is_cases texts_At texts_take)
set_option linter.unusedVariables false
theorem fresh_no {fs : List ByteArray} {j : Nat} {x : ByteArray} (hx : fs[j]? = some x) : freshB fs j = !Tok.has (fs.take j) x := by
  unfold freshB
  rw [List.getD_eq_getElem?_getD, hx]; rfl
theorem texts_len {lo : Nat} {w : World} {xs : List ByteArray} {a : Option Addr} {m c : Nat} (h : Texts lo w xs (.slice a m c)) : m = xs.length ∧ m ≤ c ∧ c ≤ maxLen := by
  obtain ⟨a', c', e, hm, -⟩ := h
  cases e
  exact ⟨rfl, hm⟩
set_option maxRecDepth 10000 in
set_option maxHeartbeats 8000000 in
theorem fields_behind {w : World} {b o : Nat} {c : I} {inh : List ByteArray} {vi : Value} (h : IAt 0 w b o c) (hv : Texts 0 w inh vi) :
    Calls Tryz.prog 70 #[.pointer (some ⟨b, o, none⟩), vi] w fun e w' => e = .returned (.bool (fieldsB c.fields inh)) ∧ Below w.heap.size w w' := by
  obtain ⟨vf, c0, c1, c2, hft, hff, -⟩ := h
  obtain ⟨ia, ic, rfl, him, -⟩ := id hv
  obtain ⟨fa, fc, rfl, hfm, -⟩ := id hft
  have HV : Hid (fieldsB c.fields inh = (decide (c.fields.length ≤ 8) && (c.fields.all Tok.isName && ((List.range c.fields.length).all (freshB c.fields) && (decide (inh.length ≤ c.fields.length) && decide (c.fields.take inh.length = inh)))))) := Lib.hid rfl
  have KN := Lib.hid (names_any hft)
  have KC := fun (i : Nat) (hi : i ≤ c.fields.length) (x : ByteArray) (w' : World) (hb : Below w.heap.size w w') => Lib.hid (contains_any _ _ x w' (texts_At ((texts_take hft i hi).below hb)))
  have KE := fun (hi : inh.length ≤ c.fields.length) (w' : World) (hb : Below w.heap.size w w') => Lib.hid (texts_any ((texts_take hft _ hi).below hb) (hv.below hb))
  have HFT := Lib.hid hft
  generalize fieldsB c.fields inh = R at *
  generalize c.fields = fs at *
  unfold maxLen at him hfm
  generalize hn : fs.length = n at *
  generalize hm : inh.length = m at *
  have HN := Lib.hid hn
  clear hn hm hft hv
  by_cases h8 : n ≤ 8
  case neg =>
    have hR : R = false := by rw [HV.out, decide_eq_false h8]; rfl
    subst hR
    have g8 : (8 : Int) < n := by omega
    go_enter Tryz.func70, Tryz.ntmps70
    go_wp2_with fail
    go_ret
    exact ⟨rfl, Below.refl _ _⟩
  have g8 : ¬ (8 : Int) < n := by omega
  rw [decide_eq_true h8, Bool.true_and] at HV
  cases hall : fs.all Tok.isName with
  | false =>
    rw [hall] at KN HV
    have hR : R = false := by rw [HV.out]; rfl
    subst hR
    clear hall
    go_enter Tryz.func70, Tryz.ntmps70
    go_wp2_with fail
    refine KN.out.mono ?_
    rintro e w1 ⟨rfl, hb1⟩
    have H1 := Lib.hid hb1; clear hb1
    go_wp2_with fail
    go_ret
    exact ⟨rfl, H1.out⟩
  | true =>
  rw [hall, Bool.true_and] at HV
  rw [hall] at KN
  clear hall
  have C2 := Lib.hid c2
  go_enter Tryz.func70, Tryz.ntmps70
  go_wp2_with fail
  refine KN.out.mono ?_
  rintro e w1 ⟨rfl, hb1⟩
  have H1 := Lib.hid hb1
  have d2 := cell_keep hb1 c2
  clear hb1 c0 c1 c2 KN
  go_wp2_with fail
  go_loopw [26] (fun j wr => ∃ i : Nat, i ≤ n ∧ j = .int .i64 i ∧ (List.range i).all (freshB fs) = true ∧ Below w.heap.size w wr) (fun j _ => n - (intOf j).toNat)
  case atStart => exact ⟨0, by omega, rfl, rfl, H1.out⟩
  case round =>
    obtain ⟨i, hi, rfl, hq, hbw⟩ := hrel
    have HQ := Lib.hid hq; have HBW := Lib.hid hbw
    have e2 := cell_keep hbw C2.out
    clear hq hbw d2
    by_cases hlt : i < n
    case neg =>
      have hin : i = n := by omega
      have HV2 : Hid (R = (decide (m ≤ n) && decide (fs.take m = inh))) := Lib.hid (by
        rw [HV.out, ← hin, HQ.out, Bool.true_and])
      clear HV HQ
      by_cases hmn : m ≤ n
      case neg =>
        have hR : R = false := by rw [HV2.out, decide_eq_false hmn]; rfl
        subst hR
        have g9 : ¬ (m : Int) ≤ n := by omega
        go_wp2_with fail
        go_ret
        exact ⟨rfl, HBW.out⟩
      have g9 : (m : Int) ≤ n := by omega
      have HV3 : Hid (R = decide (fs.take m = inh)) := Lib.hid (by rw [HV2.out, decide_eq_true hmn, Bool.true_and])
      have K := KE hmn wr HBW.out
      rw [← HV3.out] at K
      clear HV2 HV3 KE KC
      go_wp2_with fail
      refine K.out.mono ?_
      rintro e w2 ⟨rfl, hb2⟩
      have HB3 := Lib.hid (HBW.out.trans (hb2.below.mono HBW.out.size))
      clear hb2 e2 K
      go_wp2_with fail
      go_ret
      exact ⟨rfl, HB3.out⟩
    have hil : i < fs.length := by rw [HN.out]; exact hlt
    obtain ⟨fa', fc', e, -, -, hcell⟩ := HFT.out
    have hfa : fa' = fa := by injection e with e1 e2 e3; exact e1.symm
    rw [hfa] at hcell
    clear e hfa
    obtain ⟨fb, fo, rfl, -, hcd⟩ := hcell (by omega)
    have f0 := cell_keep HBW.out (hcd i hil)
    have HFR : Hid (freshB fs i = !Tok.has (fs.take i) fs[i]) := Lib.hid (fresh_no (List.getElem?_eq_getElem hil))
    have K := KC i (by omega) fs[i] wr HBW.out
    clear hcd hcell
    generalize fs[i] = x at *
    generalize hh : Tok.has (fs.take i) x = b at *
    clear hh
    cases b with
    | true =>
      have hR : R = false := by
        rw [HV.out, range_no hlt (by rw [HFR.out]; rfl)]; rfl
      subst hR
      go_wp2_with fail
      refine K.out.mono ?_
      rintro e w2 ⟨rfl, rfl⟩
      go_wp2_with fail
      go_ret
      exact ⟨rfl, HBW.out⟩
    | false =>
      have HNQ : Hid ((List.range (i + 1)).all (freshB fs) = true) := Lib.hid (range_take HQ.out (by rw [HFR.out]; rfl))
      go_wp2_with fail
      refine K.out.mono ?_
      rintro e w2 ⟨rfl, rfl⟩
      go_wp2_with fail
      go_roundw
      case rel => exact ⟨i + 1, by omega, by go_num, HNQ.out, HBW.out⟩
      case measure => simp [intOf]; omega
end Go.Proofs.YtekeondbbikkpaaGreat.ImplCore

namespace Go.Proofs.YtekeondbbikkpaaGreat.ImplCore
open Go.RowKit
open Strs Tree Core Go.Proofs.YtekeondbbikkpaaGreat.Data
open ImplTok (Part)
open SpecCore (builtins builtins_len builtins_at is_cases texts_At texts_take)
set_option linter.unusedVariables false
def lateB (es : List I) (c : I) : Bool := Tok.isName c.name && (!es.any (fun x => decide (x.name = c.name)) && ((decide (0 ≤ c.parent) && decide (c.parent < es.length)) && !(decide (4 < c.parent) && decide (c.parent < 16)))) && (match es[c.parent.toNat]? with
    | some p => fieldsB c.fields p.fields
    | none => true)
theorem late_of {cs : List I} {i : Nat} {c : I} (hc : cs[i]? = some c) (hi : ¬ i < 16) : infoB cs i = lateB (cs.take i) c := by
  have hl := (List.getElem?_eq_some_iff.1 hc).1
  have hlen : (cs.take i).length = i := by rw [List.length_take]; omega
  rw [SpecCore.info_late hc hi]
  unfold lateB placeB
  rw [hlen]
  by_cases hp : 0 ≤ c.parent ∧ c.parent < (i : Int)
  · have : (cs.take i)[c.parent.toNat]? = cs[c.parent.toNat]? := by rw [List.getElem?_take_of_lt (by omega)]
    rw [this]
    cases cs[c.parent.toNat]? <;> rfl
  · have : (decide (0 ≤ c.parent) && decide (c.parent < (i : Int))) = false := by
      rw [← Bool.not_eq_true, Bool.and_eq_true, decide_eq_true_eq, decide_eq_true_eq]; exact hp
    rw [this]
    simp
theorem closed_is (p : Int) (b : Bool) (w : World) (hb : (decide (4 < p) && decide (p < 16)) = b) :
    Calls Tryz.prog 69 #[.int .i64 p] w fun e w' => e = .returned (.bool b) ∧ w = w' := by
  cases h1 : decide (4 < p) with
  | false =>
    rw [h1] at hb
    subst hb
    go_enter Tryz.func69, Tryz.ntmps69
    go_wp2_with fail
    go_ret
    exact ⟨rfl, rfl⟩
  | true =>
    rw [h1, Bool.true_and] at hb
    subst hb
    go_enter Tryz.func69, Tryz.ntmps69
    go_wp2_with fail
    go_ret
    exact ⟨rfl, rfl⟩
set_option maxRecDepth 10000 in
set_option maxHeartbeats 8000000 in
theorem late_any {w : World} {b o : Nat} {c : I} {es : List I} {v : Value} (h : IAt 0 w b o c) (hv : IsAt 0 w v es) :
    Calls Tryz.prog 45 #[.pointer (some ⟨b, o, none⟩), v] w fun e w' => e = .returned (.bool (lateB es c)) ∧ Below w.heap.size w w' := by
  have HI := Lib.hid h
  have HE := Lib.hid hv
  obtain ⟨vf, c0, c1, c2, hft, hff, -⟩ := h
  obtain ⟨ia, ic, rfl, him, -⟩ := hv
  have KN := Lib.hid (ImplTok.is_name c.name w)
  have KI := fun (w' : World) (hb : Below w.heap.size w w') => Lib.hid (indexc_any (nm := c.name) (HE.out.below hb))
  have HV : Hid (lateB es c = (Tok.isName c.name && (!es.any (fun x => decide (x.name = c.name)) && ((decide (0 ≤ c.parent) && decide (c.parent < es.length)) && !(decide (4 < c.parent) && decide (c.parent < 16)))) && (match es[c.parent.toNat]? with
    | some p => fieldsB c.fields p.fields
    | none => true))) := Lib.hid rfl
  have hne := clsIx_ne es c.name
  generalize lateB es c = R at *
  generalize clsIx es c.name = q at *
  generalize (es.any fun x => decide (x.name = c.name)) = anyb at *
  generalize c.name = nm at *
  unfold maxLen at him
  generalize hn : es.length = n at *
  have HN := Lib.hid hn
  clear hn hft hff
  unfold Part at KN
  generalize Tok.isName nm = N at *
  cases N with
  | false =>
    have hR : R = false := by rw [HV.out]; rfl
    subst hR
    go_enter Tryz.func45, Tryz.ntmps45
    go_wp2_with fail
    refine KN.out.mono ?_
    rintro e w1 ⟨rfl, hb1⟩
    have H1 := Lib.hid hb1; clear hb1
    go_wp2_with fail
    go_ret
    exact ⟨rfl, H1.out⟩
  | true =>
  cases anyb with
  | true =>
    have hR : R = false := by rw [HV.out]; rfl
    subst hR
    go_enter Tryz.func45, Tryz.ntmps45
    go_wp2_with fail
    refine KN.out.mono ?_
    rintro e w1 ⟨rfl, hb1⟩
    have H1 := Lib.hid hb1
    have d0 := cell_keep hb1 c0
    clear hb1 c0 c1 c2
    go_wp2_with fail
    refine (KI _ H1.out).out.mono ?_
    rintro e w2 ⟨rfl, hb2⟩
    have H2 := Lib.hid (H1.out.trans (hb2.mono H1.out.size)); clear hb2 d0
    go_wp2_with fail
    go_ret
    exact ⟨rfl, H2.out⟩
  | false =>
  have KF := fun (w' : World) (hb : Below w.heap.size w w') (pn : Nat) (pp : I) (hp : es[pn]? = some pp) (vp : Value) (ht : Texts 0 w' pp.fields vp) => Lib.hid (fields_behind (HI.out.below hb) ht)
  rw [Bool.true_and, Bool.not_false, Bool.true_and] at HV
  generalize c.parent = p at *
  have hcase : (decide (4 < p) = false ∧ decide (p < 0) = true) ∨ (decide (4 < p) = false ∧ decide (p < 0) = false ∧ decide ((n : Int) ≤ p) = true) ∨ (decide (4 < p) = true ∧ decide (p < 16) = true ∧ decide (p < 0) = false ∧ decide ((n : Int) ≤ p) = true) ∨ (decide (4 < p) = true ∧ decide (p < 16) = false ∧ decide (p < 0) = false ∧ decide ((n : Int) ≤ p) = true) ∨ (decide (4 < p) = true ∧ decide (p < 16) = true ∧ decide (p < 0) = false ∧ decide ((n : Int) ≤ p) = false) ∨
      (decide (4 < p) = false ∧ decide (p < 0) = false ∧ decide ((n : Int) ≤ p) = false) ∨ (decide (4 < p) = true ∧ decide (p < 16) = false ∧ decide (p < 0) = false ∧ decide ((n : Int) ≤ p) = false) := by
    simp only [decide_eq_true_eq, decide_eq_false_iff_not]
    omega
  rcases hcase with ⟨g1, g2⟩ | ⟨g1, g2, g3⟩ | ⟨g1, g0, g2, g3⟩ | ⟨g1, g0, g2, g3⟩ | ⟨g1, g0, g2, g3⟩ | ⟨g1, g2, g3⟩ | ⟨g1, g0, g2, g3⟩
  case inr.inr.inr.inr.inr.inl | inr.inr.inr.inr.inr.inr =>
    have hp1 := of_decide_eq_false g2
    have hp2 := of_decide_eq_false g3
    obtain ⟨pn, rfl⟩ : ∃ pn : Nat, p = (pn : Int) := ⟨p.toNat, by omega⟩
    have hpn : pn < n := by omega
    obtain ⟨pp, hpp⟩ : ∃ pp, es[pn]? = some pp := ⟨_, List.getElem?_eq_getElem (by rw [HN.out]; exact hpn)⟩
    have HR : Hid (R = fieldsB c.fields pp.fields) := Lib.hid (by
      rw [HV.out, Int.toNat_natCast, hpp]
      simp only [g1, decide_eq_true (show (0 : Int) ≤ pn by omega), decide_eq_true (show (pn : Int) < n by omega)]
      try rw [g0]
      rfl)
    clear HV hp1 hp2
    obtain ⟨eb, eo, hae, -, hia⟩ := HE.out.at hpp
    subst hae
    have HIA := Lib.hid hia
    have HPP := Lib.hid hpp
    have KC := fun w' => Lib.hid (closed_is (pn : Int) false w' (by first | (rw [g1]; rfl) | (rw [g1, g0]; rfl)))
    clear hia hpp
    go_enter Tryz.func45, Tryz.ntmps45
    go_wp2_with fail
    refine KN.out.mono ?_
    rintro e w1 ⟨rfl, hb1⟩
    have H1 := Lib.hid hb1
    have d0 := cell_keep hb1 c0
    clear hb1 c0
    have C1 := Lib.hid c1
    clear c1 c2
    go_wp2_with fail
    refine (KI _ H1.out).out.mono ?_
    rintro e w2 ⟨rfl, hb2⟩
    have H2 := Lib.hid (H1.out.trans (hb2.mono H1.out.size)); clear hb2 d0
    have e1 := cell_keep H2.out C1.out
    obtain ⟨vp, -, -, p2, hpt, -⟩ := HIA.out.below H2.out
    have K := KF w2 H2.out pn pp HPP.out vp hpt
    rw [← HR.out] at K
    obtain ⟨pa, pc, rfl, -⟩ := hpt
    clear KF KI KN
    go_wp2_with fail
    refine (KC _).out.mono ?_
    rintro e w5 ⟨rfl, rfl⟩
    go_wp2_with fail
    refine K.out.mono ?_
    rintro e w3 ⟨rfl, hb3⟩
    have H3 := Lib.hid (H2.out.trans (hb3.mono H2.out.size)); clear hb3
    go_wp2_with fail
    go_ret
    exact ⟨rfl, H3.out⟩
  all_goals
    have hR : R = false := by
      have h1 := g1; have h2 := g2
      simp only [decide_eq_true_eq, decide_eq_false_iff_not] at h1 h2
      rw [HV.out]
      first
        | (rw [decide_eq_false (show ¬ 0 ≤ p by omega)]; rfl)
        | (rw [decide_eq_false (show ¬ p < (n : Int) by have := of_decide_eq_true g3; omega)]; simp)
        | (rw [g1, g0]; simp)
    subst hR
    clear HV KF
    have KC := fun (h : (decide (4 < p) && decide (p < 16)) = true) w' => Lib.hid (closed_is p true w' h)
    go_enter Tryz.func45, Tryz.ntmps45
    go_wp2_with fail
    refine KN.out.mono ?_
    rintro e w1 ⟨rfl, hb1⟩
    have H1 := Lib.hid hb1
    have d0 := cell_keep hb1 c0
    have C1 := Lib.hid c1
    clear hb1 c0 c1 c2
    go_wp2_with fail
    refine (KI _ H1.out).out.mono ?_
    rintro e w2 ⟨rfl, hb2⟩
    have H2 := Lib.hid (H1.out.trans (hb2.mono H1.out.size)); clear hb2 d0
    have e1 := cell_keep H2.out C1.out
    clear KI KN
    go_wp2_with fail
    first
      | (go_ret
         exact ⟨rfl, H2.out⟩)
      | (refine (KC (by rw [g1, g0]; rfl) _).out.mono ?_
         rintro e w5 ⟨rfl, rfl⟩
         go_wp2_with fail
         go_ret
         exact ⟨rfl, H2.out⟩)
end Go.Proofs.YtekeondbbikkpaaGreat.ImplCore
