/-
  spec.l8IsClasses: what it answers of a list of classes.
-/
import Derived.Test.YtekeondbbikkpaaGreatBSpecInfos
import Derived.Test.YtekeondbbikkpaaGreatBSpecName
import Derived.Test.YtekeondbbikkpaaGreatBSpecTexts
import Derived.Test.YtekeondbbikkpaaGreatBSpecTree2
import Derived.Deep.QuietTactic
import Derived.BigQuiet
namespace Go.Proofs.YtekeondbbikkpaaGreat.SpecCore
open Go.RowKit
open Strs Tree Core Ints Go.Proofs.YtekeondbbikkpaaGreat.Data
set_option linter.unusedVariables false
theorem grown_below {w w' : World} (h : ∃ p : Regrown, w' = Sort.grow (redrawn w p.d) p.os) : Below w.heap.size w w' := by
  obtain ⟨p, rfl⟩ := h
  exact below_regrown _ _ _
theorem str_no {s t : ByteArray} (h : ¬ s = t) : (s.toList == t.toList) = false := SpecTexts.beq_no h
theorem str_yes {s t : ByteArray} (h : s = t) : (s.toList == t.toList) = true ∧ (s.toList != t.toList) = false := by subst h; simp
theorem str_no2 {s t : ByteArray} (h : ¬ s = t) : (s.toList == t.toList) = false ∧ (s.toList != t.toList) = true := by
  have := str_no h
  exact ⟨this, by unfold bne; rw [this]; rfl⟩
theorem int_yes {s t : Int} (h : s = t) : (s == t) = true ∧ (s != t) = false := by subst h; simp
theorem int_no {s t : Int} (h : ¬ s = t) : (s == t) = false ∧ (s != t) = true := by
  have : (s == t) = false := by rw [beq_eq_false_iff_ne]; exact h
  exact ⟨this, by unfold bne; rw [this]; rfl⟩
theorem is_cases (c b : I) (F : Bool) (hF : decide (c.fields = b.fields) = F) :
    (isB c b = false ∧ (((c.name.toList == b.name.toList) = false ∧ (c.name.toList != b.name.toList) = true) ∨ (c.name = b.name ∧ ((c.parent == b.parent) = false ∧ (c.parent != b.parent) = true)) ∨ (c.name = b.name ∧ c.parent = b.parent ∧ F = false))) ∨
    (isB c b = true ∧ c.name = b.name ∧ c.parent = b.parent ∧ F = true) := by
  unfold isB
  rw [hF]
  by_cases h1 : c.name = b.name
  case neg => exact .inl ⟨by rw [decide_eq_false h1]; rfl, .inl (str_no2 h1)⟩
  by_cases h2 : c.parent = b.parent
  case neg => exact .inl ⟨by rw [decide_eq_false h2]; simp, .inr (.inl ⟨h1, int_no h2⟩)⟩
  cases F with
  | false => exact .inl ⟨by simp, .inr (.inr ⟨h1, h2, rfl⟩)⟩
  | true => exact .inr ⟨by rw [decide_eq_true h1, decide_eq_true h2]; rfl, h1, h2, rfl⟩
structure Dx (w0 : World) (g : Nat) (nm : ByteArray) (pr : Int) (vf : Value) (wx : World) : Prop where
  below : Below w0.heap.size w0 wx
  a0 : wx.cell? ⟨g, 0, none⟩ = some (.string nm)
  a1 : wx.cell? ⟨g, 1, none⟩ = some (.int .i64 pr)
  a2 : wx.cell? ⟨g, 2, none⟩ = some vf
theorem Dx.step {w0 wx w' : World} {g : Nat} {nm : ByteArray} {pr : Int} {vf : Value} (h : Dx w0 g nm pr vf wx) (hb : Below wx.heap.size wx w') : Dx w0 g nm pr vf w' :=
  ⟨h.below.trans (hb.mono h.below.size), cell_keep hb h.a0, cell_keep hb h.a1, cell_keep hb h.a2⟩
theorem texts_take {lo : Nat} {w : World} {xs : List ByteArray} {a : Option Addr} {m cap : Nat} (h : Texts lo w xs (.slice a m cap)) (n : Nat) (hn : n ≤ xs.length) : Texts lo w (xs.take n) (.slice a n cap) := by
  obtain ⟨a', c', e, hm, hs, hc⟩ := h
  cases e
  have hl : (xs.take n).length = n := by rw [List.length_take]; omega
  refine ⟨a, cap, by rw [hl], by rw [hl]; omega, fun x hx => hs x (List.mem_of_mem_take hx), fun hp => ?_⟩
  obtain ⟨b, o, rfl, hb, hd⟩ := hc (by omega)
  refine ⟨b, o, rfl, hb, fun j hj => ?_⟩
  rw [hd j (by omega)]
  simp
theorem texts_At {lo : Nat} {w : World} {xs : List ByteArray} {v : Value} (h : Texts lo w xs v) : At w v xs := by
  obtain ⟨a, c, rfl, hm, hs, hc⟩ := h
  refine ⟨a, c, rfl, Nat.le_trans hm.1 hm.2, fun hp => ?_⟩
  obtain ⟨b, o, rfl, -, hd⟩ := hc hp
  refine ⟨b, o, rfl, fun j hj => ?_⟩
  rw [hd j hj, List.getD_eq_getElem?_getD, List.getElem?_eq_getElem hj]; rfl
theorem info_late {cs : List I} {i : Nat} {c : I} (hc : cs[i]? = some c) (hi : ¬ i < 16) : infoB cs i = (placeB cs i c && (match cs[c.parent.toNat]? with
    | some p => fieldsB c.fields p.fields
    | none => true)) := by
  unfold infoB
  rw [hc]
  simp only []
  rw [if_neg hi]
  cases cs[c.parent.toNat]? <;> rfl
set_option maxRecDepth 10000 in
set_option maxHeartbeats 16000000 in
theorem classes_any {w : World} {v : Value} {cs : List I} (h : IsAt 0 w v cs) (hsz : ∀ c, c ∈ cs → c.name.size ≤ 1048576 ∧ c.fields.length + lens c.fields ≤ 1048576) :
    Calls Tryz.prog 12 #[v] w fun e w' => e = .returned (.bool (infosB cs)) ∧ Below w.heap.size w w' := by
  have HI := Lib.hid h
  obtain ⟨a, cp, rfl, hm, -⟩ := h
  unfold maxLen at hm
  have HV : Hid (infosB cs = ((decide (16 ≤ cs.length) && decide (cs.length ≤ 24)) && (List.range cs.length).all (infoB cs))) := Lib.hid rfl
  have HSZ := Lib.hid hsz; clear hsz
  generalize infosB cs = R at *
  generalize hN : cs.length = N at *
  have HN := Lib.hid hN; clear hN
  by_cases h16 : N < 16
  · have hR : R = false := by rw [HV.out, decide_eq_false (by omega)]; rfl
    subst hR
    have g1 : (N : Int) < 16 := by omega
    clear HV HI HSZ HN
    go_enter Tryz.func12, Tryz.ntmps12
    go_wp2_with fail
    go_ret
    exact ⟨rfl, Below.refl _ _⟩
  have g1 : ¬ (N : Int) < 16 := by omega
  by_cases h24 : 24 < N
  · have hR : R = false := by rw [HV.out, decide_eq_false (show ¬ N ≤ 24 by omega)]; simp
    subst hR
    have g2 : (24 : Int) < N := by omega
    clear HV HI HSZ HN
    go_enter Tryz.func12, Tryz.ntmps12
    go_wp2_with fail
    go_ret
    exact ⟨rfl, Below.refl _ _⟩
  have g2 : ¬ (24 : Int) < N := by omega
  have HV2 : Hid (R = (List.range N).all (infoB cs)) := Lib.hid (by rw [HV.out, decide_eq_true (by omega), decide_eq_true (by omega)]; rfl)
  clear HV
  have hb0 : Below w.heap.size w (w.alloc (.cells #[.slice none 0 0, .string ByteArray.empty, .bool false, .slice none 0 0, .slice none 0 0, .slice none 0 0] 73)) := (Below.refl _ _).alloc (Nat.le_refl _) _
  have KI := Lib.hid (infos_any (w.alloc (.cells #[.slice none 0 0, .string ByteArray.empty, .bool false, .slice none 0 0, .slice none 0 0, .slice none 0 0] 73)) w.heap.size (by go_simp))
  have HB0 := Lib.hid hb0
  clear hb0
  go_enter Tryz.func12, Tryz.ntmps12
  go_wp2_with fail
  refine KI.out.mono ?_
  rintro e w1 ⟨vi, ds, rfl, hde, hdh, hds, hb1⟩
  have hia := infos_open hdh hds hde
  have HB1 := Lib.hid (HB0.out.trans (hb1.mono HB0.out.size))
  have HIA := Lib.hid hia
  obtain ⟨ia, ic, rfl, him, -⟩ := hia
  rw [builtins_len] at him ⊢
  unfold maxLen at him
  clear hde hdh hds hb1 KI HB0
  go_wp2_with fail
  go_loopw [5] (fun j wr => ∃ i : Nat, i ≤ N ∧ j = .int .i64 i ∧ (List.range i).all (infoB cs) = true ∧ Below w1.heap.size w1 wr) (fun j _ => N - (intOf j).toNat)
  case atStart => exact ⟨0, by omega, rfl, rfl, Below.refl _ _⟩
  case round =>
    obtain ⟨i, hi, rfl, hq, hbw⟩ := hrel
    have HQ := Lib.hid hq; have HBW := Lib.hid hbw
    clear hq hbw
    by_cases hlt : i < N
    case neg =>
      have hR : R = true := by
        have h1 : i = N := by omega
        rw [HV2.out, ← h1]; exact HQ.out
      have HRR := Lib.hid hR
      clear hR
      go_wp2_with fail
      go_ret
      exact ⟨by rw [HRR.out]; rfl, HB1.out.trans (HBW.out.mono HB1.out.size)⟩
    have hil : i < cs.length := by rw [HN.out]; exact hlt
    obtain ⟨c, hc⟩ : ∃ c, cs[i]? = some c := ⟨_, List.getElem?_eq_getElem hil⟩
    have HB := Lib.hid (HB1.out.trans (HBW.out.mono HB1.out.size))
    obtain ⟨cb, co, rfl, -, vf, c00, c10, c20, hft0, hff, hpw⟩ := HI.out.at hc
    have c0 := cell_keep HB.out c00; have c1 := cell_keep HB.out c10; have c2 := cell_keep HB.out c20
    have hft := hft0.below HB.out
    have HFT0 := Lib.hid hft0
    clear c00 c10 c20 hft0
    have hcs := HSZ.out c (List.mem_of_getElem? hc)
    obtain ⟨fa, fc, rfl, -⟩ := id hft
    obtain ⟨W, hW⟩ : ∃ W, W = wr.alloc (.cells #[.string c.name, .int .i64 c.parent, .slice fa c.fields.length fc] 76) := ⟨_, rfl⟩
    have hbW : Below wr.heap.size wr W := by rw [hW]; exact (Below.refl _ _).alloc (Nat.le_refl _) _
    have m0 : W.cell? ⟨wr.heap.size, 0, none⟩ = some (.string c.name) := by rw [hW]; go_simp
    have m1 : W.cell? ⟨wr.heap.size, 1, none⟩ = some (.int .i64 c.parent) := by rw [hW]; go_simp
    have m2 : W.cell? ⟨wr.heap.size, 2, none⟩ = some (.slice fa c.fields.length fc) := by rw [hW]; go_simp
    have HWW := Lib.hid hW
    have HBX := Lib.hid (HBW.out.trans (hbW.mono HBW.out.size))
    have HFT := Lib.hid (hft.below hbW)
    have HFF := Lib.hid hff
    have HSZC := Lib.hid hcs
    have HPW := Lib.hid hpw
    have HYES : Hid (infoB cs i = true → (List.range (i + 1)).all (infoB cs) = true) := Lib.hid (fun h => range_take HQ.out h)
    have HNO : Hid (infoB cs i = false → R = false) := Lib.hid (fun h => by rw [HV2.out]; exact range_no hlt h)
    have HCC := Lib.hid hc
    clear hW hbW hft hff hcs hpw hc
    by_cases h16i : i < 16
    · obtain ⟨ib, io, hie, -, vb, b0, b1, b2, hbt, hbf, -⟩ := (HIA.out.below HBX.out).at (builtins_at i h16i)
      cases hie
      obtain ⟨ba, bc, rfl, -⟩ := id hbt
      have HIB : Hid (infoB cs i = isB c (Core.builtin i)) := Lib.hid (by unfold infoB; rw [HCC.out]; simp only []; rw [if_pos h16i])
      have KT := fun d os => Lib.hid (Calls.regrown_of (w := W) (d := d) (os := os) (SpecTexts.texts_any (HFT.out.below (below_regrown W d os)) (hbt.below (below_regrown W d os))))
      have hic := is_cases c (Core.builtin i) _ rfl
      rw [← HIB.out] at hic
      generalize decide (c.fields = (Core.builtin i).fields) = F at *
      generalize Core.builtin i = b at *
      generalize infoB cs i = M at *
      have k0 := cell_regrown m0; have k1 := cell_regrown m1; have k2 := cell_regrown m2
      have l0 := cell_regrown b0; have l1 := cell_regrown b1; have l2 := cell_regrown b2
      have g3 : (i : Int) < 16 := by omega
      clear m0 m1 m2 b0 b1 b2 hbt hbf HIB
      generalize hcn : c.name = cn at *
      generalize hcp : c.parent = cpr at *
      clear hcn hcp
      rcases hic with ⟨hM, hic⟩ | ⟨hM, rfl, rfl, rfl⟩
      · have hR := HNO.out hM
        subst hR
        clear HNO HYES hM
        rcases hic with ⟨f1, f2⟩ | ⟨rfl, f1, f2⟩ | ⟨rfl, rfl, rfl⟩
        all_goals
          go_upto_region 10 with fail
          rw [← HWW.out]
          refine wp_region_quiet_below (by kernel_rfl) (by kernel_rfl) ?_
          repeat (go_big_quiet_step ((go_at_call 31; exact (KT _ _).out)))
          refine wpQuiet_nil ?_
          intro w2 hw2
          have HB2 := Lib.hid (HB1.out.trans ((HBX.out.trans ((grown_below hw2).mono HBX.out.size)).mono HB1.out.size)); clear hw2 k0 k1 k2 l0 l1 l2
          go_wp2_with fail
          go_ret
          exact ⟨rfl, HB2.out⟩
      · have HNEW := Lib.hid (HYES.out hM)
        clear HNO HYES hM
        go_upto_region 10 with fail
        rw [← HWW.out]
        refine wp_region_quiet_below (by kernel_rfl) (by kernel_rfl) ?_
        repeat (go_big_quiet_step ((go_at_call 31; exact (KT _ _).out)))
        refine wpQuiet_nil ?_
        intro w2 hw2
        have HB2 := Lib.hid (HBX.out.trans ((grown_below hw2).mono HBX.out.size)); clear hw2 k0 k1 k2 l0 l1 l2
        go_wp2_with fail
        go_roundw
        case rel => exact ⟨i + 1, by omega, by go_num, HNEW.out, HB2.out⟩
        case measure => simp [intOf]; omega
    have g3 : ¬ (i : Int) < 16 := by omega
    obtain ⟨wo, rfl⟩ : ∃ wo : World, wo = wr := ⟨_, rfl⟩
    have HIB : Hid (infoB cs i = (placeB cs i c && (match cs[c.parent.toNat]? with
      | some p => fieldsB c.fields p.fields
      | none => true))) := Lib.hid (info_late HCC.out h16i)
    have HDX : Hid (Dx w1 wo.heap.size c.name c.parent (.slice fa c.fields.length fc) W) := Lib.hid ⟨HBX.out, m0, m1, m2⟩
    have KN := Lib.hid (SpecName.isname_any c.name W HSZC.out.1)
    have KIN := fun w' => Lib.hid (SpecTree.in_any c.parent 0 ((i : Int) - 1) w')
    have hfl : c.fields.length ≤ 1048576 := by have := HSZC.out.2; omega
    generalize hM : infoB cs i = M at *
    clear hM
    cases hP1 : Tok.isName c.name with
    | false =>
      rw [hP1] at KN
      have hR := HNO.out (by rw [HIB.out]; unfold placeB; rw [hP1]; rfl)
      subst hR
      clear HNO HYES HIB hP1
      go_upto_region 12 with fail
      rw [← HWW.out]
      go_wp2_with fail
      refine KN.out.mono ?_
      rintro e w2 ⟨rfl, hb2⟩
      have D2 := Lib.hid (HDX.out.step hb2); clear hb2 m0 m1 m2
      go_wp2_with fail
      go_ret
      exact ⟨rfl, HB1.out.trans (D2.out.below.mono HB1.out.size)⟩
    | true =>
    rw [hP1] at KN
    by_cases hP2 : 0 ≤ c.parent ∧ c.parent ≤ (i : Int) - 1
    case neg =>
      rw [decide_eq_false hP2] at KIN
      have hR := HNO.out (by
        rw [HIB.out]; unfold placeB
        rw [show (decide (0 ≤ c.parent) && decide (c.parent < (i : Int))) = false by
          rw [← Bool.not_eq_true, Bool.and_eq_true, decide_eq_true_eq, decide_eq_true_eq]; omega]
        simp)
      subst hR
      clear HNO HYES HIB hP1 hP2
      go_upto_region 12 with fail
      rw [← HWW.out]
      go_wp2_with fail
      refine KN.out.mono ?_
      rintro e w2 ⟨rfl, hb2⟩
      have D2 := Lib.hid (HDX.out.step hb2); clear hb2 m0 m1 m2
      have m1 := D2.out.a1
      go_wp2_with fail
      refine (KIN _).out.mono ?_
      rintro e w3 ⟨rfl, rfl⟩
      go_wp2_with fail
      go_ret
      exact ⟨rfl, HB1.out.trans (D2.out.below.mono HB1.out.size)⟩
    rw [decide_eq_true hP2] at KIN
    by_cases hP3 : 4 < c.parent ∧ c.parent < 16
    · have hR := HNO.out (by
        rw [HIB.out]; unfold placeB
        rw [decide_eq_true hP3.1, decide_eq_true hP3.2]
        simp)
      subst hR
      obtain ⟨p4, p16⟩ := hP3
      clear HNO HYES HIB hP1
      go_upto_region 12 with fail
      rw [← HWW.out]
      go_wp2_with fail
      refine KN.out.mono ?_
      rintro e w2 ⟨rfl, hb2⟩
      have D2 := Lib.hid (HDX.out.step hb2); clear hb2 m0 m1 m2
      have m1 := D2.out.a1
      go_wp2_with fail
      refine (KIN _).out.mono ?_
      rintro e w3 ⟨rfl, rfl⟩
      go_wp2_with fail
      go_ret
      exact ⟨rfl, HB1.out.trans (D2.out.below.mono HB1.out.size)⟩
    obtain ⟨pn, hpn⟩ : ∃ pn : Nat, c.parent = (pn : Int) := ⟨c.parent.toNat, by omega⟩
    have hpl : pn < cs.length := by omega
    obtain ⟨pp, hpp⟩ : ∃ pp, cs[pn]? = some pp := ⟨_, List.getElem?_eq_getElem hpl⟩
    have HIB2 : Hid (M = (!(cs.take i).any (fun x => decide (x.name = c.name)) && fieldsB c.fields pp.fields)) := Lib.hid (by
      rw [HIB.out, hpn, Int.toNat_natCast, hpp]
      unfold placeB
      rw [hP1, show (decide (0 ≤ c.parent) && decide (c.parent < (i : Int))) = true by
          rw [Bool.and_eq_true, decide_eq_true_eq, decide_eq_true_eq]; omega, show (decide (4 < c.parent) && decide (c.parent < 16)) = false by
          rw [← Bool.not_eq_true, Bool.and_eq_true, decide_eq_true_eq, decide_eq_true_eq]; exact hP3]
      simp)
    clear HIB
    have HPP := Lib.hid hpp
    have HPN := Lib.hid hpn
    clear hpp hpn
    have h3 : (¬ 4 < c.parent) ∨ (4 < c.parent ∧ ¬ c.parent < 16) := by omega
    by_cases hP4 : 8 < c.fields.length
    · have hR := HNO.out (by rw [HIB2.out]; unfold fieldsB; rw [decide_eq_false (show ¬ c.fields.length ≤ 8 by omega)]; simp)
      subst hR
      have p8 : (8 : Int) < (c.fields.length : Int) := by omega
      clear HNO HYES hP1 hP3 hP4
      rcases h3 with q4 | ⟨q4, q16⟩
      all_goals
        go_upto_region 12 with fail
        rw [← HWW.out]
        go_wp2_with fail
        refine KN.out.mono ?_
        rintro e w2 ⟨rfl, hb2⟩
        have D2 := Lib.hid (HDX.out.step hb2); clear hb2 m0 m1 m2
        have m1 := D2.out.a1
        have m2 := D2.out.a2
        go_wp2_with fail
        refine (KIN _).out.mono ?_
        rintro e w3 ⟨rfl, rfl⟩
        go_wp2_with fail
        go_ret
        exact ⟨rfl, HB1.out.trans (D2.out.below.mono HB1.out.size)⟩
    have p8 : ¬ (8 : Int) < (c.fields.length : Int) := by omega
    have p8' : c.fields.length ≤ 8 := by omega
    rcases h3 with q4 | ⟨q4, q16⟩
    all_goals
      clear hP1 hP3
      go_upto_region 12 with fail
      rw [← HWW.out]
      go_wp2_with fail
      refine KN.out.mono ?_
      rintro e w2 ⟨rfl, hb2⟩
      have D2 := Lib.hid (HDX.out.step hb2)
      have HB2 := Lib.hid hb2
      clear hb2 m0 m1 m2
      have m1 := D2.out.a1
      have m2 := D2.out.a2
      go_wp2_with fail
      refine (KIN _).out.mono ?_
      rintro e w3 ⟨rfl, rfl⟩
      go_wp2_with fail
      go_loopw [7] (fun j wx => ∃ k : Nat, k ≤ i ∧ j = .int .i64 k ∧ Hid (∀ q, q < k → ∀ x, cs[q]? = some x → ¬ x.name = c.name) ∧ Dx w1 wo.heap.size c.name c.parent (.slice fa c.fields.length fc) wx) (fun j _ => i - (intOf j).toNat)
      case atStart => exact ⟨0, by omega, rfl, Lib.hid (fun q hq => by omega), D2.out⟩
      case round =>
        obtain ⟨k, hk, rfl, HK, hdx⟩ := hrel
        have DK := Lib.hid hdx
        clear hdx m1 m2
        by_cases hki : k < i
        · have hkl : k < cs.length := by rw [HN.out]; omega
          obtain ⟨x, hx⟩ : ∃ x, cs[k]? = some x := ⟨_, List.getElem?_eq_getElem hkl⟩
          obtain ⟨xb, xo, hxe, -, xf, x0, -, -, -, -, -⟩ := (HI.out.below (HB1.out.trans (DK.out.below.mono HB1.out.size))).at hx
          cases hxe
          have d0 := DK.out.a0
          have HX := Lib.hid hx
          clear hx
          by_cases hxn : x.name = c.name
          · have hR := HNO.out (by
              rw [HIB2.out]
              have : (cs.take i).any (fun x => decide (x.name = c.name)) = true := by
                rw [List.any_eq_true]
                refine ⟨x, ?_, decide_eq_true hxn⟩
                have hkt : (cs.take i)[k]? = some x := by rw [List.getElem?_take_of_lt hki]; exact HX.out
                exact List.mem_of_getElem? hkt
              rw [this]; rfl)
            subst hR
            obtain ⟨f1, f2⟩ := str_yes hxn
            rw [hxn] at x0
            clear hxn f1 f2
            go_wp2_with fail
            go_quiet (fail)
            go_wp2_with fail
            go_ret
            exact ⟨rfl, HB1.out.trans (((DK.out.step (low_draws _ _)).below).mono HB1.out.size)⟩
          · obtain ⟨f1, f2⟩ := str_no2 hxn
            have HXN := Lib.hid hxn
            clear hxn
            go_wp2_with fail
            go_quiet (fail)
            go_wp2_with fail
            go_roundw
            case rel => exact ⟨k + 1, by omega, by go_num, Lib.hid (fun q hq y hy => by
              by_cases e : q = k
              · subst e
                have := HX.out.symm.trans hy
                cases this
                exact HXN.out
              · exact HK.out q (by omega) y hy), DK.out.step (low_draws _ _)⟩
            case measure => simp [intOf]; omega
        have hki2 : k = i := by omega
        have HANY : Hid ((cs.take i).any (fun x => decide (x.name = c.name)) = false) := Lib.hid (by
          rw [List.any_eq_false]
          intro x hx
          obtain ⟨q, hq, rfl⟩ := List.mem_iff_getElem.1 hx
          have hqi : q < i := by rw [List.length_take] at hq; omega
          have hql : q < cs.length := by rw [List.length_take] at hq; omega
          have h2 := HK.out q (by omega) (cs[q]'hql) (List.getElem?_eq_getElem hql)
          rw [List.getElem_take]
          simpa using h2)
        have HIB3 : Hid (M = fieldsB c.fields pp.fields) := Lib.hid (by rw [HIB2.out, HANY.out]; rfl)
        clear HANY hki2
        obtain ⟨pb, po, hpe, -, pf, -, -, pc2, hpt, hpf, -⟩ := (HI.out.below (HB1.out.trans (DK.out.below.mono HB1.out.size))).at HPP.out
        cases hpe
        obtain ⟨qa, qc, rfl, -⟩ := id hpt
        have HPT := Lib.hid hpt
        clear hpt hpf
        have d1 := DK.out.a1
        rw [HPN.out] at d1
        have hpnl : pn < N := by have := HN.out; omega
        have hpfl : pp.fields.length ≤ 1048576 := by
          have := HSZ.out pp (List.mem_of_getElem? HPP.out)
          omega
        have HB3 := Lib.hid (HB1.out.trans (DK.out.below.mono HB1.out.size))
        have HNI : Hid (fieldsB c.fields pp.fields = (decide (c.fields.length ≤ 8) && (c.fields.all Tok.isName && ((List.range c.fields.length).all (freshB c.fields) && (decide (pp.fields.length ≤ c.fields.length) && decide (c.fields.take pp.fields.length = pp.fields)))))) := Lib.hid rfl
        go_upto_region 20 with fail
        have k2 := cell_regrown DK.out.a2
        have k1 := cell_regrown d1
        have l2 := cell_regrown pc2
        have hfm : c.fields.length ≤ fc ∧ fc ≤ maxLen := by
          obtain ⟨_, _, e, hm, -⟩ := HFT0.out
          cases e
          exact hm
        unfold maxLen at hfm
        by_cases hP5 : c.fields.length < pp.fields.length
        · have hR := HNO.out (by rw [HIB3.out, HNI.out, decide_eq_false (show ¬ pp.fields.length ≤ c.fields.length by omega)]; simp)
          subst hR
          have p5 : (c.fields.length : Int) < (pp.fields.length : Int) := by omega
          clear HNO HYES HIB3 HNI
          refine wp_region_quiet_below (by kernel_rfl) (by kernel_rfl) ?_
          repeat (go_big_quiet_step (fail))
          refine wpQuiet_nil ?_
          intro w5 hw5
          have HB5 := Lib.hid (HB3.out.trans ((grown_below hw5).mono HB3.out.size)); clear hw5 k1 k2 l2
          go_wp2_with fail
          go_ret
          exact ⟨rfl, HB5.out⟩
        have p5 : ¬ (c.fields.length : Int) < (pp.fields.length : Int) := by omega
        have KT := fun d os => Lib.hid (Calls.regrown_of (w := wr) (d := d) (os := os) (SpecTexts.texts_any (texts_take (HFT0.out.below (HB3.out.trans ((below_regrown wr d os).mono HB3.out.size))) pp.fields.length (by omega)) (HPT.out.below (below_regrown wr d os))))
        cases hP6 : decide (c.fields.take pp.fields.length = pp.fields) with
        | false =>
          rw [hP6] at KT
          have hR := HNO.out (by rw [HIB3.out, HNI.out, hP6]; simp)
          subst hR
          clear HNO HYES HIB3 HNI hP6
          refine wp_region_quiet_below (by kernel_rfl) (by kernel_rfl) ?_
          repeat (go_big_quiet_step ((go_at_call 31; exact (KT _ _).out)))
          refine wpQuiet_nil ?_
          intro w5 hw5
          have HB5 := Lib.hid (HB3.out.trans ((grown_below hw5).mono HB3.out.size)); clear hw5 k1 k2 l2
          go_wp2_with fail
          go_ret
          exact ⟨rfl, HB5.out⟩
        | true =>
          rw [hP6] at KT
          have HIB4 : Hid (M = (c.fields.all Tok.isName && (List.range c.fields.length).all (freshB c.fields))) := Lib.hid (by
            rw [HIB3.out, HNI.out, hP6, decide_eq_true p8', decide_eq_true (show pp.fields.length ≤ c.fields.length by omega)]; simp)
          clear HIB3 HNI hP6
          refine wp_region_quiet_below (by kernel_rfl) (by kernel_rfl) ?_
          repeat (go_big_quiet_step ((go_at_call 31; exact (KT _ _).out)))
          refine wpQuiet_nil ?_
          intro w5 hw5
          have D5 := Lib.hid (DK.out.step (grown_below hw5)); clear hw5 k1 k2 l2 d1 pc2
          have m2 := D5.out.a2
          obtain ⟨wp, rfl⟩ : ∃ wp : World, wp = wr := ⟨_, rfl⟩
          go_wp2_with fail
          go_loopw [9] (fun j wx => ∃ k : Nat, k ≤ c.fields.length ∧ j = .int .i64 k ∧ Hid ((c.fields.take k).all Tok.isName = true ∧ (List.range k).all (freshB c.fields) = true) ∧ Dx w1 wo.heap.size c.name c.parent (.slice fa c.fields.length fc) wx) (fun j _ => c.fields.length - (intOf j).toNat)
          case atStart => exact ⟨0, by omega, rfl, Lib.hid ⟨by simp, rfl⟩, D5.out⟩
          case round =>
            obtain ⟨q, hqn, rfl, HQF, hdx⟩ := hrel
            have DQ := Lib.hid hdx
            clear hdx m2
            have m2 := DQ.out.a2
            by_cases hql : q < c.fields.length
            case neg =>
              have hqe : q = c.fields.length := by omega
              have hM : M = true := by
                have h := HQF.out
                rw [hqe, List.take_length] at h
                rw [HIB4.out, h.1, h.2]; rfl
              have HNEW := Lib.hid (HYES.out hM)
              clear hM hqe
              go_wp2_with fail
              go_roundw
              case rel => exact ⟨i + 1, by omega, by go_num, HNEW.out, DQ.out.below⟩
              case measure => simp [intOf]; omega
            have HBQ := Lib.hid (HB1.out.trans (DQ.out.below.mono HB1.out.size))
            obtain ⟨fa', fc', hfe, -, hfs, hfcell⟩ := HFT0.out
            cases hfe
            obtain ⟨fb, fo, rfl, -, hfd⟩ := hfcell (by omega)
            have hx := cell_keep HBQ.out (hfd q hql)
            have hxs : c.fields[q].size ≤ 1048576 := by
              have h1 := len_kid c.fields q hql
              have h2 := HSZC.out.2
              omega
            have KN2 := fun d os => Lib.hid (Calls.regrown_of (w := wr) (d := d) (os := os) (SpecName.isname_any c.fields[q] _ hxs))
            have KH := fun d os => Lib.hid (Calls.regrown_of (w := wr) (d := d) (os := os) ((SpecTok.has_any (.slice (some ⟨fb, fo, none⟩) q fc) (c.fields.take q) c.fields[q] _ (texts_At ((texts_take (HFT0.out.below (HBQ.out.trans ((below_regrown wr d os).mono HBQ.out.size))) q (by omega)))) ).mono fun _ _ ⟨h1, h2⟩ => ⟨h1, h2 ▸ Below.refl _ _⟩))
            have HF1 : Hid (Tok.isName c.fields[q] = false → M = false) := Lib.hid (fun h => by
              rw [HIB4.out, show c.fields.all Tok.isName = false by rw [List.all_eq_false]; exact ⟨_, List.getElem_mem hql, by rw [h]; exact Bool.false_ne_true⟩]; rfl)
            have HFR : Hid (freshB c.fields q = !Tok.has (c.fields.take q) c.fields[q]) := Lib.hid (by
              unfold freshB
              rw [List.getD_eq_getElem?_getD, List.getElem?_eq_getElem hql]; rfl)
            have HF2 : Hid (Tok.has (c.fields.take q) c.fields[q] = true → M = false) := Lib.hid (fun h => by
              rw [HIB4.out, range_no hql (by rw [HFR.out, h]; rfl), Bool.and_false])
            have HF3 : Hid (Tok.isName c.fields[q] = true → Tok.has (c.fields.take q) c.fields[q] = false → (c.fields.take (q + 1)).all Tok.isName = true ∧ (List.range (q + 1)).all (freshB c.fields) = true) := Lib.hid (fun h1 h2 => by
              refine ⟨?_, range_take HQF.out.2 (by rw [HFR.out, h2]; rfl)⟩
              rw [List.take_succ_eq_append_getElem hql, List.all_append, HQF.out.1, List.all_cons, h1]; rfl)
            clear hfs hfcell hfd HFR hxs
            have k2 := cell_regrown m2
            have kx := cell_regrown hx
            generalize c.fields[q] = fx at *
            generalize hN1 : Tok.isName fx = N1 at *
            generalize hH1 : Tok.has (c.fields.take q) fx = H1 at *
            clear hN1 hH1
            have hfm2 : q ≤ fc := by omega
            cases N1 with
            | false =>
              have hR := HNO.out (by first | exact HF1.out rfl | exact HF1.out trivial)
              subst hR
              clear HNO HYES HF1 HF2 HF3 HIB4
              go_upto_region 25 with fail
              refine wp_region_quiet_below (by kernel_rfl) (by kernel_rfl) ?_
              repeat (go_big_quiet_step (first
                | (go_at_call 32; exact (KN2 _ _).out)
                | (go_at_call 33; exact (KH _ _).out)))
              refine wpQuiet_nil ?_
              intro w6 hw6
              have HB6 := Lib.hid (HBQ.out.trans ((grown_below hw6).mono HBQ.out.size)); clear hw6 k2 kx m2 hx
              go_wp2_with fail
              go_ret
              exact ⟨rfl, HB6.out⟩
            | true =>
            cases H1 with
            | true =>
              have hR := HNO.out (by first | exact HF2.out rfl | exact HF2.out trivial)
              subst hR
              clear HNO HYES HF1 HF2 HF3 HIB4
              go_upto_region 25 with fail
              refine wp_region_quiet_below (by kernel_rfl) (by kernel_rfl) ?_
              repeat (go_big_quiet_step (first
                | (go_at_call 32; exact (KN2 _ _).out)
                | (go_at_call 33; exact (KH _ _).out)))
              refine wpQuiet_nil ?_
              intro w6 hw6
              have HB6 := Lib.hid (HBQ.out.trans ((grown_below hw6).mono HBQ.out.size)); clear hw6 k2 kx m2 hx
              go_wp2_with fail
              go_ret
              exact ⟨rfl, HB6.out⟩
            | false =>
              have HNW : Hid ((c.fields.take (q + 1)).all Tok.isName = true ∧ (List.range (q + 1)).all (freshB c.fields) = true) := Lib.hid (by first | exact HF3.out rfl rfl | exact HF3.out trivial rfl | exact HF3.out trivial trivial | exact HF3.out rfl trivial)
              clear HF1 HF2 HF3
              go_upto_region 25 with fail
              refine wp_region_quiet_below (by kernel_rfl) (by kernel_rfl) ?_
              repeat (go_big_quiet_step (first
                | (go_at_call 32; exact (KN2 _ _).out)
                | (go_at_call 33; exact (KH _ _).out)))
              refine wpQuiet_nil ?_
              intro w6 hw6
              have D6 := Lib.hid (DQ.out.step (grown_below hw6)); clear hw6 k2 kx m2 hx
              go_wp2_with fail
              go_roundw
              case rel => exact ⟨q + 1, by omega, by go_num, HNW, D6.out⟩
              case measure => simp [intOf]; omega
end Go.Proofs.YtekeondbbikkpaaGreat.SpecCore
