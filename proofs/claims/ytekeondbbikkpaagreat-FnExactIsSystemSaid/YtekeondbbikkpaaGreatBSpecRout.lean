/-
  spec.l8Right at kind 15, a cascade; spec.l8Kids.
  spec.l8Fits, l8IsRoutine: what they answer, given what l8Right says of the body.
-/
import Derived.Test.YtekeondbbikkpaaGreatBSpecRtB
import Derived.Lib.QuietBelow
import Derived.Deep.DeepCutAuto
import Derived.Deep.CutRange
namespace Go.Proofs.YtekeondbbikkpaaGreat.SpecCore
open Go.RowKit
open Strs Tree Core Ints
set_option linter.unusedVariables false
theorem regrown_below {w w' : World} (h : ∃ p : Regrown, w' = Sort.grow (redrawn w p.d) p.os) : Below w.heap.size w w' := by
  obtain ⟨p, rfl⟩ := h
  exact below_regrown _ _ _
def OkR (C : Nat) (e : K) : Prop := ∀ (lo : Nat) (w : World) (vk vs vp : Value) (L : Lv), kweight e ≤ 1048576 → kdeep e ≤ 999 → KAt lo w e vk → NAt w vs (L.map (·.2)) → NAt w vp (L.map (·.1)) → LOk L → L.length + ksize e ≤ 4194304 →
  Calls Tryz.prog 35 #[.agg #[.int .i64 e.kind, .string e.text, .int .i64 e.num, .int .i64 e.dep, vk], .int .i64 C, vs, vp] w fun r w' => r = .returned (.bool (kright C L e)) ∧ Below w.heap.size w w'
set_option maxHeartbeats 4000000 in
theorem kids_any {C : Nat} (e : K) (ih : ∀ g, g ∈ e.kids → OkR C g) {lo : Nat} {w : World} {vk vs vp : Value} {L : Lv} (hw : kweights e.kids ≤ 1048576) (hd : kdeeps e.kids ≤ 999) (hk : KAt lo w e vk) (hS : NAt w vs (L.map (·.2))) (hP : NAt w vp (L.map (·.1))) (hL : LOk L) (hl : L.length + ksizes e.kids ≤ 4194304) :
    Calls Tryz.prog 60 #[.agg #[.int .i64 e.kind, .string e.text, .int .i64 e.num, .int .i64 e.dep, vk], .int .i64 C, vs, vp] w fun r w' => r = .returned (.bool (krights C L e.kids)) ∧ Below w.heap.size w w' := by
  obtain ⟨k, t, n, d, ks⟩ := e
  rw [kat_iff] at hk
  obtain ⟨-, -, -, -, hks⟩ := hk
  simp only [K.kind, K.text, K.num, K.dep, K.kids] at *
  have HKS := Lib.hid hks
  obtain ⟨a, cap, rfl, hm, -⟩ := hks
  unfold maxLen at hm
  have HR : Hid (krights C L ks = ks.all (kright C L)) := Lib.hid (krights_iff C L ks)
  generalize krights C L ks = R at *
  have IH := Lib.hid ih; clear ih
  have HS := Lib.hid hS; have HP := Lib.hid hP; have HL := Lib.hid hL; have HW := Lib.hid hw; have HD := Lib.hid hd; have HLL := Lib.hid hl
  clear hS hP hL hw hd hl
  generalize hN : ks.length = N at *
  have HN := Lib.hid hN; clear hN
  have HA := Lib.hid (arg5_new w k t n d (.slice a N cap) 37)
  go_enter Tryz.func60, Tryz.ntmps60
  go_wp2_with fail
  go_loopw [9] (fun j wr => ∃ i : Nat, i ≤ N ∧ j = .int .i64 i ∧ (ks.take i).all (kright C L) = true ∧ Arg5 w k t n d (.slice a N cap) wr) (fun j _ => N - (intOf j).toNat)
  case atStart => exact ⟨0, by omega, rfl, by simp, HA.out⟩
  case round =>
    obtain ⟨i, hi, rfl, hq, harg⟩ := hrel
    have a4 := harg.a4
    have HQ := Lib.hid hq; clear hq
    have AR := Lib.hid harg; clear harg
    by_cases hlt : i < N
    · have hil : i < ks.length := by rw [HN.out]; exact hlt
      obtain ⟨b, off, rfl, hb, hr⟩ := HKS.out.at hil
      obtain ⟨xk, d0, d1, d2, d3, d4, hnode⟩ := hr
      have c0 := cell_keep AR.out.below d0
      have c1 := cell_keep AR.out.below d1
      have c2 := cell_keep AR.out.below d2
      have c3 := cell_keep AR.out.below d3
      have c4 := cell_keep AR.out.below d4
      have KI := Lib.hid (IH.out _ (List.getElem_mem hil) lo _ xk vs vp L (by have := kweight_kid ks i hil; have := HW.out; omega) (by have := kdeep_kid ks i hil; have := HD.out; omega) (hnode.below AR.out.below) (HS.out.below AR.out.below) (HP.out.below AR.out.below) HL.out (by have := ksize_kid ks i hil; have := HLL.out; omega))
      have HYES : Hid (kright C L ks[i] = true → (ks.take (i + 1)).all (kright C L) = true) := Lib.hid (fun h => by
        rw [List.take_succ_eq_append_getElem hil, List.all_append, HQ.out, Bool.true_and, List.all_cons, h]; rfl)
      have HNO : Hid (kright C L ks[i] = false → R = false) := Lib.hid (fun h => by
        rw [HR.out, List.all_eq_false]
        exact ⟨ks[i], List.getElem_mem hil, by rw [h]; exact Bool.false_ne_true⟩)
      clear d0 d1 d2 d3 d4 hnode
      generalize ks[i] = e at *
      generalize kright C L e = z at *
      cases z with
      | true =>
        go_wp2_with fail
        refine KI.out.mono ?_
        rintro r w1 ⟨rfl, hb1⟩
        have AR1 := Lib.hid (AR.out.step hb1)
        clear c0 c1 c2 c3 c4 hb1 AR a4
        go_wp2_with fail
        go_roundw
        case rel => exact ⟨i + 1, by omega, by go_num, by first | exact HYES.out rfl | exact HYES.out trivial, AR1.out⟩
        case measure => simp [intOf]; omega
      | false =>
        have hR : R = false := by first | exact HNO.out rfl | exact HNO.out trivial
        subst hR
        go_wp2_with fail
        refine KI.out.mono ?_
        rintro r w1 ⟨rfl, hb1⟩
        have AR1 := Lib.hid (AR.out.step hb1)
        clear c0 c1 c2 c3 c4 hb1 AR a4
        go_wp2_with fail
        go_ret
        exact ⟨rfl, AR1.out.below⟩
    · have hR : R = true := by
        have h1 : i = N := by omega
        have h2 := HQ.out
        rw [h1, List.take_of_length_le (by rw [HN.out]; exact Nat.le_refl _)] at h2
        rw [HR.out]; exact h2
      have HRR := Lib.hid hR; clear hR
      go_wp2_with fail
      go_ret
      exact ⟨by rw [HRR.out]; rfl, AR.out.below⟩
theorem msg_cases (C : Nat) (L : Lv) (k : Int) (t : ByteArray) (n d : Int) (ks : List K) (c : Int) (hc : Tok.countArgs t = c) (B : Bool) (hB : krights C L ks = B) (N : Nat) (hN : ks.length = N) :
    (kmsg C L (.mk k t n d ks) = false ∧ ((k != 13) = true ∨ (k = 13 ∧ (n != 0) = true) ∨ (k = 13 ∧ (n != 0) = false ∧ (d != 0) = true) ∨ (k = 13 ∧ (n != 0) = false ∧ (d != 0) = false ∧ c < 0) ∨
      (k = 13 ∧ (n != 0) = false ∧ (d != 0) = false ∧ ¬ c < 0 ∧ ((N : Int) != c) = true) ∨ (k = 13 ∧ (n != 0) = false ∧ (d != 0) = false ∧ ¬ c < 0 ∧ ((N : Int) != c) = false ∧ B = false))) ∨
    (kmsg C L (.mk k t n d ks) = true ∧ k = 13 ∧ (n != 0) = false ∧ (d != 0) = false ∧ ¬ c < 0 ∧ ((N : Int) != c) = false ∧ B = true) := by
  rw [kmsg, hc, hB, hN]
  by_cases h1 : k = 13
  case neg => exact .inl ⟨by rw [decide_eq_false h1]; rfl, .inl (by simpa using h1)⟩
  subst h1
  rw [show plainB 13 t n d = (decide (n = 0) && decide (d = 0)) by simp [plainB]]
  by_cases h2 : n = 0
  case neg => exact .inl ⟨by rw [decide_eq_false h2]; simp, .inr (.inl ⟨rfl, by simpa using h2⟩)⟩
  have e2 : (n != 0) = false := by simpa using h2
  by_cases h3 : d = 0
  case neg => exact .inl ⟨by rw [decide_eq_false h3]; simp, .inr (.inr (.inl ⟨rfl, e2, by simpa using h3⟩))⟩
  have e3 : (d != 0) = false := by simpa using h3
  by_cases h4 : c < 0
  · exact .inl ⟨by rw [decide_eq_false (show ¬ (N : Int) = c by omega)]; simp, .inr (.inr (.inr (.inl ⟨rfl, e2, e3, h4⟩)))⟩
  by_cases h5 : (N : Int) = c
  case neg => exact .inl ⟨by rw [decide_eq_false h5]; simp, .inr (.inr (.inr (.inr (.inl ⟨rfl, e2, e3, h4, by simpa using h5⟩))))⟩
  have e5 : ((N : Int) != c) = false := by simpa using h5
  cases B with
  | false => exact .inl ⟨by simp, .inr (.inr (.inr (.inr (.inr ⟨rfl, e2, e3, h4, e5, rfl⟩))))⟩
  | true => exact .inr ⟨by rw [decide_eq_true h2, decide_eq_true h3, decide_eq_true h5]; rfl, rfl, e2, e3, h4, e5, rfl⟩
set_option maxRecDepth 10000 in
set_option maxHeartbeats 16000000 in
theorem r15 (C : Nat) (L : Lv) (t : ByteArray) (n d : Int) (ks : List K) (lo : Nat) (w : World) (vk vs vp : Value) (hks : KsAt lo w ks vk) (hw : kweights ks + ks.length ≤ 1048576)
    (K0 : ∀ e, ks[0]? = some e → ∀ (w' : World) (xk : Value), Below w.heap.size w w' → KAt lo w' e xk → Hid (Calls Tryz.prog 35 #[.agg #[.int .i64 e.kind, .string e.text, .int .i64 e.num, .int .i64 e.dep, xk], .int .i64 C, vs, vp] w' fun r w'' => r = .returned (.bool (kright C L e)) ∧ Below w'.heap.size w' w''))
    (KM : ∀ e, e ∈ ks → ∀ (w' : World) (xk : Value), Below w.heap.size w w' → KAt lo w' e xk → Hid (Calls Tryz.prog 60 #[.agg #[.int .i64 e.kind, .string e.text, .int .i64 e.num, .int .i64 e.dep, xk], .int .i64 C, vs, vp] w' fun r w'' => r = .returned (.bool (krights C L e.kids)) ∧ Below w'.heap.size w' w'')) :
    Calls Tryz.prog 35 #[.agg #[.int .i64 15, .string t, .int .i64 n, .int .i64 d, vk], .int .i64 C, vs, vp] w fun r w' => r = .returned (.bool (kright C L (.mk 15 t n d ks))) ∧ Below w.heap.size w w' := by
  have HKS := Lib.hid hks
  obtain ⟨a, cap, rfl, hm, -⟩ := hks
  unfold maxLen at hm
  have HV : Hid (kright C L (.mk 15 t n d ks) = (ownB C L 15 t n d ks.length && khead C L ks)) := Lib.hid (by rw [kright_mk]; rfl)
  generalize kright C L (.mk 15 t n d ks) = R at *
  have HO := Lib.hid (own_15 C L t n d ks.length)
  generalize ownB C L 15 t n d ks.length = O at *
  have HH : Hid (∀ e es, ks = e :: es → khead C L ks = (kright C L e && es.all (kmsg C L))) := Lib.hid (fun e es h => by rw [h, khead, kmsgs_iff])
  generalize khead C L ks = H at *
  have HNO : Hid (∀ i, 1 ≤ i → ∀ e, ks[i]? = some e → kmsg C L e = false → R = false) := Lib.hid (fun i hi e he hb => by
    cases hks : ks with
    | nil => rw [hks] at he; simp at he
    | cons x xs =>
      rw [HV.out, HH.out x xs hks]
      have hmem : e ∈ xs := by
        rw [hks] at he
        obtain ⟨j, rfl⟩ : ∃ j, i = j + 1 := ⟨i - 1, by omega⟩
        rw [List.getElem?_cons_succ] at he
        exact List.mem_of_getElem? he
      have : xs.all (kmsg C L) = false := by
        rw [List.all_eq_false]; exact ⟨e, hmem, by rw [hb]; exact Bool.false_ne_true⟩
      rw [this, Bool.and_false, Bool.and_false])
  have HYES : Hid ((∀ i, 1 ≤ i → ∀ e, ks[i]? = some e → kmsg C L e = true) → ∀ e, ks[0]? = some e → H = kright C L e) := Lib.hid (fun h e he => by
    cases hks : ks with
    | nil => rw [hks] at he; simp at he
    | cons x xs =>
      rw [hks] at he
      simp only [List.getElem?_cons_zero, Option.some.injEq] at he
      subst he
      rw [HH.out x xs hks]
      have : xs.all (kmsg C L) = true := by
        rw [List.all_eq_true]
        intro g hg
        obtain ⟨j, hj, rfl⟩ := List.mem_iff_getElem.1 hg
        exact h (j + 1) (by omega) _ (by rw [hks, List.getElem?_cons_succ, List.getElem?_eq_getElem hj])
      rw [this, Bool.and_true])
  have HW := Lib.hid hw
  clear HH hw
  have HM := Lib.hid KM
  have HZ := Lib.hid K0
  clear KM K0
  generalize hN : ks.length = N at *
  have HN := Lib.hid hN; clear hN
  have HA := Lib.hid (arg5_new w 15 t n d (.slice a N cap) 37)
  go_enter Tryz.func35, Tryz.ntmps35
  go_wp2_with fail
  go_quiet (fail)
  have AR := Lib.hid (HA.out.step (draws_low _ nq))
  obtain ⟨wq, hwq⟩ : ∃ x, x = (w.alloc (Obj.cells #[Value.int IntKind.i64 15, Value.string t, Value.int IntKind.i64 n, Value.int IntKind.i64 d, .slice a N cap] 37)).drewN nq := ⟨_, rfl⟩
  rw [← hwq] at AR ⊢
  clear hwq
  have a0 := AR.out.a0; have a1 := AR.out.a1; have a2 := AR.out.a2; have a3 := AR.out.a3; have a4 := AR.out.a4
  go_wp2_with fail
  all_goals
    go_loopw [13] (fun j wr => ∃ i : Nat, 1 ≤ i ∧ (i ≤ N ∨ i = 1) ∧ j = .int .i64 i ∧ Hid (∀ q, 1 ≤ q → q < i → ∀ e, ks[q]? = some e → kmsg C L e = true) ∧ Arg5 w 15 t n d (.slice a N cap) wr) (fun j _ => N - (intOf j).toNat)
    case atStart => exact ⟨1, by omega, .inr rfl, rfl, Lib.hid (fun q h1 h2 => by omega), AR.out⟩
    case round =>
      obtain ⟨i, hi1, hi, rfl, HI, harg⟩ := hrel
      clear AR a0 a1 a2 a3 a4
      have a0 := harg.a0; have a1 := harg.a1; have a2 := harg.a2; have a3 := harg.a3; have a4 := harg.a4
      have AR := Lib.hid harg; clear harg
      by_cases hlt : i < N
      · have hil : i < ks.length := by rw [HN.out]; exact hlt
        obtain ⟨b, off, rfl, hb, hr⟩ := HKS.out.at hil
        obtain ⟨xk, d0, d1, d2, d3, d4, hnode⟩ := hr
        have c0 := cell_keep AR.out.below d0
        have c1 := cell_keep AR.out.below d1
        have c2 := cell_keep AR.out.below d2
        have c3 := cell_keep AR.out.below d3
        have c4 := cell_keep AR.out.below d4
        have hsz : ks[i].text.size ≤ 1048576 := by
          have h1 := kweight_kid ks i hil
          have h2 : ks[i].text.size ≤ kweight ks[i] := by
            cases ks[i] with
            | mk k t n d ks => rw [kweight]; show t.size ≤ _; omega
          have := HW.out
          omega
        have KM := fun (w' : World) (hb : Below w.heap.size w w') => HM.out _ (List.getElem_mem hil) w' xk hb
        have HE : Hid (ks[i]? = some ks[i]) := Lib.hid (List.getElem?_eq_getElem hil)
        have hnode0 := Lib.hid hnode
        clear d0 d1 d2 d3 d4 hnode
        generalize ks[i] = e at *
        obtain ⟨ek, et, en, ed, es⟩ := e
        simp only [K.kind, K.text, K.num, K.dep, K.kids] at *
        obtain ⟨n1, n2, n3, n4, xa, xc, rfl, ⟨hx1, hx2⟩, -⟩ := kat_iff.1 (KAt.below hnode0.out (Below.refl _ _))
        simp only [K.kind, K.text, K.num, K.dep, K.kids] at *
        obtain ⟨W, hW⟩ : ∃ W, W = wr.alloc (.cells #[.int .i64 ek, .string et, .int .i64 en, .int .i64 ed, .slice xa es.length xc] 37) := ⟨_, rfl⟩
        have hbW : Below wr.heap.size wr W := by rw [hW]; exact (Below.refl _ _).alloc (Nat.le_refl _) _
        have AW := Lib.hid (AR.out.step hbW)
        have m0 : W.cell? ⟨wr.heap.size, 0, none⟩ = some (.int .i64 ek) := by rw [hW]; go_simp
        have m1 : W.cell? ⟨wr.heap.size, 1, none⟩ = some (.string et) := by rw [hW]; go_simp
        have m2 : W.cell? ⟨wr.heap.size, 2, none⟩ = some (.int .i64 en) := by rw [hW]; go_simp
        have m3 : W.cell? ⟨wr.heap.size, 3, none⟩ = some (.int .i64 ed) := by rw [hW]; go_simp
        have m4 : W.cell? ⟨wr.heap.size, 4, none⟩ = some (.slice xa es.length xc) := by rw [hW]; go_simp
        have k0 := cell_regrown m0; have k1 := cell_regrown m1; have k2 := cell_regrown m2; have k3 := cell_regrown m3; have k4 := cell_regrown m4
        have KC := fun d os => Lib.hid (Calls.regrown_of (w := W) (d := d) (os := os) (SpecSel.count_any et _ hsz))
        have KB := fun d os => Lib.hid (Calls.regrown_of (w := W) (d := d) (os := os) (KM _ (AW.out.below.trans ((below_regrown W d os).mono AW.out.below.size)) (hnode0.out.below (AR.out.below.trans (hbW.mono AR.out.below.size) |>.trans ((below_regrown W d os).mono (AW.out.below.size))))).out)
        have HWW := Lib.hid hW
        have HCB : Hid (Tok.countArgs et = Tok.countArgs et ∧ krights C L es = krights C L es) := Lib.hid ⟨rfl, rfl⟩
        have hmc := msg_cases C L ek et en ed es _ rfl _ rfl _ rfl
        have HNO2 : Hid (kmsg C L (.mk ek et en ed es) = false → R = false) := Lib.hid (HNO.out i hi1 _ HE.out)
        have HYE2 : Hid (kmsg C L (.mk ek et en ed es) = true → ∀ q, 1 ≤ q → q < i + 1 → ∀ e, ks[q]? = some e → kmsg C L e = true) := Lib.hid (fun h q h1 h2 e he => by
          by_cases hq : q = i
          · subst hq
            have := HE.out.symm.trans he
            cases this
            exact h
          · exact HI.out q h1 (by omega) e he)
        clear hW hbW HCB KM m0 m1 m2 m3 m4
        generalize kmsg C L (.mk ek et en ed es) = M at *
        have hc1 := args_ge et
        have hc2 := args_le et
        generalize Tok.countArgs et = c at *
        generalize krights C L es = B at *
        generalize es.length = N' at *
        unfold maxLen at hx2
        rcases hmc with ⟨hM, hmc⟩ | ⟨hM, rfl, f1, f2, f3, f4, rfl⟩
        · have hR := HNO2.out hM
          subst hR
          clear HNO2 HYE2 hM
          rcases hmc with f0 | ⟨rfl, f1⟩ | ⟨rfl, f1, f2⟩ | ⟨rfl, f1, f2, f3⟩ | ⟨rfl, f1, f2, f3, f4⟩ | ⟨rfl, f1, f2, f3, f4, rfl⟩
          all_goals
            go_upto_region 36 with fail
            rw [← HWW.out]
            refine wp_region_quiet_below (by kernel_rfl) (by kernel_rfl) ?_
            repeat (go_big_quiet_step (first
              | (go_at_call 15; exact (KC _ _).out)
              | (go_at_call 60; exact (KB _ _).out)))
            refine wpQuiet_nil ?_
            intro w2 hw2
            have AR2 := Lib.hid (AW.out.step (regrown_below hw2)); clear hw2 k0 k1 k2 k3 k4
            go_wp2_with fail
            go_ret
            exact ⟨rfl, AR2.out.below⟩
        · have HNEW := Lib.hid (HYE2.out hM)
          clear HNO2 HYE2 hM
          go_upto_region 36 with fail
          rw [← HWW.out]
          refine wp_region_quiet_below (by kernel_rfl) (by kernel_rfl) ?_
          repeat (go_big_quiet_step (first
            | (go_at_call 15; exact (KC _ _).out)
            | (go_at_call 60; exact (KB _ _).out)))
          refine wpQuiet_nil ?_
          intro w2 hw2
          have AR2 := Lib.hid (AW.out.step (regrown_below hw2)); clear hw2 k0 k1 k2 k3 k4
          go_wp2_with fail
          go_roundw
          case rel => exact ⟨i + 1, by omega, by omega, by go_num, HNEW, AR2.out⟩
          case measure => simp [intOf]; omega
      · have HALL : Hid (∀ q, 1 ≤ q → ∀ e, ks[q]? = some e → kmsg C L e = true) := Lib.hid (fun q h1 e he => HI.out q h1 (by
          have := (List.getElem?_eq_some_iff.1 he).1
          have := HN.out
          omega) e he)
        by_cases h2 : 2 ≤ N
        · have h0 : 0 < ks.length := by have := HN.out; omega
          obtain ⟨b, off, rfl, hb, hr⟩ := HKS.out.at h0
          obtain ⟨xk, d0, d1, d2, d3, d4, hnode⟩ := hr
          rw [Nat.zero_mul, Nat.add_zero] at d0 d1 d2 d3 d4
          have c0 := cell_keep AR.out.below d0
          have c1 := cell_keep AR.out.below d1
          have c2 := cell_keep AR.out.below d2
          have c3 := cell_keep AR.out.below d3
          have c4 := cell_keep AR.out.below d4
          have KZ := HZ.out ks[0] (List.getElem?_eq_getElem h0) wr xk AR.out.below (hnode.below AR.out.below)
          have HHV : Hid (H = kright C L ks[0]) := Lib.hid (HYES.out HALL.out ks[0] (List.getElem?_eq_getElem h0))
          clear d0 d1 d2 d3 d4 hnode
          generalize ks[0] = e at *
          obtain ⟨ek, et, en, ed, es⟩ := e
          simp only [K.kind, K.text, K.num, K.dep, K.kids] at *
          generalize kright C L (.mk ek et en ed es) = z at *
          have g2 : (2 : Int) ≤ N := by omega
          go_wp2_with fail
          all_goals first
            | (refine KZ.out.mono ?_
               rintro r w1 ⟨rfl, hb1⟩
               have AR1 := Lib.hid (AR.out.step hb1)
               clear c0 c1 c2 c3 c4 hb1 a0 a1 a2 a3 a4
               go_wp2_with fail
               go_ret
               exact ⟨by rw [show R = z by rw [HV.out, HO.out, HHV.out]; simp [*]]; rfl, AR1.out.below⟩)
            | (go_ret
               exact ⟨by rw [show R = false by rw [HV.out, HO.out]; simp [*]; try (intros; exfalso; omega)]; rfl, AR.out.below⟩)
        · have g2 : ¬ (2 : Int) ≤ N := by omega
          go_wp2_with fail
          all_goals
            go_ret
            exact ⟨by rw [show R = false by rw [HV.out, HO.out]; simp [*]; try (intros; exfalso; omega)]; rfl, AR.out.below⟩
end Go.Proofs.YtekeondbbikkpaaGreat.SpecCore

namespace Go.Proofs.YtekeondbbikkpaaGreat.SpecCore
open Go.RowKit
open Strs Tree Core Ints Go.Proofs.YtekeondbbikkpaaGreat.Data
set_option linter.unusedVariables false
def rval (r : R) (vk : Value) : Value := .agg #[.string r.sel, .int .i64 r.owner, .bool r.cls, .int .i64 r.params, .int .i64 r.slots, .int .i64 r.body.kind, .string r.body.text, .int .i64 r.body.num, .int .i64 r.body.dep, vk]
theorem lf_fits (e : K) : (decide (0 ≤ lf (ksize e) 500) && decide (kdeep e ≤ 40)) = fits e 500 40 := by
  unfold lf fits
  rw [Bool.eq_iff_iff]
  simp only [Bool.and_eq_true, decide_eq_true_eq]
  split <;> omega
set_option maxRecDepth 10000 in
set_option maxHeartbeats 8000000 in
theorem fits_any {lo : Nat} (r : R) (w : World) (vk : Value) (hk : KAt lo w r.body vk) (hz : kweight r.body ≤ 1048576) :
    Calls Tryz.prog 34 #[rval r vk] w fun e w' => e = .returned (.bool (limitsB r)) ∧ Below w.heap.size w w' := by
  have hz1 := ksize_weight r.body
  have hz2 := kdeep_le r.body
  have KL := fun (w' : World) (hb : Below w.heap.size w w') => Lib.hid (left_node r.body lo w' vk 500 (by omega) (by omega) (hk.below hb))
  have KD := fun (w' : World) (hb : Below w.heap.size w w') (h : 0 ≤ lf (ksize r.body) 500) => Lib.hid (deep_node r.body lo w' vk (by unfold lf at h; split at h <;> omega) (hk.below hb))
  have HV : Hid (limitsB r = (decide (r.slots ≤ 30) && (decide (0 ≤ lf (ksize r.body) 500) && decide (kdeep r.body ≤ 40)))) := Lib.hid (by rw [lf_fits]; rfl)
  have hlg := lf_ge (ksize r.body) 500
  unfold rval
  generalize limitsB r = R at *
  generalize lf (ksize r.body) 500 = q at *
  generalize kdeep r.body = p at *
  have hp : (p : Int) ≤ 2000000 := by omega
  clear hz1 hz2 hk hz
  obtain ⟨rs, ro, rc, rp, rsl, ⟨bk, bt, bn, bd, bs⟩⟩ := r
  simp only [K.kind, K.text, K.num, K.dep] at *
  have HB : Hid (Below w.heap.size w (w.alloc (.cells #[.string rs, .int .i64 ro, .bool rc, .int .i64 rp, .int .i64 rsl, .int .i64 bk, .string bt, .int .i64 bn, .int .i64 bd, vk] 39))) := Lib.hid ((Below.refl _ _).alloc (Nat.le_refl _) _)
  have c5 : ∀ w', Below (w.heap.size + 1) (w.alloc (.cells #[.string rs, .int .i64 ro, .bool rc, .int .i64 rp, .int .i64 rsl, .int .i64 bk, .string bt, .int .i64 bn, .int .i64 bd, vk] 39)) w' →
      w'.cell? ⟨w.heap.size, 5, none⟩ = some (.int .i64 bk) ∧ w'.cell? ⟨w.heap.size, 6, none⟩ = some (.string bt) ∧ w'.cell? ⟨w.heap.size, 7, none⟩ = some (.int .i64 bn) ∧ w'.cell? ⟨w.heap.size, 8, none⟩ = some (.int .i64 bd) ∧ w'.cell? ⟨w.heap.size, 9, none⟩ = some vk := fun w' hb => by
    have hb2 : Below (w.alloc (.cells #[.string rs, .int .i64 ro, .bool rc, .int .i64 rp, .int .i64 rsl, .int .i64 bk, .string bt, .int .i64 bn, .int .i64 bd, vk] 39)).heap.size (w.alloc (.cells #[.string rs, .int .i64 ro, .bool rc, .int .i64 rp, .int .i64 rsl, .int .i64 bk, .string bt, .int .i64 bn, .int .i64 bd, vk] 39)) w' := by
      rw [show (w.alloc (.cells #[.string rs, .int .i64 ro, .bool rc, .int .i64 rp, .int .i64 rsl, .int .i64 bk, .string bt, .int .i64 bn, .int .i64 bd, vk] 39)).heap.size = w.heap.size + 1 by simp]; exact hb
    refine ⟨cell_keep hb2 ?_, cell_keep hb2 ?_, cell_keep hb2 ?_, cell_keep hb2 ?_, cell_keep hb2 ?_⟩
    all_goals go_simp
  have C5 := Lib.hid c5; clear c5
  by_cases h1 : rsl ≤ 30
  case neg =>
    have hR : R = false := by rw [HV.out, decide_eq_false h1]; rfl
    subst hR
    go_enter Tryz.func34, Tryz.ntmps34
    go_wp2_with fail
    go_ret
    exact ⟨rfl, HB.out⟩
  rw [decide_eq_true h1] at HV
  by_cases h2 : 0 ≤ q
  case neg =>
    have hR : R = false := by rw [HV.out, decide_eq_false h2]; rfl
    subst hR
    go_enter Tryz.func34, Tryz.ntmps34
    go_wp2_with fail
    refine (KL _ HB.out).out.mono ?_
    rintro e w1 ⟨rfl, hb1⟩
    have H1 := Lib.hid (HB.out.trans (hb1.mono HB.out.size))
    clear hb1
    go_wp2_with fail
    go_ret
    exact ⟨rfl, H1.out⟩
  rw [decide_eq_true h2] at HV
  go_enter Tryz.func34, Tryz.ntmps34
  go_wp2_with fail
  refine (KL _ HB.out).out.mono ?_
  rintro e w1 ⟨rfl, hb1⟩
  have H1 := Lib.hid (HB.out.trans (hb1.mono HB.out.size))
  obtain ⟨d5, d6, d7, d8, d9⟩ := C5.out w1 (by rw [show (w.alloc (.cells #[.string rs, .int .i64 ro, .bool rc, .int .i64 rp, .int .i64 rsl, .int .i64 bk, .string bt, .int .i64 bn, .int .i64 bd, vk] 39)).heap.size = w.heap.size + 1 by simp] at hb1; exact hb1)
  clear hb1
  go_wp2_with fail
  refine (KD _ H1.out (by first | assumption | trivial)).out.mono ?_
  rintro e w2 ⟨rfl, hb2⟩
  have H2 := Lib.hid (H1.out.trans (hb2.mono H1.out.size))
  clear hb2 d5 d6 d7 d8 d9
  go_wp2_with fail
  go_ret
  refine ⟨?_, H2.out⟩
  rw [HV.out, Bool.true_and, Bool.true_and, show decide (p ≤ 40) = decide ((p : Int) ≤ 40) by rw [Bool.eq_iff_iff]; simp only [decide_eq_true_eq]; omega]
  rfl
structure Arg10 (w : World) (r : R) (vk : Value) (wr : World) : Prop where
  below : Below w.heap.size w wr
  size : w.heap.size + 1 ≤ wr.heap.size
  c : ∀ j u, [Value.string r.sel, .int .i64 r.owner, .bool r.cls, .int .i64 r.params, .int .i64 r.slots, .int .i64 r.body.kind, .string r.body.text, .int .i64 r.body.num, .int .i64 r.body.dep, vk][j]? = some u → wr.cell? ⟨w.heap.size, j, none⟩ = some u
theorem Arg10.step {w wr w' : World} {r : R} {vk : Value} (h : Arg10 w r vk wr) (hb : Below wr.heap.size wr w') : Arg10 w r vk w' :=
  ⟨h.below.trans (hb.mono (by have := h.size; omega)), Nat.le_trans h.size hb.size, fun j u hj => cell_keep hb (h.c j u hj)⟩
theorem arg10_new (w : World) (r : R) (vk : Value) (T : TypeId) : Arg10 w r vk (w.alloc (Obj.cells #[Value.string r.sel, .int .i64 r.owner, .bool r.cls, .int .i64 r.params, .int .i64 r.slots, .int .i64 r.body.kind, .string r.body.text, .int .i64 r.body.num, .int .i64 r.body.dep, vk] T)) := by
  refine ⟨(Below.refl _ _).alloc (Nat.le_refl _) _, by simp, fun j u hj => ?_⟩
  match j, hj with
  | 0, hj => cases hj; go_simp
  | 1, hj => cases hj; go_simp
  | 2, hj => cases hj; go_simp
  | 3, hj => cases hj; go_simp
  | 4, hj => cases hj; go_simp
  | 5, hj => cases hj; go_simp
  | 6, hj => cases hj; go_simp
  | 7, hj => cases hj; go_simp
  | 8, hj => cases hj; go_simp
  | 9, hj => cases hj; go_simp
  | j + 10, hj => simp at hj
set_option maxRecDepth 10000 in
set_option maxHeartbeats 8000000 in
theorem rout_any {lo C : Nat} (r : R) (w : World) (vk : Value) (hr : OkR C r.body) (hk : KAt lo w r.body vk) (hz : kweight r.body ≤ 1048576) :
    Calls Tryz.prog 13 #[rval r vk, .int .i64 C] w fun e w' => e = .returned (.bool (bodyB C r)) ∧ Below w.heap.size w w' := by
  have KF := fun (w' : World) (hb : Below w.heap.size w w') => Lib.hid (fits_any r w' vk (hk.below hb) hz)
  have HV : Hid (bodyB C r = (limitsB r && (decide (0 ≤ r.params ∧ r.params ≤ r.slots) && kright C [(r.params, r.slots)] r.body))) := Lib.hid (by unfold bodyB; rw [← in2])
  have KI := fun w' => Lib.hid (SpecTree.in_any r.params 0 r.slots w')
  have KR := fun (w' : World) (vs vp : Value) (hb : Below w.heap.size w w') (hs : NAt w' vs [r.slots]) (hp : NAt w' vp [r.params]) (hl : limitsB r = true) (hps : 0 ≤ r.params ∧ r.params ≤ r.slots) => Lib.hid (hr lo w' vk vs vp [(r.params, r.slots)] hz (by
    unfold limitsB fits at hl
    simp only [Bool.and_eq_true, decide_eq_true_eq] at hl
    omega) (hk.below hb) hs hp ⟨by simp, fun x hx => by
      simp only [List.mem_singleton] at hx
      subst hx
      unfold limitsB at hl
      simp only [Bool.and_eq_true, decide_eq_true_eq] at hl
      exact ⟨hps.1, hps.2, hl.1⟩⟩ (by have := ksize_weight r.body; simp; omega))
  have HA := Lib.hid (arg10_new w r vk 39)
  generalize bodyB C r = R at *
  generalize hLm : limitsB r = Lm at *
  clear hLm
  generalize hD : (decide (0 ≤ r.params ∧ r.params ≤ r.slots) : Bool) = D at *
  have HD := Lib.hid hD; clear hD
  generalize kright C [(r.params, r.slots)] r.body = Q at *
  clear hr hk hz
  unfold rval at *
  obtain ⟨rs, ro, rc, rp, rsl, ⟨bk, bt, bn, bd, bs⟩⟩ := r
  simp only [K.kind, K.text, K.num, K.dep] at *
  cases Lm with
  | false =>
    have hR : R = false := by rw [HV.out]; rfl
    subst hR
    go_enter Tryz.func13, Tryz.ntmps13
    go_wp2_with fail
    refine (KF _ HA.out.below).out.mono ?_
    rintro e w1 ⟨rfl, hb1⟩
    have AR := Lib.hid (HA.out.step hb1); clear hb1
    go_wp2_with fail
    go_ret
    exact ⟨rfl, AR.out.below⟩
  | true =>
  cases D with
  | false =>
    have hR : R = false := by rw [HV.out]; rfl
    subst hR
    go_enter Tryz.func13, Tryz.ntmps13
    go_wp2_with fail
    refine (KF _ HA.out.below).out.mono ?_
    rintro e w1 ⟨rfl, hb1⟩
    have AR := Lib.hid (HA.out.step hb1); clear hb1
    have d3 := AR.out.c 3 _ rfl
    have d4 := AR.out.c 4 _ rfl
    go_wp2_with fail
    refine (KI _).out.mono ?_
    rintro e w2 ⟨rfl, rfl⟩
    go_wp2_with fail
    go_ret
    exact ⟨rfl, AR.out.below⟩
  | true =>
  have hps := of_decide_eq_true HD.out
  go_enter Tryz.func13, Tryz.ntmps13
  go_wp2_with fail
  refine (KF _ HA.out.below).out.mono ?_
  rintro e w1 ⟨rfl, hb1⟩
  have AR := Lib.hid (HA.out.step hb1); clear hb1
  have d3 := AR.out.c 3 _ rfl
  have d4 := AR.out.c 4 _ rfl
  have d5 := AR.out.c 5 _ rfl
  have d6 := AR.out.c 6 _ rfl
  have d7 := AR.out.c 7 _ rfl
  have d8 := AR.out.c 8 _ rfl
  have d9 := AR.out.c 9 _ rfl
  simp only [K.kind, K.text, K.num, K.dep] at d5 d6 d7 d8
  have HPS := Lib.hid hps
  clear hps
  go_wp2_with fail
  refine (KI _).out.mono ?_
  rintro e w2 ⟨rfl, rfl⟩
  have hbl : Below w1.heap.size w1 ((w1.alloc (.cells #[.int .i64 rsl] 3)).alloc (.cells #[.int .i64 rp] 3)) := ((Below.refl _ _).alloc (Nat.le_refl _) _).alloc (by simp) _
  have H2 := Lib.hid (AR.out.below.trans (hbl.mono AR.out.below.size))
  have hs : NAt ((w1.alloc (.cells #[.int .i64 rsl] 3)).alloc (.cells #[.int .i64 rp] 3)) (.slice (some ⟨w1.heap.size, 0, none⟩) 1 1) [rsl] := ⟨_, 1, rfl, ⟨Nat.le_refl _, by unfold maxLen; omega⟩, fun _ => ⟨_, 0, rfl, fun j x hj => by
    match j, hj with
    | 0, hj => cases hj; go_simp⟩⟩
  have hp : NAt ((w1.alloc (.cells #[.int .i64 rsl] 3)).alloc (.cells #[.int .i64 rp] 3)) (.slice (some ⟨w1.heap.size + 1, 0, none⟩) 1 1) [rp] := ⟨_, 1, rfl, ⟨Nat.le_refl _, by unfold maxLen; omega⟩, fun _ => ⟨_, 0, rfl, fun j x hj => by
    match j, hj with
    | 0, hj => cases hj; go_simp⟩⟩
  have HS := Lib.hid hs
  have HP := Lib.hid hp
  clear hs hp hbl
  have d3b := cell_keep ((Below.refl w1.heap.size w1).alloc (Nat.le_refl _) (.cells #[.int .i64 rsl] 3)) d3
  go_wp2_with fail
  refine (KR _ _ _ H2.out HS.out HP.out (by trivial) HPS.out).out.mono ?_
  rintro e w3 ⟨rfl, hb3⟩
  have H3 := Lib.hid (H2.out.trans (hb3.mono H2.out.size)); clear hb3
  go_wp2_with fail
  go_ret
  exact ⟨by rw [HV.out]; rfl, H3.out⟩
end Go.Proofs.YtekeondbbikkpaaGreat.SpecCore
