/-
  impl's areRight and areMessages over nodes, given what isRight says of those below.
  impl's isRight of a node that is no block.
-/
import Derived.Test.YtekeondbbikkpaaGreatBImplCoreF
import Derived.Test.YtekeondbbikkpaaGreatBSpecRout
import Derived.Lib.QuietBelow
import Derived.Deep.DeepCutAuto
import Derived.Deep.CutRange
namespace Go.Proofs.YtekeondbbikkpaaGreat.ImplCore
open Go.RowKit
open Strs Tree Core
open SpecCore (draws_low text0 nat0 args_ge args_le LOk regrown_below)
set_option linter.unusedVariables false
def OkI (C : Nat) (e : K) : Prop := ∀ (lo b o g : Nat) (w : World) (L : Lv), kweight e ≤ 1048576 → kdeep e ≤ 999 → KSpot lo w b o e → Ck w g C L → LOk L → L.length + ksize e ≤ 4194304 →
  Calls Tryz.prog 77 #[.pointer (some ⟨g, 0, none⟩), .pointer (some ⟨b, o, none⟩)] w fun r w' => r = .returned (.bool (kright C L e)) ∧ Below w.heap.size w w'
set_option maxHeartbeats 4000000 in
theorem rights_any {C : Nat} {ks : List K} (ih : ∀ e, e ∈ ks → OkI C e) {lo g : Nat} {w : World} {v : Value} {L : Lv} (hw : kweights ks ≤ 1048576) (hd : kdeeps ks ≤ 999) (hk : KsAt lo w ks v) (hg : Ck w g C L) (hL : LOk L) (hl : L.length + ksizes ks ≤ 4194304) :
    Calls Tryz.prog 101 #[.pointer (some ⟨g, 0, none⟩), v] w fun r w' => r = .returned (.bool (krights C L ks)) ∧ Below w.heap.size w w' := by
  have HKS := Lib.hid hk
  obtain ⟨a, cap, rfl, hm, -⟩ := hk
  unfold maxLen at hm
  have HR : Hid (krights C L ks = ks.all (kright C L)) := Lib.hid (krights_iff C L ks)
  generalize krights C L ks = R at *
  have IH := Lib.hid ih; clear ih
  have HG := Lib.hid hg; have HL := Lib.hid hL; have HW := Lib.hid hw; have HD := Lib.hid hd; have HLL := Lib.hid hl
  clear hg hL hw hd hl
  generalize hN : ks.length = N at *
  have HN := Lib.hid hN; clear hN
  go_enter Tryz.func101, Tryz.ntmps101
  go_wp2_with fail
  go_loopw [8] (fun j wr => ∃ i : Nat, i ≤ N ∧ j = .int .i64 i ∧ (ks.take i).all (kright C L) = true ∧ Below w.heap.size w wr) (fun j _ => N - (intOf j).toNat)
  case atStart => exact ⟨0, by omega, rfl, by simp, Below.refl _ _⟩
  case round =>
    obtain ⟨i, hi, rfl, hq, hb⟩ := hrel
    have HQ := Lib.hid hq; clear hq
    have HB := Lib.hid hb; clear hb
    by_cases hlt : i < N
    · have hil : i < ks.length := by rw [HN.out]; exact hlt
      obtain ⟨b, off, rfl, hb, hr⟩ := HKS.out.at hil
      have KI := Lib.hid (IH.out _ (List.getElem_mem hil) lo b (off + i * 5) g wr L (by have := kweight_kid ks i hil; have := HW.out; omega) (by have := kdeep_kid ks i hil; have := HD.out; omega) (hr.below HB.out) (HG.out.below HB.out) HL.out (by have := ksize_kid ks i hil; have := HLL.out; omega))
      have HYES : Hid (kright C L ks[i] = true → (ks.take (i + 1)).all (kright C L) = true) := Lib.hid (fun h => by
        rw [List.take_succ_eq_append_getElem hil, List.all_append, HQ.out, Bool.true_and, List.all_cons, h]; rfl)
      have HNO : Hid (kright C L ks[i] = false → R = false) := Lib.hid (fun h => by
        rw [HR.out, List.all_eq_false]
        exact ⟨ks[i], List.getElem_mem hil, by rw [h]; exact Bool.false_ne_true⟩)
      clear hr
      generalize ks[i] = e at *
      generalize kright C L e = z at *
      cases z with
      | true =>
        have HY : Hid ((ks.take (i + 1)).all (kright C L) = true) := Lib.hid (by first | exact HYES.out rfl | exact HYES.out trivial)
        go_wp2_with fail
        refine KI.out.mono ?_
        rintro r w1 ⟨rfl, hb1⟩
        have HB1 := Lib.hid (HB.out.trans (hb1.mono HB.out.size))
        clear hb1 HB
        go_wp2_with fail
        go_roundw
        case rel => exact ⟨i + 1, by omega, by go_num, HY.out, HB1.out⟩
        case measure => simp [intOf]; omega
      | false =>
        have hR : R = false := by first | exact HNO.out rfl | exact HNO.out trivial
        subst hR
        go_wp2_with fail
        refine KI.out.mono ?_
        rintro r w1 ⟨rfl, hb1⟩
        have HB1 := Lib.hid (HB.out.trans (hb1.mono HB.out.size))
        clear hb1 HB
        go_wp2_with fail
        go_ret
        exact ⟨rfl, HB1.out⟩
    · have hR : R = true := by
        have h1 : i = N := by omega
        have h2 := HQ.out
        rw [h1, List.take_of_length_le (by rw [HN.out]; exact Nat.le_refl _)] at h2
        rw [HR.out]; exact h2
      have HRR := Lib.hid hR; clear hR
      go_wp2_with fail
      go_ret
      exact ⟨by rw [HRR.out]; rfl, HB.out⟩
theorem msg_casesI (C : Nat) (L : Lv) (k : Int) (t : ByteArray) (n d : Int) (ks : List K) (P : Bool) (hP : plainB k t n d = P) (c : Int) (hc : Tok.countArgs t = c) (B : Bool) (hB : krights C L ks = B) (N : Nat) (hN : ks.length = N) :
    (kmsg C L (.mk k t n d ks) = false ∧ ((k != 13) = true ∨ (k = 13 ∧ P = false) ∨ (k = 13 ∧ P = true ∧ ((N : Int) != c) = true) ∨ (k = 13 ∧ P = true ∧ ((N : Int) != c) = false ∧ B = false))) ∨
    (kmsg C L (.mk k t n d ks) = true ∧ k = 13 ∧ P = true ∧ ((N : Int) != c) = false ∧ B = true) := by
  rw [kmsg, hP, hc, hB, hN]
  by_cases h1 : k = 13
  case neg => exact .inl ⟨by rw [decide_eq_false h1]; rfl, .inl (by simpa using h1)⟩
  rw [decide_eq_true h1]
  cases P with
  | false => exact .inl ⟨rfl, .inr (.inl ⟨h1, rfl⟩)⟩
  | true =>
    by_cases h5 : (N : Int) = c
    case neg => exact .inl ⟨by rw [decide_eq_false h5]; rfl, .inr (.inr (.inl ⟨h1, rfl, by simpa using h5⟩))⟩
    have e5 : ((N : Int) != c) = false := by simpa using h5
    cases B with
    | false => exact .inl ⟨by simp, .inr (.inr (.inr ⟨h1, rfl, e5, rfl⟩))⟩
    | true => exact .inr ⟨by rw [decide_eq_true h5]; rfl, h1, rfl, e5, rfl⟩
set_option maxRecDepth 10000 in
set_option maxHeartbeats 16000000 in
theorem msgs_any {C : Nat} {ks : List K} (ih : ∀ e, e ∈ ks → ∀ f, f ∈ e.kids → OkI C f) {lo g : Nat} {w : World} {v : Value} {L : Lv} (hw : kweights ks ≤ 1048576) (hd : kdeeps ks ≤ 999) (hk : KsAt lo w ks v) (hg : Ck w g C L) (hL : LOk L) (hl : L.length + ksizes ks ≤ 4194304) :
    Calls Tryz.prog 102 #[.pointer (some ⟨g, 0, none⟩), v] w fun r w' => r = .returned (.bool (kmsgs C L ks)) ∧ Below w.heap.size w w' := by
  have HKS := Lib.hid hk
  obtain ⟨a, cap, rfl, hm, -⟩ := hk
  unfold maxLen at hm
  have HR : Hid (kmsgs C L ks = ks.all (kmsg C L)) := Lib.hid (kmsgs_iff C L ks)
  generalize kmsgs C L ks = R at *
  have IH := Lib.hid ih; clear ih
  have HG := Lib.hid hg; have HL := Lib.hid hL; have HW := Lib.hid hw; have HD := Lib.hid hd; have HLL := Lib.hid hl
  clear hg hL hw hd hl
  generalize hN : ks.length = N at *
  have HN := Lib.hid hN; clear hN
  go_enter Tryz.func102, Tryz.ntmps102
  go_wp2_with fail
  go_loopw [9] (fun j wr => ∃ i : Nat, i ≤ N ∧ j = .int .i64 i ∧ (ks.take i).all (kmsg C L) = true ∧ Below w.heap.size w wr) (fun j _ => N - (intOf j).toNat)
  case atStart => exact ⟨0, by omega, rfl, by simp, Below.refl _ _⟩
  case round =>
    obtain ⟨i, hi, rfl, hq, hb⟩ := hrel
    have HQ := Lib.hid hq; clear hq
    have HB := Lib.hid hb; clear hb
    by_cases hlt : i < N
    · have hil : i < ks.length := by rw [HN.out]; exact hlt
      obtain ⟨b, off, rfl, hb, hr⟩ := HKS.out.at hil
      have HYES : Hid (kmsg C L ks[i] = true → (ks.take (i + 1)).all (kmsg C L) = true) := Lib.hid (fun h => by
        rw [List.take_succ_eq_append_getElem hil, List.all_append, HQ.out, Bool.true_and, List.all_cons, h]; rfl)
      have HNO : Hid (kmsg C L ks[i] = false → R = false) := Lib.hid (fun h => by
        rw [HR.out, List.all_eq_false]
        exact ⟨ks[i], List.getElem_mem hil, by rw [h]; exact Bool.false_ne_true⟩)
      have hs := Lib.hid (hr.below HB.out)
      have hwk : kweight ks[i] ≤ 1048576 := by have := kweight_kid ks i hil; have := HW.out; omega
      have hdk : kdeep ks[i] ≤ 999 := by have := kdeep_kid ks i hil; have := HD.out; omega
      have hzk : L.length + ksize ks[i] ≤ 4194304 := by have := ksize_kid ks i hil; have := HLL.out; omega
      have IHe := Lib.hid (IH.out _ (List.getElem_mem hil))
      clear hr
      generalize ks[i] = e at *
      obtain ⟨ek, et, en, ed, es⟩ := e
      rw [kweight] at hwk
      rw [ksize] at hzk
      have hde : kdeeps es ≤ 999 := by
        rw [kdeep] at hdk
        split at hdk <;> omega
      have hsz : et.size ≤ 1048576 := by omega
      obtain ⟨xk, d0, d1, d2, d3, d4, hnode⟩ := hs.out
      simp only [K.kind, K.text, K.num, K.dep, K.kids] at d0 d1 d2 d3 IHe
      obtain ⟨-, -, -, -, hxs⟩ := kat_iff.1 hnode
      simp only [K.kids] at hxs
      have HXS := Lib.hid hxs
      obtain ⟨xa, xc, rfl, ⟨hx1, hx2⟩, -⟩ := hxs
      have k0 := cell_regrown d0; have k1 := cell_regrown d1; have k4 := cell_regrown d4
      have KC := fun d os => Lib.hid (Calls.regrown_of (w := wr) (d := d) (os := os) (ImplCount.count_any et _ hsz))
      have KP := fun d os => Lib.hid (Calls.regrown_of (w := wr) (d := d) (os := os) (plain_any (hs.out.below (below_regrown wr d os))))
      have KB := fun d os => Lib.hid (Calls.regrown_of (w := wr) (d := d) (os := os) (rights_any (C := C) IHe.out (by omega) hde (HXS.out.below (below_regrown wr d os)) (HG.out.below (HB.out.trans ((below_regrown wr d os).mono HB.out.size))) HL.out (by omega)))
      simp only [K.kind, K.text, K.num, K.dep] at KP
      have hmc := msg_casesI C L ek et en ed es _ rfl _ rfl _ rfl _ rfl
      clear d0 d1 d2 d3 d4 hnode hs IHe hwk hdk hzk hde
      generalize kmsg C L (.mk ek et en ed es) = M at *
      have hc1 := args_ge et
      have hc2 := args_le et
      generalize Tok.countArgs et = c at *
      generalize krights C L es = B at *
      generalize plainB ek et en ed = P at *
      generalize es.length = N' at *
      unfold maxLen at hx2
      rcases hmc with ⟨hM, hmc⟩ | ⟨hM, rfl, rfl, f4, rfl⟩
      · have hR := HNO.out hM
        subst hR
        clear HNO HYES hM
        rcases hmc with f0 | ⟨rfl, rfl⟩ | ⟨rfl, rfl, f4⟩ | ⟨rfl, rfl, f4, rfl⟩
        all_goals
          go_upto_region 5 with fail
          refine wp_region_quiet_below (by kernel_rfl) (by kernel_rfl) ?_
          repeat (go_big_quiet_step (first
            | (go_at_call 97; exact (KP _ _).out)
            | (go_at_call 48; exact (KC _ _).out)
            | (go_at_call 101; exact (KB _ _).out)))
          refine wpQuiet_nil ?_
          intro w2 hw2
          have HB2 := Lib.hid (HB.out.trans ((regrown_below hw2).mono HB.out.size)); clear hw2 k0 k1 k4
          go_wp2_with fail
          go_ret
          exact ⟨rfl, HB2.out⟩
      · have HNEW := Lib.hid (HYES.out hM)
        clear HNO HYES hM
        go_upto_region 5 with fail
        refine wp_region_quiet_below (by kernel_rfl) (by kernel_rfl) ?_
        repeat (go_big_quiet_step (first
          | (go_at_call 97; exact (KP _ _).out)
          | (go_at_call 48; exact (KC _ _).out)
          | (go_at_call 101; exact (KB _ _).out)))
        refine wpQuiet_nil ?_
        intro w2 hw2
        have HB2 := Lib.hid (HB.out.trans ((regrown_below hw2).mono HB.out.size)); clear hw2 k0 k1 k4
        go_wp2_with fail
        go_roundw
        case rel => exact ⟨i + 1, by omega, by go_num, HNEW.out, HB2.out⟩
        case measure => simp [intOf]; omega
    · have hR : R = true := by
        have h1 : i = N := by omega
        have h2 := HQ.out
        rw [h1, List.take_of_length_le (by rw [HN.out]; exact Nat.le_refl _)] at h2
        rw [HR.out]; exact h2
      have HRR := Lib.hid hR; clear hR
      go_wp2_with fail
      go_ret
      exact ⟨by rw [HRR.out]; rfl, HB.out⟩
end Go.Proofs.YtekeondbbikkpaaGreat.ImplCore

namespace Go.Proofs.YtekeondbbikkpaaGreat.ImplCore
open Go.RowKit
open Strs Tree Core
open SpecCore (draws_low text0 nat0 args_ge args_le LOk regrown_below)
set_option linter.unusedVariables false
theorem KsAt.tail {lo : Nat} {w : World} {e : K} {es : List K} {b off n cap : Nat} (h : KsAt lo w (e :: es) (.slice (some ⟨b, off, none⟩) n cap)) : KsAt lo w es (.slice (some ⟨b, off + 5, none⟩) (n - 1) (cap - 1)) := by
  obtain ⟨a', cap', he, ⟨hm1, hm2⟩, hc⟩ := h
  simp only [Value.slice.injEq] at he
  obtain ⟨rfl, rfl, rfl⟩ := he
  rw [List.length_cons] at hm1 hc ⊢
  refine ⟨_, cap - 1, by rw [Nat.add_sub_cancel], by omega, fun hp => ?_⟩
  obtain ⟨b', off', he, hb, hr⟩ := hc (by omega)
  cases he
  rw [KRow] at hr
  exact ⟨b, off + 5, rfl, hb, hr.2⟩
set_option maxRecDepth 10000 in
set_option maxHeartbeats 16000000 in
theorem right_not {C : Nat} {k : Int} {t : ByteArray} {n d : Int} {ks : List K} (hk16 : ¬ k = 16) (ih : ∀ e, e ∈ ks → OkI C e ∧ ∀ f, f ∈ e.kids → OkI C f) : OkI C (.mk k t n d ks) := by
  intro lo b o g w L hw hd hs hg hL hl
  rw [kweight] at hw
  rw [ksize] at hl
  have hdd : kdeeps ks ≤ 999 := by
    rw [kdeep] at hd
    split at hd <;> omega
  have ht : t.size ≤ 1048576 := by omega
  have KP := Lib.hid (plain_any hs)
  have KQ := fun (w' : World) (hb : Below w.heap.size w w') => Lib.hid (kids_any (hs.below hb) ht)
  have KF := fun (w' : World) (hb : Below w.heap.size w w') => Lib.hid (fields_any (hg.below hb) (by omega) (hs.below hb) ht)
  simp only [K.kind, K.text, K.num, K.dep, K.kids] at KP KQ KF
  have HV : Hid (kright C L (.mk k t n d ks) = ((plainB k t n d && (countB k t ks.length && fieldB C L k t n d)) && (if k = 15 then khead C L ks else krights C L ks))) := Lib.hid (by rw [kright_mk, if_neg hk16]; rfl)
  generalize kright C L (.mk k t n d ks) = R at *
  have HC15 : Hid (k = 15 → countB k t ks.length = true → 2 ≤ ks.length) := Lib.hid (fun h1 h2 => by
    subst h1
    simpa [countB] using h2)
  generalize plainB k t n d = P at *
  generalize countB k t ks.length = Q at *
  generalize fieldB C L k t n d = F at *
  cases P with
  | false =>
    have hR : R = false := by rw [HV.out]; rfl
    subst hR
    go_enter Tryz.func77, Tryz.ntmps77
    go_wp2_with fail
    refine KP.out.mono ?_
    rintro r w1 ⟨rfl, hb1⟩
    have H1 := Lib.hid hb1; clear hb1
    go_wp2_with fail
    go_ret
    exact ⟨rfl, H1.out⟩
  | true =>
  cases Q with
  | false =>
    have hR : R = false := by rw [HV.out]; rfl
    subst hR
    go_enter Tryz.func77, Tryz.ntmps77
    go_wp2_with fail
    refine KP.out.mono ?_
    rintro r w1 ⟨rfl, hb1⟩
    have H1 := Lib.hid hb1; clear hb1
    go_wp2_with fail
    refine (KQ _ H1.out).out.mono ?_
    rintro r w2 ⟨rfl, hb2⟩
    have H2 := Lib.hid (H1.out.trans (hb2.mono H1.out.size)); clear hb2
    go_wp2_with fail
    go_ret
    exact ⟨rfl, H2.out⟩
  | true =>
  cases F with
  | false =>
    have hR : R = false := by rw [HV.out]; rfl
    subst hR
    go_enter Tryz.func77, Tryz.ntmps77
    go_wp2_with fail
    refine KP.out.mono ?_
    rintro r w1 ⟨rfl, hb1⟩
    have H1 := Lib.hid hb1; clear hb1
    go_wp2_with fail
    refine (KQ _ H1.out).out.mono ?_
    rintro r w2 ⟨rfl, hb2⟩
    have H2 := Lib.hid (H1.out.trans (hb2.mono H1.out.size)); clear hb2
    go_wp2_with fail
    refine (KF _ H2.out).out.mono ?_
    rintro r w3 ⟨rfl, hb3⟩
    have H3 := Lib.hid (H2.out.trans (hb3.mono H2.out.size)); clear hb3
    go_wp2_with fail
    go_ret
    exact ⟨rfl, H3.out⟩
  | true =>
  obtain ⟨vk, c0, c1, c2, c3, c4, hn⟩ := id hs
  obtain ⟨-, -, -, -, hks⟩ := kat_iff.1 hn
  simp only [K.kind, K.text, K.num, K.dep, K.kids] at c0 c1 c2 c3 hks
  have HKS := Lib.hid hks
  have HG := Lib.hid hg; have HL := Lib.hid hL; have HW := Lib.hid hw; have HD := Lib.hid hdd; have HLL := Lib.hid hl
  obtain ⟨a, cap, rfl, hm, -⟩ := hks
  unfold maxLen at hm
  have b16 : (k == 16) = false := by rw [beq_eq_false_iff_ne]; exact hk16
  have IH := Lib.hid ih
  clear hn hg hL hw hdd hl hd ht hk16 ih
  by_cases h15 : k = 15
  · subst h15
    have h2 : 2 ≤ ks.length := by first | exact HC15.out rfl rfl | exact HC15.out trivial rfl | exact HC15.out trivial trivial | exact HC15.out rfl trivial
    cases hks : ks with
    | nil => rw [hks] at h2; simp at h2
    | cons e es =>
    subst hks
    have HV2 : Hid (R = (kright C L e && kmsgs C L es)) := Lib.hid (by rw [HV.out, if_pos rfl, khead]; rfl)
    obtain ⟨kb, off, rfl, hb, hr⟩ := HKS.out.at (i := 0) (by simp)
    rw [List.getElem_cons_zero, Nat.zero_mul, Nat.add_zero] at hr
    have K0 := fun (w' : World) (hb : Below w.heap.size w w') => Lib.hid ((IH.out e (by simp)).1 lo kb off g w' L (by have := HW.out; simp only [kweights, List.length_cons] at this; omega) (by have := HD.out; simp only [kdeeps] at this; omega) (hr.below hb) (HG.out.below hb) HL.out (by have := HLL.out; simp only [ksizes] at this; omega))
    have KM := fun (w' : World) (hb : Below w.heap.size w w') => Lib.hid (msgs_any (C := C) (ks := es) (fun f hf => (IH.out f (by simp [hf])).2) (lo := lo) (g := g) (L := L) (by have := HW.out; simp only [kweights, List.length_cons] at this; omega) (by have := HD.out; simp only [kdeeps] at this; omega) ((KsAt.tail HKS.out).below hb) (HG.out.below hb) HL.out (by have := HLL.out; simp only [ksizes] at this; omega))
    generalize kright C L e = z at *
    generalize kmsgs C L es = y at *
    rw [List.length_cons] at *
    generalize es.length = N at *
    have hcap1 : ¬ cap = 1 := by omega
    clear HV HC15 hr HKS HW HD HLL IH HL HG
    go_enter Tryz.func77, Tryz.ntmps77
    go_wp2_with fail
    refine KP.out.mono ?_
    rintro r w1 ⟨rfl, hb1⟩
    have H1 := Lib.hid hb1; clear hb1
    go_wp2_with fail
    refine (KQ _ H1.out).out.mono ?_
    rintro r w2 ⟨rfl, hb2⟩
    have H2 := Lib.hid (H1.out.trans (hb2.mono H1.out.size)); clear hb2
    go_wp2_with fail
    refine (KF _ H2.out).out.mono ?_
    rintro r w3 ⟨rfl, hb3⟩
    have H3 := Lib.hid (H2.out.trans (hb3.mono H2.out.size)); clear hb3
    have e0 := cell_keep H3.out c0
    have e4 := cell_keep H3.out c4
    have C4 := Lib.hid c4
    clear c0 c1 c2 c3 c4
    go_wp2_with fail
    refine (K0 _ H3.out).out.mono ?_
    rintro r w4 ⟨rfl, hb4⟩
    have H4 := Lib.hid (H3.out.trans (hb4.mono H3.out.size)); clear hb4 e0 e4
    have e4 := cell_keep H4.out C4.out
    cases z with
    | false =>
      go_wp2_with fail
      go_ret
      exact ⟨by rw [HV2.out]; rfl, H4.out⟩
    | true =>
      go_wp2_with fail
      refine (KM _ H4.out).out.mono ?_
      rintro r w5 ⟨rfl, hb5⟩
      have H5 := Lib.hid (H4.out.trans (hb5.mono H4.out.size)); clear hb5 e4
      go_wp2_with fail
      go_ret
      exact ⟨by rw [HV2.out]; rfl, H5.out⟩
  have b15 : (k == 15) = false := by rw [beq_eq_false_iff_ne]; exact h15
  have HV2 : Hid (R = krights C L ks) := Lib.hid (by rw [HV.out, if_neg h15]; rfl)
  have KR := fun (w' : World) (hb : Below w.heap.size w w') => Lib.hid (rights_any (C := C) (ks := ks) (fun e he => (IH.out e he).1) (lo := lo) (g := g) (L := L) (by have := HW.out; omega) HD.out (HKS.out.below hb) (HG.out.below hb) HL.out (by have := HLL.out; omega))
  generalize krights C L ks = y at *
  generalize ks.length = N at *
  clear HV HC15 HKS HW HD HLL IH HL HG h15
  go_enter Tryz.func77, Tryz.ntmps77
  go_wp2_with fail
  refine KP.out.mono ?_
  rintro r w1 ⟨rfl, hb1⟩
  have H1 := Lib.hid hb1; clear hb1
  go_wp2_with fail
  refine (KQ _ H1.out).out.mono ?_
  rintro r w2 ⟨rfl, hb2⟩
  have H2 := Lib.hid (H1.out.trans (hb2.mono H1.out.size)); clear hb2
  go_wp2_with fail
  refine (KF _ H2.out).out.mono ?_
  rintro r w3 ⟨rfl, hb3⟩
  have H3 := Lib.hid (H2.out.trans (hb3.mono H2.out.size)); clear hb3
  have e0 := cell_keep H3.out c0
  have e4 := cell_keep H3.out c4
  clear c0 c1 c2 c3 c4
  go_wp2_with fail
  refine (KR _ H3.out).out.mono ?_
  rintro r w4 ⟨rfl, hb4⟩
  have H4 := Lib.hid (H3.out.trans (hb4.mono H3.out.size)); clear hb4 e0 e4
  go_wp2_with fail
  go_ret
  exact ⟨by rw [HV2.out]; rfl, H4.out⟩
end Go.Proofs.YtekeondbbikkpaaGreat.ImplCore
