/-
  impl's isPlain, hasForm, isObject of a store.
  impl's hasForm, isObject of a store.
  impl's IsStore, classOf, ClassOf.
-/
import Derived.Test.YtoaocpfehdcfgaaGreatDoorBImplClsAll
import Derived.Test.YtoaocpfehdcfgaaGreatDoorBImplStoA
import Derived.Deep.RegionWith
namespace Go.Proofs.YtoaocpfehdcfgaaGreatDoor.ImplSto
open Go.RowKit
open Strs Tree Core Sto Go.Proofs.YtoaocpfehdcfgaaGreatDoor.Data
open ImplCore (closed_is)
set_option linter.unusedVariables false
set_option linter.unusedSimpArgs false
theorem closed_rev (p : Int) (b : Bool) (w : World) (hb : (decide (4 < p) && decide (p < 16)) = b) :
    Calls Tryz.prog 92 #[.int .i64 p] w fun e w' => e = .returned (.bool b) ∧ w' = w := (closed_is p b w hb).mono fun _ _ h => ⟨h.1, h.2.symm⟩
theorem open_cases (n : Nat) (c : Int) (h16 : 16 ≤ n) :
    (canB n c = false ∧ decide (c < 0) = true) ∨ (canB n c = false ∧ decide (c < 0) = false ∧ decide ((n : Int) ≤ c) = true) ∨
    (canB n c = false ∧ (0 ≤ c ∧ c < n) ∧ decide (c < 0) = false ∧ decide ((n : Int) ≤ c) = false ∧ (decide (4 < c) && decide (c < 16)) = true) ∨
    (canB n c = true ∧ (0 ≤ c ∧ c < n) ∧ decide (c < 0) = false ∧ decide ((n : Int) ≤ c) = false ∧ (decide (4 < c) && decide (c < 16)) = false) := by
  have hcan : canB n c = decide ((0 ≤ c ∧ c ≤ 4) ∨ (16 ≤ c ∧ c < (n : Int))) := by
    unfold canB
    rw [Bool.eq_iff_iff]
    simp
  have hcl : (decide (4 < c) && decide (c < 16)) = decide (4 < c ∧ c < 16) := by
    rw [Bool.eq_iff_iff]
    simp
  rw [hcan, hcl]
  by_cases h0 : c < 0
  · exact .inl ⟨decide_eq_false (by omega), decide_eq_true h0⟩
  by_cases h1 : (n : Int) ≤ c
  · exact .inr (.inl ⟨decide_eq_false (by omega), decide_eq_false h0, decide_eq_true h1⟩)
  by_cases h2 : 4 < c ∧ c < 16
  · exact .inr (.inr (.inl ⟨decide_eq_false (by omega), by omega, decide_eq_false h0, decide_eq_false h1, decide_eq_true h2⟩))
  · exact .inr (.inr (.inr ⟨decide_eq_true (by omega), by omega, decide_eq_false h0, decide_eq_false h1, decide_eq_false h2⟩))
set_option maxRecDepth 10000 in
set_option maxHeartbeats 16000000 in
theorem plain_any {w : World} {sb ob oo : Nat} {s : St} {o : O} (h : SAt w sb s) (hic : infosB s.classes = true) (ho : OAt 0 w ob oo o) :
    Calls Tryz.prog 94 #[.pointer (some ⟨sb, 0, none⟩), .pointer (some ⟨ob, oo, none⟩)] w fun e w' => e = .returned (.bool (canB s.classes.length o.cls && (decide (o.fields.length = flen s.classes o.cls) && decide (o.nums.length = if below1 s.classes o.cls then 3 else 0)))) ∧ Below w.heap.size w w' := by
  obtain ⟨hc16, hc24⟩ := infos_len hic
  obtain ⟨vf, vn, m0, m1, m2, m3, hf, hn, -, -⟩ := ho
  obtain ⟨fa, fc, rfl, hfm, -⟩ := hf
  obtain ⟨na, nc, rfl, hnm, -⟩ := hn
  obtain ⟨v0, v1, v2, c0, c1, c2, -, -, -, h0, -⟩ := h
  have HI := Lib.hid h0
  obtain ⟨ca, cc, rfl, hcm, -⟩ := h0
  unfold maxLen at hfm hnm hcm
  clear c1 c2
  have HR : Hid (∃ R, R = (canB s.classes.length o.cls && (decide (o.fields.length = flen s.classes o.cls) && decide (o.nums.length = if below1 s.classes o.cls then 3 else 0)))) := Lib.hid ⟨_, rfl⟩
  obtain ⟨R, hR⟩ := HR.out
  rw [← hR]
  have HRR := Lib.hid hR
  clear hR HR
  have KB := fun (k : Nat) (hk : k < s.classes.length) w' (hb : Below w.heap.size w w') => Lib.hid (isbelow_any (HI.out.below hb) hic k hk 1 (by omega))
  have hcase := open_cases s.classes.length o.cls hc16
  generalize o.fields.length = F at *
  generalize o.nums.length = M at *
  generalize o.cls = c at *
  have HM0 := Lib.hid m0; have HM1 := Lib.hid m1; have HM2 := Lib.hid m2; have HM3 := Lib.hid m3; have HC0 := Lib.hid c0
  clear hc16 hc24 hic
  rcases hcase with ⟨hcan, q0⟩ | ⟨hcan, q0, q1⟩ | ⟨hcan, hcr, q0, q1, q2⟩ | ⟨hcan, hcr, q0, q1, q2⟩
  case inr.inr.inr =>
    obtain ⟨ck, rfl⟩ : ∃ ck : Nat, c = (ck : Int) := ⟨c.toNat, by omega⟩
    have hckl : ck < s.classes.length := by omega
    obtain ⟨cx, hcx⟩ : ∃ cx, s.classes[ck]? = some cx := ⟨_, List.getElem?_eq_getElem hckl⟩
    have HFL : Hid (flen s.classes (ck : Int) = cx.fields.length) := Lib.hid (by unfold flen; rw [Int.toNat_natCast, hcx])
    have KC := fun w' => Lib.hid (closed_rev (ck : Int) false w' q2)
    have KBB := fun w' hb => KB ck hckl w' hb
    have HU : Hid (up s.classes 1 s.classes.length (ck : Int) = below1 s.classes (ck : Int)) := Lib.hid rfl
    rw [HU.out] at KBB
    have HR2 : Hid (R = (decide (F = cx.fields.length) && decide (M = if below1 s.classes (ck : Int) = true then 3 else 0))) := Lib.hid (by rw [HRR.out, hcan, HFL.out, Bool.true_and])
    obtain ⟨cb, co, rfl, -, xf, -, -, x2, hxt, -⟩ := HI.out.at hcx
    obtain ⟨xa, xc, rfl, hxm, -⟩ := hxt
    unfold maxLen at hxm
    have HX2 := Lib.hid x2
    generalize cx.fields.length = L at *
    clear HFL hcx x2 HRR KB HU hcan
    generalize below1 s.classes (ck : Int) = U at *
    generalize s.classes.length = C at *
    have HZ0 : Hid (((M : Int) == 0) = decide (M = 0)) := Lib.hid (by
      rw [Bool.eq_iff_iff, beq_iff_eq, decide_eq_true_eq]; omega)
    have HZ3 : Hid (((M : Int) == 3) = decide (M = 3)) := Lib.hid (by
      rw [Bool.eq_iff_iff, beq_iff_eq, decide_eq_true_eq]; omega)
    cases hFL : ((F : Int) == (L : Int))
    all_goals
      have hzi : ((F : Int) == (L : Int)) = decide (F = L) := by
        rw [Bool.eq_iff_iff, beq_iff_eq, decide_eq_true_eq]; omega
      cases U
      all_goals
        rw [← hzi, hFL] at HR2
        have hR := HR2.out
        simp only [Bool.false_eq_true, if_false, if_true, Bool.true_and, Bool.false_and] at hR
        subst hR
        clear HR2 hzi
        go_enter Tryz.func94, Tryz.ntmps94
        go_upto_region 1 with fail
        go_quiet ((go_at_call 92; exact Calls.quiet_of_same (KC _).out))
        go_wp2_with fail
        obtain ⟨wd, hwd⟩ : ∃ wd, wd = w.drewN nq := ⟨_, rfl⟩
        rw [← hwd]
        have hbd : Below w.heap.size w wd := by rw [hwd]; exact below_drewN (Below.refl _ _) _
        have HBD := Lib.hid hbd
        have KQ := fun n => Lib.hid (Calls.quiet_of_same (((KBB (wd.drewN n) (below_drewN hbd n)).out).mono fun _ _ h => ⟨h.1, h.2.symm⟩))
        clear m0 m1 m2 m3 c0 hwd
        have c0 := cell_keep hbd HC0.out; have m1 := cell_keep hbd HM1.out; have m2 := cell_keep hbd HM2.out; have m3 := cell_keep hbd HM3.out
        clear hbd
        go_quiet ((go_at_call 110; exact (KQ _).out))
        go_wp2_with fail
        obtain ⟨we, hwd⟩ : ∃ we, we = wd.drewN nq := ⟨_, rfl⟩
        rw [← hwd]
        have hbd : Below w.heap.size w we := by rw [hwd]; exact below_drewN HBD.out _
        have HBE := Lib.hid hbd
        clear c0 m1 m2 m3 hwd KQ
        have c0 := cell_keep hbd HC0.out; have m1 := cell_keep hbd HM1.out; have m2 := cell_keep hbd HM2.out; have m3 := cell_keep hbd HM3.out; have x2 := cell_keep hbd HX2.out
        clear hbd
        go_quiet (fail)
        go_wp2_with fail
        go_ret
        first
          | exact ⟨rfl, below_drewN HBE.out _⟩
          | exact ⟨by rw [← HZ0.out]; rfl, below_drewN HBE.out _⟩
          | exact ⟨by rw [← HZ3.out]; rfl, below_drewN HBE.out _⟩
  all_goals
    have hR : R = false := by rw [HRR.out, hcan]; rfl
    have KC := fun (hh : (decide (4 < c) && decide (c < 16)) = true) w' => Lib.hid (closed_rev c true w' hh)
    subst hR
    clear HRR KB hcan
    go_enter Tryz.func94, Tryz.ntmps94
    go_upto_region 1 with fail
    go_quiet ((go_at_call 92; exact Calls.quiet_of_same (KC q2 _).out))
    go_wp2_with fail
    go_ret
    exact ⟨rfl, below_drewN (Below.refl _ _) _⟩
end Go.Proofs.YtoaocpfehdcfgaaGreatDoor.ImplSto

namespace Go.Proofs.YtoaocpfehdcfgaaGreatDoor.ImplSto
open Go.RowKit
open Strs Tree Core Sto Go.Proofs.YtoaocpfehdcfgaaGreatDoor.Data
set_option linter.unusedVariables false
set_option linter.unusedSimpArgs false
set_option maxRecDepth 10000 in
set_option maxHeartbeats 16000000 in
theorem form_any {w : World} {sb ob oo : Nat} {s : St} {o : O} (h : SAt w sb s) (hic : infosB s.classes = true) (ho : OAt 0 w ob oo o) :
    Calls Tryz.prog 69 #[.pointer (some ⟨sb, 0, none⟩), .pointer (some ⟨ob, oo, none⟩)] w fun e w' => e = .returned (.bool (formB s.classes o)) ∧ Below w.heap.size w w' := by
  have KP := Lib.hid (plain_any h hic ho)
  have HFO : Hid (formB s.classes o = if o.kind = 1 then canB s.classes.length o.cls && (decide (o.fields.length = flen s.classes o.cls) && decide (o.nums.length = if below1 s.classes o.cls then 3 else 0))
      else if o.kind = 2 then decide (o.cls = 10) && (decide (o.fields.length ≤ 50) && decide (o.nums.length = 0))
      else if o.kind = 3 then decide (o.cls = 12) && (decide (o.fields.length = 0) && (decide (1 ≤ o.nums.length) && o.nums.all fun n => decide (0 ≤ n)))
      else false) := Lib.hid rfl
  obtain ⟨vf, vn, m0, m1, m2, m3, hf, hn, -, -⟩ := ho
  have KA := Lib.hid (counts_any hn)
  obtain ⟨fa, fc, rfl, hfm, -⟩ := hf
  obtain ⟨na, nc, rfl, hnm, -⟩ := hn
  unfold maxLen at hfm hnm
  clear h hic
  generalize formB s.classes o = R at *
  generalize (canB s.classes.length o.cls && (decide (o.fields.length = flen s.classes o.cls) && decide (o.nums.length = if below1 s.classes o.cls then 3 else 0))) = PB at *
  generalize (decide (1 ≤ o.nums.length) && o.nums.all fun n => decide (0 ≤ n)) = CB at *
  generalize o.fields.length = F at *
  generalize o.nums.length = M at *
  generalize o.kind = k at *
  generalize o.cls = c at *
  by_cases hk1 : k = 1
  · have hR := HFO.out
    rw [if_pos hk1] at hR
    subst hR hk1
    clear HFO KA
    go_enter Tryz.func69, Tryz.ntmps69
    go_wp2_with fail
    refine KP.out.mono ?_
    rintro e w1 ⟨rfl, hb1⟩
    have H1 := Lib.hid hb1
    clear hb1
    go_wp2_with fail
    go_ret
    exact ⟨rfl, H1.out⟩
  have g1 := (eq_no hk1).1
  by_cases hk2 : k = 2
  · have HF1 : Hid (R = (decide (c = 10) && (decide (F ≤ 50) && decide (M = 0)))) := Lib.hid (by rw [HFO.out, if_neg hk1, if_pos hk2])
    subst hk2
    clear HFO hk1 KP KA g1
    have hcase : (Hid (R = false) ∧ (c == 10) = false) ∨ (Hid (R = false) ∧ (c == 10) = true ∧ decide ((F : Int) ≤ 50) = false) ∨ (Hid (R = false) ∧ (c == 10) = true ∧ decide ((F : Int) ≤ 50) = true ∧ ((M : Int) == 0) = false) ∨ (Hid (R = true) ∧ (c == 10) = true ∧ decide ((F : Int) ≤ 50) = true ∧ ((M : Int) == 0) = true) := by
      by_cases h1 : c = 10
      case neg => exact .inl ⟨Lib.hid (by rw [HF1.out, decide_eq_false h1]; rfl), (eq_no h1).1⟩
      by_cases h2 : F ≤ 50
      case neg => exact .inr (.inl ⟨Lib.hid (by rw [HF1.out, decide_eq_false h2]; simp), (eq_yes h1).1, decide_eq_false (by omega)⟩)
      by_cases h3 : M = 0
      case neg => exact .inr (.inr (.inl ⟨Lib.hid (by rw [HF1.out, decide_eq_false h3]; simp), (eq_yes h1).1, decide_eq_true (by omega), (eq_no (by omega)).1⟩))
      exact .inr (.inr (.inr ⟨Lib.hid (by rw [HF1.out, decide_eq_true h1, decide_eq_true h2, decide_eq_true h3]; rfl), (eq_yes h1).1, decide_eq_true (by omega), (eq_yes (by omega)).1⟩))
    clear HF1
    rcases hcase with ⟨hR, q1⟩ | ⟨hR, q1, q2⟩ | ⟨hR, q1, q2, q3⟩ | ⟨hR, q1, q2, q3⟩
    all_goals
      have hR2 := hR.out
      subst hR2
      clear hR
      go_enter Tryz.func69, Tryz.ntmps69
      go_wp2_with fail
      go_ret
      exact ⟨rfl, Below.refl _ _⟩
  have g2 := (eq_no hk2).1
  by_cases hk3 : k = 3
  case neg =>
    have hR : R = false := by rw [HFO.out, if_neg hk1, if_neg hk2, if_neg hk3]
    have g3 := (eq_no hk3).1
    subst hR
    clear HFO hk1 hk2 hk3 KP KA
    go_enter Tryz.func69, Tryz.ntmps69
    go_wp2_with fail
    go_ret
    exact ⟨rfl, Below.refl _ _⟩
  have HF1 : Hid (R = (decide (c = 12) && (decide (F = 0) && CB))) := Lib.hid (by rw [HFO.out, if_neg hk1, if_neg hk2, if_pos hk3])
  subst hk3
  clear HFO hk1 hk2 KP g1 g2
  by_cases h1 : c = 12
  case neg =>
    have hR : R = false := by rw [HF1.out, decide_eq_false h1]; rfl
    have q1 := (eq_no h1).1
    subst hR
    clear HF1 h1 KA
    go_enter Tryz.func69, Tryz.ntmps69
    go_wp2_with fail
    go_ret
    exact ⟨rfl, Below.refl _ _⟩
  have q1 := (eq_yes h1).1
  by_cases h2 : F = 0
  case neg =>
    have hR : R = false := by rw [HF1.out, decide_eq_false h2]; simp
    have q2 : ((F : Int) == 0) = false := (eq_no (by omega)).1
    subst hR
    clear HF1 h1 h2 KA
    go_enter Tryz.func69, Tryz.ntmps69
    go_wp2_with fail
    go_ret
    exact ⟨rfl, Below.refl _ _⟩
  have q2 : ((F : Int) == 0) = true := (eq_yes (by omega)).1
  have hR := HF1.out
  rw [decide_eq_true h1, decide_eq_true h2, Bool.true_and, Bool.true_and] at hR
  subst hR
  clear HF1 h1 h2
  go_enter Tryz.func69, Tryz.ntmps69
  go_wp2_with fail
  refine KA.out.mono ?_
  rintro e w1 ⟨rfl, rfl⟩
  go_wp2_with fail
  go_ret
  exact ⟨rfl, Below.refl _ _⟩
set_option maxRecDepth 10000 in
set_option maxHeartbeats 16000000 in
theorem object_any {w : World} {sb ob oo : Nat} {s : St} {o : O} (nb : Int) (h : SAt w sb s) (hic : infosB s.classes = true) (ho : OAt 0 w ob oo o) (hsz : ∀ v, v ∈ o.fields → v.text.size ≤ 1048576) :
    Calls Tryz.prog 43 #[.pointer (some ⟨sb, 0, none⟩), .pointer (some ⟨ob, oo, none⟩), .int .i64 nb] w fun e w' => e = .returned (.bool (objB s.classes s.objects.length nb o)) ∧ Below w.heap.size w w' := by
  have KP := Lib.hid (form_any h hic ho)
  have HV : Hid (objB s.classes s.objects.length nb o = (formB s.classes o && o.fields.all (fitB s.classes.length s.objects.length nb))) := Lib.hid rfl
  have HS := Lib.hid h
  have HSZ := Lib.hid hsz
  obtain ⟨vf, vn, m0, m1, m2, m3, hf, hn, -, -⟩ := ho
  have HF := Lib.hid hf
  obtain ⟨fa, fc, rfl, hfm, -⟩ := hf
  unfold maxLen at hfm
  have KF := fun (w' : World) (hb : Below w.heap.size w w') (v : V) (hv : v ∈ o.fields) => Lib.hid (has_any v nb (HS.out.below hb) (hsz v hv))
  clear h hic hsz m0 m1 m3 hn
  generalize formB s.classes o = B0 at *
  generalize objB s.classes s.objects.length nb o = R at *
  generalize hN : o.fields.length = N at *
  have HNF := Lib.hid hN
  clear hN
  cases B0 with
  | false =>
    have hR : R = false := HV.out
    subst hR
    clear HV KF
    go_enter Tryz.func43, Tryz.ntmps43
    go_wp2_with fail
    refine KP.out.mono ?_
    rintro e w1 ⟨rfl, hb1⟩
    have H1 := Lib.hid hb1
    clear hb1 m2
    go_wp2_with fail
    go_ret
    exact ⟨rfl, H1.out⟩
  | true =>
  rw [Bool.true_and] at HV
  have M2 := Lib.hid m2
  clear m2
  go_enter Tryz.func43, Tryz.ntmps43
  go_wp2_with fail
  refine KP.out.mono ?_
  rintro e w1 ⟨rfl, hb1⟩
  have H1 := Lib.hid hb1
  have m2 := cell_keep hb1 M2.out
  clear hb1 KP
  go_wp2_with fail
  go_loopw [8, 18] (fun _ j wr => ∃ i : Nat, i ≤ N ∧ j = .int .i64 i ∧ Hid ((o.fields.take i).all (fitB s.classes.length s.objects.length nb) = true) ∧ Hid (Below w.heap.size w wr)) (fun _ j _ => N - (intOf j).toNat)
  case atStart => exact ⟨0, by omega, rfl, Lib.hid rfl, H1⟩
  case round =>
    obtain ⟨i, hi, rfl, HQ, HB⟩ := hrel
    clear m2
    by_cases hlt : i < N
    · have hil : i < o.fields.length := by rw [HNF.out]; exact hlt
      obtain ⟨v, hv⟩ : ∃ v, o.fields[i]? = some v := ⟨_, List.getElem?_eq_getElem hil⟩
      obtain ⟨fb, fo, rfl, -, d0, d1, d2, -⟩ := (HF.out.below HB.out).at hv
      have HNO : Hid (fitB s.classes.length s.objects.length nb v = false → R = false) := Lib.hid fun hh => by rw [HV.out, all_no hv hh]
      have HYES : Hid (fitB s.classes.length s.objects.length nb v = true → (o.fields.take (i + 1)).all (fitB s.classes.length s.objects.length nb) = true) := Lib.hid fun hh => all_take HQ.out hv hh
      obtain ⟨W, hW⟩ : ∃ W, W = wr.alloc (.cells #[.int .i64 v.kind, .int .i64 v.num, .string v.text] 37) := ⟨_, rfl⟩
      have X := vbox_new wr v 37
      rw [← hW] at X
      have HBW := Lib.hid (HB.out.trans (X.below.mono HB.out.size))
      have HX := Lib.hid X
      have K := KF W HBW.out v (List.mem_of_getElem? hv)
      have HWW := Lib.hid hW
      clear hv X
      generalize fitB s.classes.length s.objects.length nb v = B at *
      obtain ⟨vk, vm, vt⟩ := v
      simp only at d0 d1 d2 K hW HX
      have x0 := HX.out.a0; have x1 := HX.out.a1; have x2 := HX.out.a2
      simp only at x0 x1 x2
      have hiI : (i : Int) < (N : Int) := by omega
      clear hW
      cases B
      all_goals
        go_upto_region 6 with fail
        rw [← HWW.out]
        go_wp2_with fail
        refine K.out.mono ?_
        rintro e w2 ⟨rfl, hb2⟩
        have H2 := Lib.hid (HBW.out.trans (hb2.mono HBW.out.size)); clear hb2 d0 d1 d2 x0 x1 x2
        go_wp2_with fail
      · have hR := HNO.out (by trivial)
        subst hR
        go_ret
        exact ⟨rfl, H2.out⟩
      · have HNEW := Lib.hid (HYES.out (by trivial))
        go_roundw
        case rel => exact ⟨i + 1, by omega, by go_num, HNEW, H2⟩
        case measure => simp [intOf]; omega
    have hR : R = true := by rw [HV.out]; exact all_end HQ.out (by rw [HNF.out]; omega)
    subst hR
    clear HV
    go_wp2_with fail
    go_ret
    exact ⟨rfl, HB.out⟩
set_option maxRecDepth 10000 in
set_option maxHeartbeats 16000000 in
theorem right_any {w : World} {sb : Nat} {s : St} (nb : Int) (h : SAt w sb s) (hsz : ∀ o, o ∈ s.objects → ∀ v, v ∈ o.fields → v.text.size ≤ 1048576) :
    Calls Tryz.prog 20 #[.pointer (some ⟨sb, 0, none⟩), .int .i64 nb] w fun e w' => e = .returned (.bool (stoB s nb)) ∧ Below w.heap.size w w' := by
  have HS := Lib.hid h
  have HSZ := Lib.hid hsz
  have HV : Hid (stoB s nb = (infosB s.classes && (limB s && (s.output.all lineB && s.objects.all (objB s.classes s.objects.length nb))))) := Lib.hid rfl
  have KL := fun w' (hb : Below w.heap.size w w') => Lib.hid (limits_any (HS.out.below hb))
  obtain ⟨v0, v1, v2, c0, c1, c2, c3, c4, c5, h0, h1, h2⟩ := h
  have KC := Lib.hid (ImplCore.areclasses_any h0)
  obtain ⟨a0, p0, rfl, hm0, -⟩ := id h0
  clear c1 c2 c3 c4 c5 h0 h1 h2 hsz
  generalize hU : s.output.length = U at *
  have HUL := Lib.hid hU
  generalize hN : s.objects.length = N at *
  have HNL := Lib.hid hN
  generalize hA : infosB s.classes = A at *
  have HAE := Lib.hid hA
  clear hU hN hA
  generalize stoB s nb = R at *
  generalize limB s = LB at *
  generalize s.classes.length = C at *
  cases A with
  | false =>
    have hR : R = false := HV.out
    subst hR
    clear HV KL
    go_enter Tryz.func20, Tryz.ntmps20
    go_wp2_with fail
    refine KC.out.mono ?_
    rintro e w1 ⟨rfl, hb1⟩
    have H1 := Lib.hid hb1
    clear hb1 c0
    go_wp2_with fail
    go_ret
    exact ⟨rfl, H1.out⟩
  | true =>
  rw [Bool.true_and] at HV
  cases LB with
  | false =>
    have hR : R = false := HV.out
    subst hR
    clear HV
    go_enter Tryz.func20, Tryz.ntmps20
    go_wp2_with fail
    refine KC.out.mono ?_
    rintro e w1 ⟨rfl, hb1⟩
    have H1 := Lib.hid hb1
    clear hb1 c0
    go_wp2_with fail
    refine (KL _ H1.out).out.mono ?_
    rintro e w2 ⟨rfl, hb2⟩
    have H2 := Lib.hid (H1.out.trans (hb2.mono H1.out.size))
    clear hb2
    go_wp2_with fail
    go_ret
    exact ⟨rfl, H2.out⟩
  | true =>
  rw [Bool.true_and] at HV
  go_enter Tryz.func20, Tryz.ntmps20
  go_wp2_with fail
  refine KC.out.mono ?_
  rintro e w1 ⟨rfl, hb1⟩
  have H1 := Lib.hid hb1
  clear hb1 c0
  go_wp2_with fail
  refine (KL _ H1.out).out.mono ?_
  rintro e w2 ⟨rfl, hb2⟩
  have H2 := Lib.hid (H1.out.trans (hb2.mono H1.out.size))
  clear hb2 KC KL
  obtain ⟨x0, x1, x2, -, -, e2, -, -, -, -, -, g2⟩ := HS.out.below H2.out
  obtain ⟨ua, uc, rfl, hum, -, hcell⟩ := g2
  rw [HUL.out] at hum e2
  unfold maxLen at hum
  have HCELL : Hid (0 < U → ∃ ub uo, ua = some ⟨ub, uo, none⟩ ∧ ∀ j x, s.output[j]? = some x → w2.cell? ⟨ub, uo + j, none⟩ = some (.string x)) := Lib.hid fun hp => by
    obtain ⟨b, o, e, -, hd⟩ := hcell (by rw [HUL.out]; exact hp)
    refine ⟨b, o, e, fun j x hj => ?_⟩
    obtain ⟨hl, rfl⟩ := List.getElem?_eq_some_iff.1 hj
    exact hd j hl
  clear hcell
  go_wp2_with fail
  go_loopw [6, 24] (fun _ j wr => ∃ i : Nat, i ≤ U ∧ j = .int .i64 i ∧ Hid ((s.output.take i).all lineB = true) ∧ Hid (Below w2.heap.size w2 wr)) (fun _ j _ => U - (intOf j).toNat)
  case atStart => exact ⟨0, by omega, rfl, Lib.hid rfl, Lib.hid (Below.refl _ _)⟩
  case round =>
    obtain ⟨i, hi, rfl, HQ, HB⟩ := hrel
    clear e2
    by_cases hlt : i < U
    · obtain ⟨x, hx⟩ : ∃ x, s.output[i]? = some x := ⟨_, List.getElem?_eq_getElem (by rw [HUL.out]; exact hlt)⟩
      obtain ⟨ub, uo, rfl, hcd⟩ := HCELL.out (by omega)
      have e3 := cell_keep HB.out (hcd i x hx)
      have HNO : Hid (lineB x = false → R = false) := Lib.hid fun hh => by rw [HV.out, all_no hx hh, Bool.false_and]
      have HYES : Hid (lineB x = true → (s.output.take (i + 1)).all lineB = true) := Lib.hid fun hh => all_take HQ.out hx hh
      have KV := fun w' => Lib.hid (line_any x w')
      unfold ImplTok.Part at KV
      clear hcd hx
      have hiI : (i : Int) < (U : Int) := by omega
      generalize lineB x = B at *
      cases B
      all_goals
        go_wp2_with fail
        refine (KV _).out.mono ?_
        rintro e w3 ⟨rfl, hb3⟩
        have H3 := Lib.hid (HB.out.trans (hb3.mono HB.out.size)); clear hb3 e3
        go_wp2_with fail
      · have hR := HNO.out (by trivial)
        subst hR
        go_ret
        exact ⟨rfl, H2.out.trans (H3.out.mono H2.out.size)⟩
      · have HNEW := Lib.hid (HYES.out (by trivial))
        go_roundw
        case rel => exact ⟨i + 1, by omega, by go_num, HNEW, H3⟩
        case measure => simp [intOf]; omega
    have HV2 : Hid (R = s.objects.all (objB s.classes N nb)) := Lib.hid (by rw [HV.out, all_end HQ.out (by rw [HUL.out]; omega), Bool.true_and])
    have HB0 := Lib.hid (H2.out.trans (HB.out.mono H2.out.size))
    clear HV HQ HCELL
    obtain ⟨y0, y1, y2, -, d1, -, -, -, -, -, g1, -⟩ := HS.out.below HB0.out
    obtain ⟨oa, oc, rfl, hom, -⟩ := g1
    rw [HNL.out] at hom d1
    unfold maxLen at hom
    go_wp2_with fail
    go_loopw [7, 37] (fun _ j wq => ∃ q : Nat, q ≤ N ∧ j = .int .i64 q ∧ Hid ((s.objects.take q).all (objB s.classes N nb) = true) ∧ Hid (Below w.heap.size w wq)) (fun _ j _ => N - (intOf j).toNat)
    case atStart => exact ⟨0, by omega, rfl, Lib.hid rfl, HB0⟩
    case round =>
      obtain ⟨q, hq, rfl, HQ, HB⟩ := hrel
      clear d1 HB0
      have HSW := Lib.hid (HS.out.below HB.out)
      obtain ⟨x0, x1, x2, -, d1, -, -, -, -, -, g1, -⟩ := HSW.out
      have HG := Lib.hid g1
      obtain ⟨oa, oc, rfl, hom, -⟩ := g1
      rw [HNL.out] at hom d1
      unfold maxLen at hom
      by_cases hlt : q < N
      · have hql : q < s.objects.length := by rw [HNL.out]; exact hlt
        obtain ⟨o, ho⟩ : ∃ o, s.objects[q]? = some o := ⟨_, List.getElem?_eq_getElem hql⟩
        obtain ⟨ob, oo, rfl, -, hoa⟩ := HG.out.at ho
        have K := Lib.hid (object_any nb HSW.out HAE.out hoa (HSZ.out o (List.mem_of_getElem? ho)))
        rw [HNL.out] at K
        have HNO : Hid (objB s.classes N nb o = false → R = false) := Lib.hid fun hh => by rw [HV2.out, all_no ho hh]
        have HYES : Hid (objB s.classes N nb o = true → (s.objects.take (q + 1)).all (objB s.classes N nb) = true) := Lib.hid fun hh => all_take HQ.out ho hh
        clear ho hoa
        have hqI : (q : Int) < (N : Int) := by omega
        generalize objB s.classes N nb o = B at *
        cases B
        all_goals
          go_wp2_with fail
          refine K.out.mono ?_
          rintro e w3 ⟨rfl, hb3⟩
          have H3 := Lib.hid (HB.out.trans (hb3.mono HB.out.size)); clear hb3 d1
          go_wp2_with fail
        · have hR := HNO.out (by trivial)
          subst hR
          go_ret
          exact ⟨rfl, H3.out⟩
        · have HNEW := Lib.hid (HYES.out (by trivial))
          go_roundw
          case rel => exact ⟨q + 1, by omega, by go_num, HNEW, H3⟩
          case measure => simp [intOf]; omega
      have hR : R = true := by rw [HV2.out]; exact all_end HQ.out (by rw [HNL.out]; omega)
      subst hR
      clear HV2
      go_wp2_with fail
      go_ret
      exact ⟨rfl, HB.out⟩
end Go.Proofs.YtoaocpfehdcfgaaGreatDoor.ImplSto

namespace Go.Proofs.YtoaocpfehdcfgaaGreatDoor.ImplSto
open Go.RowKit
open Strs Tree Core Sto Go.Proofs.YtoaocpfehdcfgaaGreatDoor.Data
set_option linter.unusedVariables false
set_option linter.unusedSimpArgs false
set_option maxRecDepth 10000 in
set_option maxHeartbeats 8000000 in
theorem class_any {w : World} {sb : Nat} {s : St} {nb : Int} (v : V) (h : SAt w sb s) (hf : fitB s.classes.length s.objects.length nb v = true) :
    Calls Tryz.prog 51 #[.pointer (some ⟨sb, 0, none⟩), .agg #[.int .i64 v.kind, .int .i64 v.num, .string v.text]] w fun e w' => e = .returned (.int .i64 (clsOf s v)) ∧ Below w.heap.size w w' := by
  have hv : valB v = true := by unfold fitB at hf; rw [Bool.and_eq_true] at hf; exact hf.1
  have HX := Lib.hid (vbox_new w v 37)
  rcases val_kind hv with hk | hk | hk | hk | hk | hk | hk | hk
  case inr.inr.inr.inr.inr.inr.inl =>
    obtain ⟨hn0, hn1⟩ := fit_ref hf hk
    obtain ⟨n, hn⟩ : ∃ n : Nat, v.num = (n : Int) := ⟨v.num.toNat, by omega⟩
    have hnl : n < s.objects.length := by omega
    obtain ⟨o, ho⟩ : ∃ o, s.objects[n]? = some o := ⟨_, List.getElem?_eq_getElem hnl⟩
    have hR : clsOf s v = o.cls := by
      unfold clsOf
      rw [hk, hn, Int.toNat_natCast, ho]
      rfl
    rw [hR]
    obtain ⟨v0, v1, v2, c0, c1, c2, -, -, -, -, h1, -⟩ := h.below HX.out.below
    obtain ⟨oa, oc, rfl, hom, -⟩ := id h1
    obtain ⟨ob, oo, rfl, -, vf, vn, y0, y1, -⟩ := h1.at ho
    unfold maxLen at hom
    obtain ⟨k, m, t⟩ := v
    simp only at hk hn HX ⊢
    subst hk hn
    clear h h1 hf hv ho hR c0 c2 y0
    generalize s.objects.length = N at *
    generalize o.cls = c at *
    have m0 := HX.out.a0; have m1 := HX.out.a1
    go_enter Tryz.func51, Tryz.ntmps51
    go_wp2_with fail
    go_quiet (fail)
    go_wp2_with fail
    go_ret
    exact ⟨rfl, below_drewN HX.out.below _⟩
  all_goals
    obtain ⟨k, m, t⟩ := v
    simp only at hk HX ⊢
    subst hk
    clear h hf hv
    go_enter Tryz.func51, Tryz.ntmps51
    go_wp2_with fail
    go_ret
    exact ⟨rfl, HX.out.below⟩
end Go.Proofs.YtoaocpfehdcfgaaGreatDoor.ImplSto
