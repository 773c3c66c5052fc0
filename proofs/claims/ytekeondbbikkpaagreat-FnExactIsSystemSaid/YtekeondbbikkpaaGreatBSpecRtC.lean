/-
  spec.l8Right at kinds 8, 9 and 21. Written by wip/tools/gen_l8rightc.py.
-/
import Derived.Test.YtekeondbbikkpaaGreatBSpecRtB
namespace Go.Proofs.YtekeondbbikkpaaGreat.SpecCore
open Go.RowKit
open Strs Tree Core Ints
set_option linter.unusedVariables false
theorem lvl_none {L : Lv} {d : Int} (h : ¬ (0 ≤ d ∧ d ≤ (L.length : Int) - 1)) : lvl L d = none := by
  unfold lvl; rw [if_neg]; omega
theorem lvl_some {L : Lv} {dn j : Nat} {p s : Int} (hj : (L.length : Int) - 1 - (dn : Int) = (j : Int)) (h : L[j]? = some (p, s)) : lvl L (dn : Int) = some (p, s) := by
  unfold lvl
  have : dn < L.length := by omega
  rw [if_pos (by omega)]
  rw [show L.length - 1 - ((dn : Int)).toNat = j by omega]
  exact h
theorem slot_some {L : Lv} {d n p s : Int} (h : lvl L d = some (p, s)) : slotB L d n = decide (0 ≤ n ∧ n ≤ s - 1) := by
  unfold slotB; rw [h]; rw [Bool.eq_iff_iff]; simp only [Bool.and_eq_true, decide_eq_true_eq]; omega
theorem var_some {L : Lv} {d n p s : Int} (h : lvl L d = some (p, s)) : varB L d n = (decide (0 ≤ n ∧ n ≤ s - 1) && decide (p ≤ n)) := by
  unfold varB; rw [h]; rw [Bool.eq_iff_iff]; simp only [Bool.and_eq_true, decide_eq_true_eq]; omega
theorem slot_none {L : Lv} {d n : Int} (h : lvl L d = none) : slotB L d n = false := by unfold slotB; rw [h]
theorem var_none {L : Lv} {d n : Int} (h : lvl L d = none) : varB L d n = false := by unfold varB; rw [h]
theorem var_last {L : Lv} {n p s : Int} {j : Nat} (hj : (L.length : Int) - 1 = (j : Int)) (h : L[j]? = some (p, s)) (hp : 0 ≤ p) : varB L 0 n = decide (p ≤ n ∧ n ≤ s - 1) := by
  rw [show (0 : Int) = ((0 : Nat) : Int) from rfl, var_some (lvl_some (dn := 0) (by omega) h)]
  rw [Bool.eq_iff_iff]; simp only [Bool.and_eq_true, decide_eq_true_eq]; omega
set_option maxRecDepth 10000 in
set_option maxHeartbeats 16000000 in
theorem r8 (C : Nat) (L : Lv) (t : ByteArray) (n d : Int) (ks : List K) (w : World) (vs vp : Value) (a : Option Addr) (N cap : Nat) (hN : ks.length = N) (hm : N ≤ cap ∧ cap ≤ 9223372036854775807) (hS : NAt w vs (L.map (·.2))) (hP : NAt w vp (L.map (·.1))) (hL : LOk L) (hln : L.length ≤ 4194304)
    (KK : ∀ (w' : World) (n' d' : Int) (N' : Nat), n' = n → d' = d → N' = N → Below w.heap.size w w' → Hid (Calls Tryz.prog 60 #[.agg #[.int .i64 8, .string t, .int .i64 n', .int .i64 d', .slice a N' cap], .int .i64 C, vs, vp] w' fun r w'' => r = .returned (.bool (krights C L ks)) ∧ Below w'.heap.size w' w'')) :
    Calls Tryz.prog 35 #[.agg #[.int .i64 8, .string t, .int .i64 n, .int .i64 d, .slice a N cap], .int .i64 C, vs, vp] w fun r w' => r = .returned (.bool (kright C L (.mk 8 t n d ks))) ∧ Below w.heap.size w w' := by
  have HV : Hid (kright C L (.mk 8 t n d ks) = (ownB C L 8 t n d N && krights C L ks)) := Lib.hid (by rw [kright_mk, hN]; rfl)
  generalize kright C L (.mk 8 t n d ks) = R at *
  generalize krights C L ks = Q at *
  clear hN
  obtain ⟨sa, sc, rfl, hsm, hsc⟩ := hS
  obtain ⟨pa, pc, rfl, hpm, hpc⟩ := hP
  simp only [List.length_map] at hsm hsc hpm hpc KK ⊢
  have HSC := Lib.hid hsc; clear hsc
  have HPC := Lib.hid hpc; clear hpc
  have HL := Lib.hid hL.q
  have hpos := hL.pos
  clear hL
  unfold maxLen at hsm hpm
  have HA := Lib.hid (arg5_new w 8 t n d (.slice a N cap) 37)
  have HOW := Lib.hid (own_8 C L t n d N)
  generalize ownB C L 8 t n d N = O at *
  by_cases hdd : 0 ≤ d ∧ d ≤ (L.length : Int) - 1
  case neg =>
    have KI := fun w1 => Lib.hid (SpecTree.in_any d 0 ((L.length : Int) - 1) w1)
    rw [decide_eq_false hdd] at KI
    have HO : Hid (O = false) := Lib.hid (by rw [HOW.out, slot_none (lvl_none hdd)]; simp)
    clear HOW hdd HSC HPC HL
    generalize L.length = Ln at *
    go_enter Tryz.func35, Tryz.ntmps35
    go_wp2_with fail
    go_quiet (fail)
    have AR := Lib.hid (HA.out.step (draws_low _ nq))
    obtain ⟨wq, hwq⟩ : ∃ x, x = (w.alloc (Obj.cells #[Value.int IntKind.i64 8, Value.string t, Value.int IntKind.i64 n, Value.int IntKind.i64 d, .slice a N cap] 37)).drewN nq := ⟨_, rfl⟩
    rw [← hwq] at AR ⊢
    clear hwq
    have a0 := AR.out.a0; have a1 := AR.out.a1; have a2 := AR.out.a2; have a3 := AR.out.a3; have a4 := AR.out.a4
    go_wp2_with fail
    refine (KI _).out.mono ?_
    rintro e w1 ⟨rfl, rfl⟩
    go_wp2_with fail
    go_quiet (fail)
    replace AR := Lib.hid (AR.out.step (draws_low _ nq))
    clear a0 a1 a2 a3 a4
    generalize World.drewN wq nq = wr at *
    have a0 := AR.out.a0; have a1 := AR.out.a1; have a2 := AR.out.a2; have a3 := AR.out.a3; have a4 := AR.out.a4
    go_wp2_with fail
    all_goals first
      | (go_ret; exact ⟨by rw [show R = false by rw [HV.out, HO.out]; simp [*]; try (intros; exfalso; omega)]; rfl, AR.out.below⟩)
      | (refine (KK _ _ _ _ ?_ ?_ ?_ AR.out.below).out.mono ?_; (any_goals omega); rintro e w9 ⟨rfl, hb9⟩; have H9 := Lib.hid (AR.out.below.trans (hb9.mono AR.out.below.size)); clear hb9; go_wp2_with fail; go_ret; exact ⟨by rw [show R = Q by rw [HV.out, HO.out]; simp [*]; try (intros; exfalso; omega)]; rfl, H9.out⟩)
  obtain ⟨dn, rfl⟩ : ∃ dn : Nat, d = (dn : Int) := ⟨d.toNat, by omega⟩
  have KI := fun w1 => Lib.hid (SpecTree.in_any (dn : Int) 0 ((L.length : Int) - 1) w1)
  rw [decide_eq_true hdd] at KI
  obtain ⟨j, hj⟩ : ∃ j : Nat, (L.length : Int) - 1 - (dn : Int) = (j : Int) := ⟨L.length - 1 - dn, by omega⟩
  have hjl : j < L.length := by omega
  obtain ⟨⟨p, s⟩, hq⟩ : ∃ q, L[j]? = some q := ⟨_, List.getElem?_eq_getElem hjl⟩
  have hps := HL.out _ (List.mem_of_getElem? hq)
  simp only at hps
  obtain ⟨sb, so, rfl, hsd⟩ := HSC.out (by omega)
  obtain ⟨pb, po, rfl, hpd⟩ := HPC.out (by omega)
  have hcs := hsd j s (by rw [List.getElem?_map, hq]; rfl)
  have hcp := hpd j p (by rw [List.getElem?_map, hq]; rfl)
  clear hsd hpd
  have HO1 : Hid (O = (decide (t.toList = []) && (decide ((N : Int) = 0) && decide (0 ≤ n ∧ n ≤ s - 1)))) := Lib.hid (by rw [HOW.out, slot_some (lvl_some hj hq)])
  have KJ := fun w1 => Lib.hid (SpecTree.in_any n 0 (s - 1) w1)
  clear HOW HL hq HSC HPC
  generalize L.length = Ln at *
  by_cases hn1 : 0 ≤ n ∧ n ≤ s - 1
  case neg =>
    rw [decide_eq_false hn1] at KJ HO1
    clear hn1
    have HO : Hid (O = false) := Lib.hid (by rw [HO1.out]; simp [*]; try (intros; omega))
    clear HO1
    go_enter Tryz.func35, Tryz.ntmps35
    go_wp2_with fail
    go_quiet (fail)
    have AR := Lib.hid (HA.out.step (draws_low _ nq))
    obtain ⟨wq, hwq⟩ : ∃ x, x = (w.alloc (Obj.cells #[Value.int IntKind.i64 8, Value.string t, Value.int IntKind.i64 n, Value.int IntKind.i64 (dn : Int), .slice a N cap] 37)).drewN nq := ⟨_, rfl⟩
    rw [← hwq] at AR ⊢
    clear hwq
    have a0 := AR.out.a0; have a1 := AR.out.a1; have a2 := AR.out.a2; have a3 := AR.out.a3; have a4 := AR.out.a4
    have e1 := cell_keep AR.out.below hcs; have e2 := cell_keep AR.out.below hcp
    clear hcs hcp
    go_wp2_with fail
    refine (KI _).out.mono ?_
    rintro e w1 ⟨rfl, rfl⟩
    go_wp2_with fail
    go_quiet ((go_at_call 16; exact Calls.quiet_of_same ((KJ _).out.mono fun _ _ h => ⟨h.1, h.2.symm⟩)))
    replace AR := Lib.hid (AR.out.step (draws_low _ nq))
    clear a0 a1 a2 a3 a4 e1 e2
    generalize World.drewN wq nq = wr at *
    have a0 := AR.out.a0; have a1 := AR.out.a1; have a2 := AR.out.a2; have a3 := AR.out.a3; have a4 := AR.out.a4
    go_wp2_with fail
    all_goals first
      | (go_ret; exact ⟨by rw [show R = false by rw [HV.out, HO.out]; simp [*]; try (intros; exfalso; omega)]; rfl, AR.out.below⟩)
      | (refine (KK _ _ _ _ ?_ ?_ ?_ AR.out.below).out.mono ?_; (any_goals omega); rintro e w9 ⟨rfl, hb9⟩; have H9 := Lib.hid (AR.out.below.trans (hb9.mono AR.out.below.size)); clear hb9; go_wp2_with fail; go_ret; exact ⟨by rw [show R = Q by rw [HV.out, HO.out]; simp [*]; try (intros; exfalso; omega)]; rfl, H9.out⟩)
  rw [decide_eq_true hn1] at KJ HO1
  by_cases hn2 : (N : Int) = 0
  case neg =>
    have b2 : ((N : Int) == 0) = false := by rw [beq_eq_false_iff_ne]; exact hn2
    have HO : Hid (O = false) := Lib.hid (by rw [HO1.out]; simp [*]; try (intros; omega))
    clear HO1
    go_enter Tryz.func35, Tryz.ntmps35
    go_wp2_with fail
    go_quiet (fail)
    have AR := Lib.hid (HA.out.step (draws_low _ nq))
    obtain ⟨wq, hwq⟩ : ∃ x, x = (w.alloc (Obj.cells #[Value.int IntKind.i64 8, Value.string t, Value.int IntKind.i64 n, Value.int IntKind.i64 (dn : Int), .slice a N cap] 37)).drewN nq := ⟨_, rfl⟩
    rw [← hwq] at AR ⊢
    clear hwq
    have a0 := AR.out.a0; have a1 := AR.out.a1; have a2 := AR.out.a2; have a3 := AR.out.a3; have a4 := AR.out.a4
    have e1 := cell_keep AR.out.below hcs; have e2 := cell_keep AR.out.below hcp
    clear hcs hcp
    go_wp2_with fail
    refine (KI _).out.mono ?_
    rintro e w1 ⟨rfl, rfl⟩
    go_wp2_with fail
    go_quiet ((go_at_call 16; exact Calls.quiet_of_same ((KJ _).out.mono fun _ _ h => ⟨h.1, h.2.symm⟩)))
    replace AR := Lib.hid (AR.out.step (draws_low _ nq))
    clear a0 a1 a2 a3 a4 e1 e2
    generalize World.drewN wq nq = wr at *
    have a0 := AR.out.a0; have a1 := AR.out.a1; have a2 := AR.out.a2; have a3 := AR.out.a3; have a4 := AR.out.a4
    go_wp2_with fail
    all_goals first
      | (go_ret; exact ⟨by rw [show R = false by rw [HV.out, HO.out]; simp [*]; try (intros; exfalso; omega)]; rfl, AR.out.below⟩)
      | (refine (KK _ _ _ _ ?_ ?_ ?_ AR.out.below).out.mono ?_; (any_goals omega); rintro e w9 ⟨rfl, hb9⟩; have H9 := Lib.hid (AR.out.below.trans (hb9.mono AR.out.below.size)); clear hb9; go_wp2_with fail; go_ret; exact ⟨by rw [show R = Q by rw [HV.out, HO.out]; simp [*]; try (intros; exfalso; omega)]; rfl, H9.out⟩)
  have b2 : ((N : Int) == 0) = true := by rw [beq_iff_eq]; exact hn2
  have HO : Hid (O = decide (t.toList = [])) := Lib.hid (by rw [HO1.out]; simp [*]; try (intros; omega))
  clear HO1
  go_enter Tryz.func35, Tryz.ntmps35
  go_wp2_with fail
  go_quiet (fail)
  have AR := Lib.hid (HA.out.step (draws_low _ nq))
  obtain ⟨wq, hwq⟩ : ∃ x, x = (w.alloc (Obj.cells #[Value.int IntKind.i64 8, Value.string t, Value.int IntKind.i64 n, Value.int IntKind.i64 (dn : Int), .slice a N cap] 37)).drewN nq := ⟨_, rfl⟩
  rw [← hwq] at AR ⊢
  clear hwq
  have a0 := AR.out.a0; have a1 := AR.out.a1; have a2 := AR.out.a2; have a3 := AR.out.a3; have a4 := AR.out.a4
  have e1 := cell_keep AR.out.below hcs; have e2 := cell_keep AR.out.below hcp
  clear hcs hcp
  go_wp2_with fail
  refine (KI _).out.mono ?_
  rintro e w1 ⟨rfl, rfl⟩
  go_wp2_with fail
  go_quiet ((go_at_call 16; exact Calls.quiet_of_same ((KJ _).out.mono fun _ _ h => ⟨h.1, h.2.symm⟩)))
  replace AR := Lib.hid (AR.out.step (draws_low _ nq))
  clear a0 a1 a2 a3 a4 e1 e2
  generalize World.drewN wq nq = wr at *
  have a0 := AR.out.a0; have a1 := AR.out.a1; have a2 := AR.out.a2; have a3 := AR.out.a3; have a4 := AR.out.a4
  go_wp2_with fail
  all_goals first
    | (go_ret; exact ⟨by rw [show R = false by rw [HV.out, HO.out]; simp [*]; try (intros; exfalso; omega)]; rfl, AR.out.below⟩)
    | (refine (KK _ _ _ _ ?_ ?_ ?_ AR.out.below).out.mono ?_; (any_goals omega); rintro e w9 ⟨rfl, hb9⟩; have H9 := Lib.hid (AR.out.below.trans (hb9.mono AR.out.below.size)); clear hb9; go_wp2_with fail; go_ret; exact ⟨by rw [show R = Q by rw [HV.out, HO.out]; simp [*]; try (intros; exfalso; omega)]; rfl, H9.out⟩)
set_option maxRecDepth 10000 in
set_option maxHeartbeats 16000000 in
theorem r9 (C : Nat) (L : Lv) (t : ByteArray) (n d : Int) (ks : List K) (w : World) (vs vp : Value) (a : Option Addr) (N cap : Nat) (hN : ks.length = N) (hm : N ≤ cap ∧ cap ≤ 9223372036854775807) (hS : NAt w vs (L.map (·.2))) (hP : NAt w vp (L.map (·.1))) (hL : LOk L) (hln : L.length ≤ 4194304)
    (KK : ∀ (w' : World) (n' d' : Int) (N' : Nat), n' = n → d' = d → N' = N → Below w.heap.size w w' → Hid (Calls Tryz.prog 60 #[.agg #[.int .i64 9, .string t, .int .i64 n', .int .i64 d', .slice a N' cap], .int .i64 C, vs, vp] w' fun r w'' => r = .returned (.bool (krights C L ks)) ∧ Below w'.heap.size w' w'')) :
    Calls Tryz.prog 35 #[.agg #[.int .i64 9, .string t, .int .i64 n, .int .i64 d, .slice a N cap], .int .i64 C, vs, vp] w fun r w' => r = .returned (.bool (kright C L (.mk 9 t n d ks))) ∧ Below w.heap.size w w' := by
  have HV : Hid (kright C L (.mk 9 t n d ks) = (ownB C L 9 t n d N && krights C L ks)) := Lib.hid (by rw [kright_mk, hN]; rfl)
  generalize kright C L (.mk 9 t n d ks) = R at *
  generalize krights C L ks = Q at *
  clear hN
  obtain ⟨sa, sc, rfl, hsm, hsc⟩ := hS
  obtain ⟨pa, pc, rfl, hpm, hpc⟩ := hP
  simp only [List.length_map] at hsm hsc hpm hpc KK ⊢
  have HSC := Lib.hid hsc; clear hsc
  have HPC := Lib.hid hpc; clear hpc
  have HL := Lib.hid hL.q
  have hpos := hL.pos
  clear hL
  unfold maxLen at hsm hpm
  have HA := Lib.hid (arg5_new w 9 t n d (.slice a N cap) 37)
  have HOW := Lib.hid (own_9 C L t n d N)
  generalize ownB C L 9 t n d N = O at *
  by_cases hdd : 0 ≤ d ∧ d ≤ (L.length : Int) - 1
  case neg =>
    have KI := fun w1 => Lib.hid (SpecTree.in_any d 0 ((L.length : Int) - 1) w1)
    rw [decide_eq_false hdd] at KI
    have HO : Hid (O = false) := Lib.hid (by rw [HOW.out, var_none (lvl_none hdd)]; simp)
    clear HOW hdd HSC HPC HL
    generalize L.length = Ln at *
    go_enter Tryz.func35, Tryz.ntmps35
    go_wp2_with fail
    go_quiet (fail)
    have AR := Lib.hid (HA.out.step (draws_low _ nq))
    obtain ⟨wq, hwq⟩ : ∃ x, x = (w.alloc (Obj.cells #[Value.int IntKind.i64 9, Value.string t, Value.int IntKind.i64 n, Value.int IntKind.i64 d, .slice a N cap] 37)).drewN nq := ⟨_, rfl⟩
    rw [← hwq] at AR ⊢
    clear hwq
    have a0 := AR.out.a0; have a1 := AR.out.a1; have a2 := AR.out.a2; have a3 := AR.out.a3; have a4 := AR.out.a4
    go_wp2_with fail
    refine (KI _).out.mono ?_
    rintro e w1 ⟨rfl, rfl⟩
    go_wp2_with fail
    go_quiet (fail)
    replace AR := Lib.hid (AR.out.step (draws_low _ nq))
    clear a0 a1 a2 a3 a4
    generalize World.drewN wq nq = wr at *
    have a0 := AR.out.a0; have a1 := AR.out.a1; have a2 := AR.out.a2; have a3 := AR.out.a3; have a4 := AR.out.a4
    go_wp2_with fail
    all_goals first
      | (go_ret; exact ⟨by rw [show R = false by rw [HV.out, HO.out]; simp [*]; try (intros; exfalso; omega)]; rfl, AR.out.below⟩)
      | (refine (KK _ _ _ _ ?_ ?_ ?_ AR.out.below).out.mono ?_; (any_goals omega); rintro e w9 ⟨rfl, hb9⟩; have H9 := Lib.hid (AR.out.below.trans (hb9.mono AR.out.below.size)); clear hb9; go_wp2_with fail; go_ret; exact ⟨by rw [show R = Q by rw [HV.out, HO.out]; simp [*]; try (intros; exfalso; omega)]; rfl, H9.out⟩)
  obtain ⟨dn, rfl⟩ : ∃ dn : Nat, d = (dn : Int) := ⟨d.toNat, by omega⟩
  have KI := fun w1 => Lib.hid (SpecTree.in_any (dn : Int) 0 ((L.length : Int) - 1) w1)
  rw [decide_eq_true hdd] at KI
  obtain ⟨j, hj⟩ : ∃ j : Nat, (L.length : Int) - 1 - (dn : Int) = (j : Int) := ⟨L.length - 1 - dn, by omega⟩
  have hjl : j < L.length := by omega
  obtain ⟨⟨p, s⟩, hq⟩ : ∃ q, L[j]? = some q := ⟨_, List.getElem?_eq_getElem hjl⟩
  have hps := HL.out _ (List.mem_of_getElem? hq)
  simp only at hps
  obtain ⟨sb, so, rfl, hsd⟩ := HSC.out (by omega)
  obtain ⟨pb, po, rfl, hpd⟩ := HPC.out (by omega)
  have hcs := hsd j s (by rw [List.getElem?_map, hq]; rfl)
  have hcp := hpd j p (by rw [List.getElem?_map, hq]; rfl)
  clear hsd hpd
  have HO1 : Hid (O = (decide (t.toList = []) && (decide ((N : Int) = 1) && (decide (0 ≤ n ∧ n ≤ s - 1) && decide (p ≤ n))))) := Lib.hid (by rw [HOW.out, var_some (lvl_some hj hq)])
  have KJ := fun w1 => Lib.hid (SpecTree.in_any n 0 (s - 1) w1)
  clear HOW HL hq HSC HPC
  generalize L.length = Ln at *
  by_cases hn1 : 0 ≤ n ∧ n ≤ s - 1
  case neg =>
    rw [decide_eq_false hn1] at KJ HO1
    clear hn1
    have HO : Hid (O = false) := Lib.hid (by rw [HO1.out]; simp [*]; try (intros; omega))
    clear HO1
    go_enter Tryz.func35, Tryz.ntmps35
    go_wp2_with fail
    go_quiet (fail)
    have AR := Lib.hid (HA.out.step (draws_low _ nq))
    obtain ⟨wq, hwq⟩ : ∃ x, x = (w.alloc (Obj.cells #[Value.int IntKind.i64 9, Value.string t, Value.int IntKind.i64 n, Value.int IntKind.i64 (dn : Int), .slice a N cap] 37)).drewN nq := ⟨_, rfl⟩
    rw [← hwq] at AR ⊢
    clear hwq
    have a0 := AR.out.a0; have a1 := AR.out.a1; have a2 := AR.out.a2; have a3 := AR.out.a3; have a4 := AR.out.a4
    have e1 := cell_keep AR.out.below hcs; have e2 := cell_keep AR.out.below hcp
    clear hcs hcp
    go_wp2_with fail
    refine (KI _).out.mono ?_
    rintro e w1 ⟨rfl, rfl⟩
    go_wp2_with fail
    go_quiet ((go_at_call 16; exact Calls.quiet_of_same ((KJ _).out.mono fun _ _ h => ⟨h.1, h.2.symm⟩)))
    replace AR := Lib.hid (AR.out.step (draws_low _ nq))
    clear a0 a1 a2 a3 a4 e1 e2
    generalize World.drewN wq nq = wr at *
    have a0 := AR.out.a0; have a1 := AR.out.a1; have a2 := AR.out.a2; have a3 := AR.out.a3; have a4 := AR.out.a4
    go_wp2_with fail
    all_goals first
      | (go_ret; exact ⟨by rw [show R = false by rw [HV.out, HO.out]; simp [*]; try (intros; exfalso; omega)]; rfl, AR.out.below⟩)
      | (refine (KK _ _ _ _ ?_ ?_ ?_ AR.out.below).out.mono ?_; (any_goals omega); rintro e w9 ⟨rfl, hb9⟩; have H9 := Lib.hid (AR.out.below.trans (hb9.mono AR.out.below.size)); clear hb9; go_wp2_with fail; go_ret; exact ⟨by rw [show R = Q by rw [HV.out, HO.out]; simp [*]; try (intros; exfalso; omega)]; rfl, H9.out⟩)
  rw [decide_eq_true hn1] at KJ HO1
  by_cases hn2 : (N : Int) = 1
  case neg =>
    have b2 : ((N : Int) == 1) = false := by rw [beq_eq_false_iff_ne]; exact hn2
    have HO : Hid (O = false) := Lib.hid (by rw [HO1.out]; simp [*]; try (intros; omega))
    clear HO1
    go_enter Tryz.func35, Tryz.ntmps35
    go_wp2_with fail
    go_quiet (fail)
    have AR := Lib.hid (HA.out.step (draws_low _ nq))
    obtain ⟨wq, hwq⟩ : ∃ x, x = (w.alloc (Obj.cells #[Value.int IntKind.i64 9, Value.string t, Value.int IntKind.i64 n, Value.int IntKind.i64 (dn : Int), .slice a N cap] 37)).drewN nq := ⟨_, rfl⟩
    rw [← hwq] at AR ⊢
    clear hwq
    have a0 := AR.out.a0; have a1 := AR.out.a1; have a2 := AR.out.a2; have a3 := AR.out.a3; have a4 := AR.out.a4
    have e1 := cell_keep AR.out.below hcs; have e2 := cell_keep AR.out.below hcp
    clear hcs hcp
    go_wp2_with fail
    refine (KI _).out.mono ?_
    rintro e w1 ⟨rfl, rfl⟩
    go_wp2_with fail
    go_quiet ((go_at_call 16; exact Calls.quiet_of_same ((KJ _).out.mono fun _ _ h => ⟨h.1, h.2.symm⟩)))
    replace AR := Lib.hid (AR.out.step (draws_low _ nq))
    clear a0 a1 a2 a3 a4 e1 e2
    generalize World.drewN wq nq = wr at *
    have a0 := AR.out.a0; have a1 := AR.out.a1; have a2 := AR.out.a2; have a3 := AR.out.a3; have a4 := AR.out.a4
    go_wp2_with fail
    all_goals first
      | (go_ret; exact ⟨by rw [show R = false by rw [HV.out, HO.out]; simp [*]; try (intros; exfalso; omega)]; rfl, AR.out.below⟩)
      | (refine (KK _ _ _ _ ?_ ?_ ?_ AR.out.below).out.mono ?_; (any_goals omega); rintro e w9 ⟨rfl, hb9⟩; have H9 := Lib.hid (AR.out.below.trans (hb9.mono AR.out.below.size)); clear hb9; go_wp2_with fail; go_ret; exact ⟨by rw [show R = Q by rw [HV.out, HO.out]; simp [*]; try (intros; exfalso; omega)]; rfl, H9.out⟩)
  have b2 : ((N : Int) == 1) = true := by rw [beq_iff_eq]; exact hn2
  by_cases hn3 : p ≤ n
  case neg =>
    have HO : Hid (O = false) := Lib.hid (by rw [HO1.out]; simp [*]; try (intros; omega))
    clear HO1
    go_enter Tryz.func35, Tryz.ntmps35
    go_wp2_with fail
    go_quiet (fail)
    have AR := Lib.hid (HA.out.step (draws_low _ nq))
    obtain ⟨wq, hwq⟩ : ∃ x, x = (w.alloc (Obj.cells #[Value.int IntKind.i64 9, Value.string t, Value.int IntKind.i64 n, Value.int IntKind.i64 (dn : Int), .slice a N cap] 37)).drewN nq := ⟨_, rfl⟩
    rw [← hwq] at AR ⊢
    clear hwq
    have a0 := AR.out.a0; have a1 := AR.out.a1; have a2 := AR.out.a2; have a3 := AR.out.a3; have a4 := AR.out.a4
    have e1 := cell_keep AR.out.below hcs; have e2 := cell_keep AR.out.below hcp
    clear hcs hcp
    go_wp2_with fail
    refine (KI _).out.mono ?_
    rintro e w1 ⟨rfl, rfl⟩
    go_wp2_with fail
    go_quiet ((go_at_call 16; exact Calls.quiet_of_same ((KJ _).out.mono fun _ _ h => ⟨h.1, h.2.symm⟩)))
    replace AR := Lib.hid (AR.out.step (draws_low _ nq))
    clear a0 a1 a2 a3 a4 e1 e2
    generalize World.drewN wq nq = wr at *
    have a0 := AR.out.a0; have a1 := AR.out.a1; have a2 := AR.out.a2; have a3 := AR.out.a3; have a4 := AR.out.a4
    go_wp2_with fail
    all_goals first
      | (go_ret; exact ⟨by rw [show R = false by rw [HV.out, HO.out]; simp [*]; try (intros; exfalso; omega)]; rfl, AR.out.below⟩)
      | (refine (KK _ _ _ _ ?_ ?_ ?_ AR.out.below).out.mono ?_; (any_goals omega); rintro e w9 ⟨rfl, hb9⟩; have H9 := Lib.hid (AR.out.below.trans (hb9.mono AR.out.below.size)); clear hb9; go_wp2_with fail; go_ret; exact ⟨by rw [show R = Q by rw [HV.out, HO.out]; simp [*]; try (intros; exfalso; omega)]; rfl, H9.out⟩)
  have HO : Hid (O = decide (t.toList = [])) := Lib.hid (by rw [HO1.out]; simp [*]; try (intros; omega))
  clear HO1
  go_enter Tryz.func35, Tryz.ntmps35
  go_wp2_with fail
  go_quiet (fail)
  have AR := Lib.hid (HA.out.step (draws_low _ nq))
  obtain ⟨wq, hwq⟩ : ∃ x, x = (w.alloc (Obj.cells #[Value.int IntKind.i64 9, Value.string t, Value.int IntKind.i64 n, Value.int IntKind.i64 (dn : Int), .slice a N cap] 37)).drewN nq := ⟨_, rfl⟩
  rw [← hwq] at AR ⊢
  clear hwq
  have a0 := AR.out.a0; have a1 := AR.out.a1; have a2 := AR.out.a2; have a3 := AR.out.a3; have a4 := AR.out.a4
  have e1 := cell_keep AR.out.below hcs; have e2 := cell_keep AR.out.below hcp
  clear hcs hcp
  go_wp2_with fail
  refine (KI _).out.mono ?_
  rintro e w1 ⟨rfl, rfl⟩
  go_wp2_with fail
  go_quiet ((go_at_call 16; exact Calls.quiet_of_same ((KJ _).out.mono fun _ _ h => ⟨h.1, h.2.symm⟩)))
  replace AR := Lib.hid (AR.out.step (draws_low _ nq))
  clear a0 a1 a2 a3 a4 e1 e2
  generalize World.drewN wq nq = wr at *
  have a0 := AR.out.a0; have a1 := AR.out.a1; have a2 := AR.out.a2; have a3 := AR.out.a3; have a4 := AR.out.a4
  go_wp2_with fail
  all_goals first
    | (go_ret; exact ⟨by rw [show R = false by rw [HV.out, HO.out]; simp [*]; try (intros; exfalso; omega)]; rfl, AR.out.below⟩)
    | (refine (KK _ _ _ _ ?_ ?_ ?_ AR.out.below).out.mono ?_; (any_goals omega); rintro e w9 ⟨rfl, hb9⟩; have H9 := Lib.hid (AR.out.below.trans (hb9.mono AR.out.below.size)); clear hb9; go_wp2_with fail; go_ret; exact ⟨by rw [show R = Q by rw [HV.out, HO.out]; simp [*]; try (intros; exfalso; omega)]; rfl, H9.out⟩)
end Go.Proofs.YtekeondbbikkpaaGreat.SpecCore
