/-
  spec.l8Right, kind by kind: 17, 18, 19, 20. Written by wip/tools/gen_l8right.py.
  spec.l8Right at kinds 21. Written by wip/tools/gen_l8rightc.py.
  spec.l8Right: what it answers of every node.
-/
import Derived.Test.YtekeondbbikkpaaGreatBSpecRout
import Derived.Test.YtekeondbbikkpaaGreatBSpecRtA
import Derived.Test.YtekeondbbikkpaaGreatBSpecRtB
import Derived.Test.YtekeondbbikkpaaGreatBSpecRtC
import Derived.Test.YtekeondbbikkpaaGreatBSpecRtD
namespace Go.Proofs.YtekeondbbikkpaaGreat.SpecCore
open Go.RowKit
open Strs Tree Core Ints
set_option linter.unusedVariables false
set_option maxRecDepth 10000 in
set_option maxHeartbeats 8000000 in
theorem r17 (C : Nat) (L : Lv) (t : ByteArray) (n d : Int) (ks : List K) (w : World) (vs vp : Value) (a : Option Addr) (N cap : Nat) (hN : ks.length = N) (ht : t.size ≤ 1048576) (hm : N ≤ cap ∧ cap ≤ 9223372036854775807) (hC : C ≤ 1048576)
    (KK : ∀ (w' : World) (n' d' : Int) (N' : Nat), n' = n → d' = d → N' = N → Below w.heap.size w w' → Hid (Calls Tryz.prog 60 #[.agg #[.int .i64 17, .string t, .int .i64 n', .int .i64 d', .slice a N' cap], .int .i64 C, vs, vp] w' fun r w'' => r = .returned (.bool (krights C L ks)) ∧ Below w'.heap.size w' w'')) :
    Calls Tryz.prog 35 #[.agg #[.int .i64 17, .string t, .int .i64 n, .int .i64 d, .slice a N cap], .int .i64 C, vs, vp] w fun r w' => r = .returned (.bool (kright C L (.mk 17 t n d ks))) ∧ Below w.heap.size w w' := by
  have HV : Hid (kright C L (.mk 17 t n d ks) = (ownB C L 17 t n d N && krights C L ks)) := Lib.hid (by rw [kright_mk, hN]; rfl)
  generalize kright C L (.mk 17 t n d ks) = R at *
  generalize krights C L ks = Q at *
  have HO : Hid (ownB C L 17 t n d N = (decide (t.toList = []) && (decide (n = 0) && (decide (d = 0) && decide ((2 : Int) ≤ N))))) := Lib.hid (by rw [own_17])
  clear hN
  have HA := Lib.hid (arg5_new w 17 t n d (.slice a N cap) 37)
  generalize ownB C L 17 t n d N = O at *
  go_enter Tryz.func35, Tryz.ntmps35
  go_wp2_with fail
  go_quiet (fail)
  have AR := Lib.hid (HA.out.step (draws_low _ nq))
  obtain ⟨wq, hwq⟩ : ∃ x, x = (w.alloc (Obj.cells #[Value.int IntKind.i64 17, Value.string t, Value.int IntKind.i64 n, Value.int IntKind.i64 d, .slice a N cap] 37)).drewN nq := ⟨_, rfl⟩
  rw [← hwq] at AR ⊢
  clear hwq
  have a0 := AR.out.a0; have a1 := AR.out.a1; have a2 := AR.out.a2; have a3 := AR.out.a3; have a4 := AR.out.a4
  go_wp2_with fail
  all_goals first
    | (go_ret; exact ⟨by rw [show R = false by rw [HV.out, HO.out]; simp [*]; try (intros; exfalso; omega)]; rfl, AR.out.below⟩)
    | (refine (KK _ _ _ _ ?_ ?_ ?_ AR.out.below).out.mono ?_; (any_goals omega); rintro e w9 ⟨rfl, hb9⟩; have H9 := Lib.hid (AR.out.below.trans (hb9.mono AR.out.below.size)); clear hb9; go_wp2_with fail; go_ret; exact ⟨by rw [show R = Q by rw [HV.out, HO.out]; simp [*]; try (intros; exfalso; omega)]; rfl, H9.out⟩)
set_option maxRecDepth 10000 in
set_option maxHeartbeats 8000000 in
theorem r18 (C : Nat) (L : Lv) (t : ByteArray) (n d : Int) (ks : List K) (w : World) (vs vp : Value) (a : Option Addr) (N cap : Nat) (hN : ks.length = N) (ht : t.size ≤ 1048576) (hm : N ≤ cap ∧ cap ≤ 9223372036854775807) (hC : C ≤ 1048576)
    (KK : ∀ (w' : World) (n' d' : Int) (N' : Nat), n' = n → d' = d → N' = N → Below w.heap.size w w' → Hid (Calls Tryz.prog 60 #[.agg #[.int .i64 18, .string t, .int .i64 n', .int .i64 d', .slice a N' cap], .int .i64 C, vs, vp] w' fun r w'' => r = .returned (.bool (krights C L ks)) ∧ Below w'.heap.size w' w'')) :
    Calls Tryz.prog 35 #[.agg #[.int .i64 18, .string t, .int .i64 n, .int .i64 d, .slice a N cap], .int .i64 C, vs, vp] w fun r w' => r = .returned (.bool (kright C L (.mk 18 t n d ks))) ∧ Below w.heap.size w w' := by
  have HV : Hid (kright C L (.mk 18 t n d ks) = (ownB C L 18 t n d N && krights C L ks)) := Lib.hid (by rw [kright_mk, hN]; rfl)
  generalize kright C L (.mk 18 t n d ks) = R at *
  generalize krights C L ks = Q at *
  have HO : Hid (ownB C L 18 t n d N = (decide (t.toList = []) && (decide (n = 0) && (decide (d = 0) && decide ((N : Int) = 1))))) := Lib.hid (by rw [own_18])
  clear hN
  have HA := Lib.hid (arg5_new w 18 t n d (.slice a N cap) 37)
  generalize ownB C L 18 t n d N = O at *
  go_enter Tryz.func35, Tryz.ntmps35
  go_wp2_with fail
  go_quiet (fail)
  have AR := Lib.hid (HA.out.step (draws_low _ nq))
  obtain ⟨wq, hwq⟩ : ∃ x, x = (w.alloc (Obj.cells #[Value.int IntKind.i64 18, Value.string t, Value.int IntKind.i64 n, Value.int IntKind.i64 d, .slice a N cap] 37)).drewN nq := ⟨_, rfl⟩
  rw [← hwq] at AR ⊢
  clear hwq
  have a0 := AR.out.a0; have a1 := AR.out.a1; have a2 := AR.out.a2; have a3 := AR.out.a3; have a4 := AR.out.a4
  go_wp2_with fail
  all_goals first
    | (go_ret; exact ⟨by rw [show R = false by rw [HV.out, HO.out]; simp [*]; try (intros; exfalso; omega)]; rfl, AR.out.below⟩)
    | (refine (KK _ _ _ _ ?_ ?_ ?_ AR.out.below).out.mono ?_; (any_goals omega); rintro e w9 ⟨rfl, hb9⟩; have H9 := Lib.hid (AR.out.below.trans (hb9.mono AR.out.below.size)); clear hb9; go_wp2_with fail; go_ret; exact ⟨by rw [show R = Q by rw [HV.out, HO.out]; simp [*]; try (intros; exfalso; omega)]; rfl, H9.out⟩)
set_option maxRecDepth 10000 in
set_option maxHeartbeats 8000000 in
theorem r19 (C : Nat) (L : Lv) (t : ByteArray) (n d : Int) (ks : List K) (w : World) (vs vp : Value) (a : Option Addr) (N cap : Nat) (hN : ks.length = N) (ht : t.size ≤ 1048576) (hm : N ≤ cap ∧ cap ≤ 9223372036854775807) (hC : C ≤ 1048576)
    (KK : ∀ (w' : World) (n' d' : Int) (N' : Nat), n' = n → d' = d → N' = N → Below w.heap.size w w' → Hid (Calls Tryz.prog 60 #[.agg #[.int .i64 19, .string t, .int .i64 n', .int .i64 d', .slice a N' cap], .int .i64 C, vs, vp] w' fun r w'' => r = .returned (.bool (krights C L ks)) ∧ Below w'.heap.size w' w'')) :
    Calls Tryz.prog 35 #[.agg #[.int .i64 19, .string t, .int .i64 n, .int .i64 d, .slice a N cap], .int .i64 C, vs, vp] w fun r w' => r = .returned (.bool (kright C L (.mk 19 t n d ks))) ∧ Below w.heap.size w w' := by
  have HV : Hid (kright C L (.mk 19 t n d ks) = (ownB C L 19 t n d N && krights C L ks)) := Lib.hid (by rw [kright_mk, hN]; rfl)
  generalize kright C L (.mk 19 t n d ks) = R at *
  generalize krights C L ks = Q at *
  have HO : Hid (ownB C L 19 t n d N = (decide (t.toList = []) && (decide (n = 0) && (decide (d = 0) && decide ((N : Int) = 3))))) := Lib.hid (by rw [own_19])
  clear hN
  have HA := Lib.hid (arg5_new w 19 t n d (.slice a N cap) 37)
  generalize ownB C L 19 t n d N = O at *
  go_enter Tryz.func35, Tryz.ntmps35
  go_wp2_with fail
  go_quiet (fail)
  have AR := Lib.hid (HA.out.step (draws_low _ nq))
  obtain ⟨wq, hwq⟩ : ∃ x, x = (w.alloc (Obj.cells #[Value.int IntKind.i64 19, Value.string t, Value.int IntKind.i64 n, Value.int IntKind.i64 d, .slice a N cap] 37)).drewN nq := ⟨_, rfl⟩
  rw [← hwq] at AR ⊢
  clear hwq
  have a0 := AR.out.a0; have a1 := AR.out.a1; have a2 := AR.out.a2; have a3 := AR.out.a3; have a4 := AR.out.a4
  go_wp2_with fail
  all_goals first
    | (go_ret; exact ⟨by rw [show R = false by rw [HV.out, HO.out]; simp [*]; try (intros; exfalso; omega)]; rfl, AR.out.below⟩)
    | (refine (KK _ _ _ _ ?_ ?_ ?_ AR.out.below).out.mono ?_; (any_goals omega); rintro e w9 ⟨rfl, hb9⟩; have H9 := Lib.hid (AR.out.below.trans (hb9.mono AR.out.below.size)); clear hb9; go_wp2_with fail; go_ret; exact ⟨by rw [show R = Q by rw [HV.out, HO.out]; simp [*]; try (intros; exfalso; omega)]; rfl, H9.out⟩)
set_option maxRecDepth 10000 in
set_option maxHeartbeats 8000000 in
theorem r20 (C : Nat) (L : Lv) (t : ByteArray) (n d : Int) (ks : List K) (w : World) (vs vp : Value) (a : Option Addr) (N cap : Nat) (hN : ks.length = N) (ht : t.size ≤ 1048576) (hm : N ≤ cap ∧ cap ≤ 9223372036854775807) (hC : C ≤ 1048576)
    (KK : ∀ (w' : World) (n' d' : Int) (N' : Nat), n' = n → d' = d → N' = N → Below w.heap.size w w' → Hid (Calls Tryz.prog 60 #[.agg #[.int .i64 20, .string t, .int .i64 n', .int .i64 d', .slice a N' cap], .int .i64 C, vs, vp] w' fun r w'' => r = .returned (.bool (krights C L ks)) ∧ Below w'.heap.size w' w'')) :
    Calls Tryz.prog 35 #[.agg #[.int .i64 20, .string t, .int .i64 n, .int .i64 d, .slice a N cap], .int .i64 C, vs, vp] w fun r w' => r = .returned (.bool (kright C L (.mk 20 t n d ks))) ∧ Below w.heap.size w w' := by
  have HV : Hid (kright C L (.mk 20 t n d ks) = (ownB C L 20 t n d N && krights C L ks)) := Lib.hid (by rw [kright_mk, hN]; rfl)
  generalize kright C L (.mk 20 t n d ks) = R at *
  generalize krights C L ks = Q at *
  have HO : Hid (ownB C L 20 t n d N = (decide (t.toList = []) && (decide (d = 0) && (decide ((N : Int) = 2) && decide (0 ≤ n ∧ n ≤ 1))))) := Lib.hid (by rw [own_20])
  clear hN
  have KIN := fun w1 => Lib.hid (SpecTree.in_any n 0 1 w1)
  generalize hb0 : (decide (0 ≤ n ∧ n ≤ 1) : Bool) = b0 at *
  have HBB0 := Lib.hid hb0; clear hb0
  have HA := Lib.hid (arg5_new w 20 t n d (.slice a N cap) 37)
  generalize ownB C L 20 t n d N = O at *
  cases b0
  all_goals
    go_enter Tryz.func35, Tryz.ntmps35
    go_wp2_with fail
    go_quiet (fail)
    have AR := Lib.hid (HA.out.step (draws_low _ nq))
    obtain ⟨wq, hwq⟩ : ∃ x, x = (w.alloc (Obj.cells #[Value.int IntKind.i64 20, Value.string t, Value.int IntKind.i64 n, Value.int IntKind.i64 d, .slice a N cap] 37)).drewN nq := ⟨_, rfl⟩
    rw [← hwq] at AR ⊢
    clear hwq
    have a0 := AR.out.a0; have a1 := AR.out.a1; have a2 := AR.out.a2; have a3 := AR.out.a3; have a4 := AR.out.a4
    go_wp2_with fail
    refine (KIN _).out.mono ?_
    rintro e w1 ⟨rfl, rfl⟩
    go_wp2_with fail
    all_goals first
      | (go_ret; exact ⟨by rw [show R = false by rw [HV.out, HO.out]; simp [*]; try (intros; exfalso; omega)]; rfl, AR.out.below⟩)
      | (refine (KK _ _ _ _ ?_ ?_ ?_ AR.out.below).out.mono ?_; (any_goals omega); rintro e w9 ⟨rfl, hb9⟩; have H9 := Lib.hid (AR.out.below.trans (hb9.mono AR.out.below.size)); clear hb9; go_wp2_with fail; go_ret; exact ⟨by rw [show R = Q by rw [HV.out, HO.out]; simp [*]; try (intros; exfalso; omega)]; rfl, H9.out⟩)
set_option maxRecDepth 10000 in
set_option maxHeartbeats 8000000 in
theorem rOther (C : Nat) (L : Lv) (k : Int) (t : ByteArray) (n d : Int) (ks : List K) (w : World) (vs vp : Value) (a : Option Addr) (N cap : Nat) (hN : ks.length = N) (hm : N ≤ cap ∧ cap ≤ 9223372036854775807) (hk : ¬ (1 ≤ k ∧ k ≤ 21)) :
    Calls Tryz.prog 35 #[.agg #[.int .i64 k, .string t, .int .i64 n, .int .i64 d, .slice a N cap], .int .i64 C, vs, vp] w fun r w' => r = .returned (.bool (kright C L (.mk k t n d ks))) ∧ Below w.heap.size w w' := by
  have HR : kright C L (.mk k t n d ks) = false := by rw [kright_mk, own_other _ _ _ _ _ _ _ hk, Bool.false_and]
  rw [HR]
  clear HR hN
  have k1 : (k == 1) = false := by rw [beq_eq_false_iff_ne]; omega
  have k2 : (k == 2) = false := by rw [beq_eq_false_iff_ne]; omega
  have k3 : (k == 3) = false := by rw [beq_eq_false_iff_ne]; omega
  have k4 : (k == 4) = false := by rw [beq_eq_false_iff_ne]; omega
  have k5 : (k == 5) = false := by rw [beq_eq_false_iff_ne]; omega
  have k6 : (k == 6) = false := by rw [beq_eq_false_iff_ne]; omega
  have k7 : (k == 7) = false := by rw [beq_eq_false_iff_ne]; omega
  have k8 : (k == 8) = false := by rw [beq_eq_false_iff_ne]; omega
  have k9 : (k == 9) = false := by rw [beq_eq_false_iff_ne]; omega
  have k10 : (k == 10) = false := by rw [beq_eq_false_iff_ne]; omega
  have k11 : (k == 11) = false := by rw [beq_eq_false_iff_ne]; omega
  have k12 : (k == 12) = false := by rw [beq_eq_false_iff_ne]; omega
  have k13 : (k == 13) = false := by rw [beq_eq_false_iff_ne]; omega
  have k14 : (k == 14) = false := by rw [beq_eq_false_iff_ne]; omega
  have k15 : (k == 15) = false := by rw [beq_eq_false_iff_ne]; omega
  have k16 : (k == 16) = false := by rw [beq_eq_false_iff_ne]; omega
  have k17 : (k == 17) = false := by rw [beq_eq_false_iff_ne]; omega
  have k18 : (k == 18) = false := by rw [beq_eq_false_iff_ne]; omega
  have k19 : (k == 19) = false := by rw [beq_eq_false_iff_ne]; omega
  have k20 : (k == 20) = false := by rw [beq_eq_false_iff_ne]; omega
  have k21 : (k == 21) = false := by rw [beq_eq_false_iff_ne]; omega
  clear hk
  have HA := Lib.hid (arg5_new w k t n d (.slice a N cap) 37)
  go_enter Tryz.func35, Tryz.ntmps35
  go_wp2_with fail
  go_quiet (fail)
  have AR := Lib.hid (HA.out.step (draws_low _ nq))
  obtain ⟨wq, hwq⟩ : ∃ x, x = (w.alloc (Obj.cells #[Value.int IntKind.i64 k, Value.string t, Value.int IntKind.i64 n, Value.int IntKind.i64 d, .slice a N cap] 37)).drewN nq := ⟨_, rfl⟩
  rw [← hwq] at AR ⊢
  clear hwq
  have a0 := AR.out.a0
  go_wp2_with fail
  go_ret
  exact ⟨rfl, AR.out.below⟩
end Go.Proofs.YtekeondbbikkpaaGreat.SpecCore

namespace Go.Proofs.YtekeondbbikkpaaGreat.SpecCore
open Go.RowKit
open Strs Tree Core Ints
set_option linter.unusedVariables false
set_option maxRecDepth 10000 in
set_option maxHeartbeats 16000000 in
theorem r21 (C : Nat) (L : Lv) (t : ByteArray) (n d : Int) (ks : List K) (w : World) (vs vp : Value) (a : Option Addr) (N cap : Nat) (hN : ks.length = N) (hm : N ≤ cap ∧ cap ≤ 9223372036854775807) (hS : NAt w vs (L.map (·.2))) (hP : NAt w vp (L.map (·.1))) (hL : LOk L) (hln : L.length ≤ 4194304)
    (KK : ∀ (w' : World) (n' d' : Int) (N' : Nat), n' = n → d' = d → N' = N → Below w.heap.size w w' → Hid (Calls Tryz.prog 60 #[.agg #[.int .i64 21, .string t, .int .i64 n', .int .i64 d', .slice a N' cap], .int .i64 C, vs, vp] w' fun r w'' => r = .returned (.bool (krights C L ks)) ∧ Below w'.heap.size w' w'')) :
    Calls Tryz.prog 35 #[.agg #[.int .i64 21, .string t, .int .i64 n, .int .i64 d, .slice a N cap], .int .i64 C, vs, vp] w fun r w' => r = .returned (.bool (kright C L (.mk 21 t n d ks))) ∧ Below w.heap.size w w' := by
  have HV : Hid (kright C L (.mk 21 t n d ks) = (ownB C L 21 t n d N && krights C L ks)) := Lib.hid (by rw [kright_mk, hN]; rfl)
  generalize kright C L (.mk 21 t n d ks) = R at *
  generalize krights C L ks = Q at *
  clear hN
  obtain ⟨sa, sc, rfl, hsm, hsc⟩ := hS
  obtain ⟨pa, pc, rfl, hpm, hpc⟩ := hP
  simp only [List.length_map] at hsm hsc hpm hpc KK ⊢
  have HSC := Lib.hid hsc; clear hsc
  have HPC := Lib.hid hpc; clear hpc
  have HL := Lib.hid hL.q
  have hpos := hL.pos
  clear hL
  unfold maxLen at hsm hpm
  have HA := Lib.hid (arg5_new w 21 t n d (.slice a N cap) 37)
  have HOW := Lib.hid (own_21 C L t n d N)
  generalize ownB C L 21 t n d N = O at *
  obtain ⟨j, hj⟩ : ∃ j : Nat, (L.length : Int) - 1 = (j : Int) := ⟨L.length - 1, by omega⟩
  have hjl : j < L.length := by omega
  obtain ⟨⟨p, s⟩, hq⟩ : ∃ q, L[j]? = some q := ⟨_, List.getElem?_eq_getElem hjl⟩
  have hps := HL.out _ (List.mem_of_getElem? hq)
  simp only at hps
  obtain ⟨sb, so, rfl, hsd⟩ := HSC.out (by omega)
  obtain ⟨pb, po, rfl, hpd⟩ := HPC.out (by omega)
  have hcs := hsd j s (by rw [List.getElem?_map, hq]; rfl)
  have hcp := hpd j p (by rw [List.getElem?_map, hq]; rfl)
  clear hsd hpd
  have HO1 : Hid (d = 0 → O = (decide (t.toList = []) && (decide ((N : Int) = 3) && decide (p ≤ n ∧ n ≤ s - 1)))) := Lib.hid (fun h => by subst h; rw [HOW.out, var_last hj hq hps.1]; simp)
  have HO2 : Hid (¬ d = 0 → O = false) := Lib.hid (fun h => by rw [HOW.out, decide_eq_false h]; simp)
  have HO3 : Hid (O = (decide (d = 0) && (decide (t.toList = []) && (decide ((N : Int) = 3) && decide (p ≤ n ∧ n ≤ s - 1))))) := Lib.hid (by
    by_cases h : d = 0
    · rw [HO1.out h, decide_eq_true h, Bool.true_and]
    · rw [HO2.out h, decide_eq_false h, Bool.false_and])
  have KJ := fun w1 => Lib.hid (SpecTree.in_any n p (s - 1) w1)
  clear HOW HO1 HO2 HL hq HSC HPC
  generalize L.length = Ln at *
  by_cases hn1 : p ≤ n ∧ n ≤ s - 1
  case neg =>
    rw [decide_eq_false hn1] at KJ HO3
    clear hn1
    have HO : Hid (O = false) := Lib.hid (by rw [HO3.out]; simp [*]; try (intros; omega))
    clear HO3
    go_enter Tryz.func35, Tryz.ntmps35
    go_wp2_with fail
    go_quiet (fail)
    have AR := Lib.hid (HA.out.step (draws_low _ nq))
    obtain ⟨wq, hwq⟩ : ∃ x, x = (w.alloc (Obj.cells #[Value.int IntKind.i64 21, Value.string t, Value.int IntKind.i64 n, Value.int IntKind.i64 d, .slice a N cap] 37)).drewN nq := ⟨_, rfl⟩
    rw [← hwq] at AR ⊢
    clear hwq
    have a0 := AR.out.a0; have a1 := AR.out.a1; have a2 := AR.out.a2; have a3 := AR.out.a3; have a4 := AR.out.a4
    have e1 := cell_keep AR.out.below hcs; have e2 := cell_keep AR.out.below hcp
    clear hcs hcp
    go_wp2_with fail
    go_quiet ((go_at_call 16; exact Calls.quiet_of_same ((KJ _).out.mono fun _ _ h => ⟨h.1, h.2.symm⟩)))
    replace AR := Lib.hid (AR.out.step (draws_low _ nq))
    clear a0 a1 a2 a3 a4 e1 e2
    generalize World.drewN wq nq = wr at *
    have a0 := AR.out.a0; have a1 := AR.out.a1; have a2 := AR.out.a2; have a3 := AR.out.a3; have a4 := AR.out.a4
    go_wp2_with fail
    all_goals first
      | (go_ret; exact ⟨by rw [show R = false by rw [HV.out, HO.out]; simp [*]; try (intros; exfalso; omega)]; rfl, AR.out.below⟩)
      | (refine (KK _ _ _ _ ?_ ?_ ?_ AR.out.below).out.mono ?_; (any_goals omega); rintro e w9 ⟨rfl, hb9⟩; have H9 := Lib.hid (AR.out.below.trans (hb9.mono AR.out.below.size)); clear hb9; go_wp2_with fail; go_ret; exact ⟨by rw [show R = Q by rw [HV.out, HO.out]; simp [*]; try (intros; exfalso; omega)]; rfl, H9.out⟩)
  rw [decide_eq_true hn1] at KJ HO3
  by_cases hn2 : (N : Int) = 3
  case neg =>
    have b2 : ((N : Int) == 3) = false := by rw [beq_eq_false_iff_ne]; exact hn2
    have HO : Hid (O = false) := Lib.hid (by rw [HO3.out]; simp [*]; try (intros; omega))
    clear HO3
    go_enter Tryz.func35, Tryz.ntmps35
    go_wp2_with fail
    go_quiet (fail)
    have AR := Lib.hid (HA.out.step (draws_low _ nq))
    obtain ⟨wq, hwq⟩ : ∃ x, x = (w.alloc (Obj.cells #[Value.int IntKind.i64 21, Value.string t, Value.int IntKind.i64 n, Value.int IntKind.i64 d, .slice a N cap] 37)).drewN nq := ⟨_, rfl⟩
    rw [← hwq] at AR ⊢
    clear hwq
    have a0 := AR.out.a0; have a1 := AR.out.a1; have a2 := AR.out.a2; have a3 := AR.out.a3; have a4 := AR.out.a4
    have e1 := cell_keep AR.out.below hcs; have e2 := cell_keep AR.out.below hcp
    clear hcs hcp
    go_wp2_with fail
    go_quiet ((go_at_call 16; exact Calls.quiet_of_same ((KJ _).out.mono fun _ _ h => ⟨h.1, h.2.symm⟩)))
    replace AR := Lib.hid (AR.out.step (draws_low _ nq))
    clear a0 a1 a2 a3 a4 e1 e2
    generalize World.drewN wq nq = wr at *
    have a0 := AR.out.a0; have a1 := AR.out.a1; have a2 := AR.out.a2; have a3 := AR.out.a3; have a4 := AR.out.a4
    go_wp2_with fail
    all_goals first
      | (go_ret; exact ⟨by rw [show R = false by rw [HV.out, HO.out]; simp [*]; try (intros; exfalso; omega)]; rfl, AR.out.below⟩)
      | (refine (KK _ _ _ _ ?_ ?_ ?_ AR.out.below).out.mono ?_; (any_goals omega); rintro e w9 ⟨rfl, hb9⟩; have H9 := Lib.hid (AR.out.below.trans (hb9.mono AR.out.below.size)); clear hb9; go_wp2_with fail; go_ret; exact ⟨by rw [show R = Q by rw [HV.out, HO.out]; simp [*]; try (intros; exfalso; omega)]; rfl, H9.out⟩)
  have b2 : ((N : Int) == 3) = true := by rw [beq_iff_eq]; exact hn2
  have HO : Hid (O = (decide (d = 0) && decide (t.toList = []))) := Lib.hid (by rw [HO3.out]; simp [*]; try (intros; omega))
  clear HO3
  go_enter Tryz.func35, Tryz.ntmps35
  go_wp2_with fail
  go_quiet (fail)
  have AR := Lib.hid (HA.out.step (draws_low _ nq))
  obtain ⟨wq, hwq⟩ : ∃ x, x = (w.alloc (Obj.cells #[Value.int IntKind.i64 21, Value.string t, Value.int IntKind.i64 n, Value.int IntKind.i64 d, .slice a N cap] 37)).drewN nq := ⟨_, rfl⟩
  rw [← hwq] at AR ⊢
  clear hwq
  have a0 := AR.out.a0; have a1 := AR.out.a1; have a2 := AR.out.a2; have a3 := AR.out.a3; have a4 := AR.out.a4
  have e1 := cell_keep AR.out.below hcs; have e2 := cell_keep AR.out.below hcp
  clear hcs hcp
  go_wp2_with fail
  go_quiet ((go_at_call 16; exact Calls.quiet_of_same ((KJ _).out.mono fun _ _ h => ⟨h.1, h.2.symm⟩)))
  replace AR := Lib.hid (AR.out.step (draws_low _ nq))
  clear a0 a1 a2 a3 a4 e1 e2
  generalize World.drewN wq nq = wr at *
  have a0 := AR.out.a0; have a1 := AR.out.a1; have a2 := AR.out.a2; have a3 := AR.out.a3; have a4 := AR.out.a4
  go_wp2_with fail
  all_goals first
    | (go_ret; exact ⟨by rw [show R = false by rw [HV.out, HO.out]; simp [*]; try (intros; exfalso; omega)]; rfl, AR.out.below⟩)
    | (refine (KK _ _ _ _ ?_ ?_ ?_ AR.out.below).out.mono ?_; (any_goals omega); rintro e w9 ⟨rfl, hb9⟩; have H9 := Lib.hid (AR.out.below.trans (hb9.mono AR.out.below.size)); clear hb9; go_wp2_with fail; go_ret; exact ⟨by rw [show R = Q by rw [HV.out, HO.out]; simp [*]; try (intros; exfalso; omega)]; rfl, H9.out⟩)
end Go.Proofs.YtekeondbbikkpaaGreat.SpecCore

namespace Go.Proofs.YtekeondbbikkpaaGreat.SpecCore
open Go.RowKit
open Strs Tree Core Ints Go.Proofs.YtekeondbbikkpaaGreat.Data
set_option linter.unusedVariables false
theorem right_step (C : Nat) (hC : C ≤ 1048576) (k : Int) (t : ByteArray) (n d : Int) (ks : List K) (ih : ∀ e, e ∈ ks → OkR C e ∧ ∀ g, g ∈ e.kids → OkR C g) : OkR C (.mk k t n d ks) := by
  intro lo w vk vs vp L hw hd hk hS hP hL hl
  have hk0 := hk
  rw [kat_iff] at hk
  obtain ⟨-, -, -, -, hks⟩ := hk
  simp only [K.kind, K.text, K.num, K.dep, K.kids] at *
  rw [kweight] at hw
  rw [ksize] at hl
  have hdd : ¬ (k = 16 ∧ 30 < d) ∧ kdeeps ks ≤ 999 := by
    rw [kdeep] at hd
    split at hd
    · omega
    · rename_i h
      exact ⟨h, by omega⟩
  obtain ⟨a, cap, rfl, hm, _⟩ := id hks
  unfold maxLen at hm
  have ht : t.size ≤ 1048576 := by omega
  have hm2 : ks.length ≤ cap ∧ cap ≤ 9223372036854775807 := by omega
  have hln : L.length ≤ 4194304 := by omega
  have KK : ∀ (w' : World) (n' d' : Int) (N' : Nat), n' = n → d' = d → N' = ks.length → Below w.heap.size w w' → Hid (Calls Tryz.prog 60 #[.agg #[.int .i64 k, .string t, .int .i64 n', .int .i64 d', .slice a N' cap], .int .i64 C, vs, vp] w' fun r w'' => r = .returned (.bool (krights C L ks)) ∧ Below w'.heap.size w' w'') := by
    intro w' n' d' N' e1 e2 e3 hb
    rw [e1, e2, e3]
    exact Lib.hid (kids_any (C := C) (.mk k t n d ks) (fun g hg => (ih g hg).1) (lo := lo) (by show kweights ks ≤ _; omega) hdd.2 (hk0.below hb) (hS.below hb) (hP.below hb) hL (by show L.length + ksizes ks ≤ _; omega))
  by_cases h16 : k = 16
  · subst h16
    refine r16 C L t n d ks w vs vp a _ cap rfl hm2 hS hP hL hln (by have := hdd.1; omega) ?_
    intro w' vs' vp' n' d' N' e1 e2 e3 hnd hS' hP' hb
    rw [e1, e2, e3]
    have hL' : LOk (L ++ [(n, d)]) := ⟨by simp, fun x hx => by
      rcases List.mem_append.1 hx with h | h
      · exact hL.q x h
      · simp only [List.mem_singleton] at h
        subst h
        exact ⟨hnd.1, hnd.2, by have := hdd.1; omega⟩⟩
    exact Lib.hid (kids_any (C := C) (.mk 16 t n d ks) (fun g hg => (ih g hg).1) (lo := lo) (by show kweights ks ≤ _; omega) hdd.2 (hk0.below hb) hS' hP' hL' (by show (L ++ [(n, d)]).length + ksizes ks ≤ _; rw [List.length_append]; simp; omega))
  by_cases h15 : k = 15
  · subst h15
    refine r15 C L t n d ks lo w _ vs vp hks (by omega) ?_ ?_
    · intro e he w' xk hb hn
      have hmem := List.mem_of_getElem? he
      obtain ⟨hi, rfl⟩ := List.getElem?_eq_some_iff.1 he
      have h1 := kweight_kid ks 0 hi
      have h2 := kdeep_kid ks 0 hi
      have h3 := ksize_kid ks 0 hi
      exact Lib.hid ((ih _ hmem).1 lo w' xk vs vp L (by omega) (by omega) hn (hS.below hb) (hP.below hb) hL (by omega))
    · intro e he w' xk hb hn
      obtain ⟨i, hi, rfl⟩ := List.mem_iff_getElem.1 he
      have h1 := kweight_kid ks i hi
      have h2 := kdeep_kid ks i hi
      have h3 := ksize_kid ks i hi
      have ihh := (ih _ he).2
      generalize ks[i] = e at *
      obtain ⟨ek, et, en, ed, es⟩ := e
      simp only [K.kind, K.text, K.num, K.dep, K.kids] at *
      rw [kweight] at h1
      rw [ksize] at h3
      have h4 : kdeeps es ≤ 999 := by
        rw [kdeep] at h2
        split at h2 <;> omega
      exact Lib.hid (kids_any (C := C) (.mk ek et en ed es) ihh (lo := lo) (by show kweights es ≤ _; omega) h4 hn (hS.below hb) (hP.below hb) hL (by show L.length + ksizes es ≤ _; omega))
  by_cases h1 : k = 1
  · subst h1; exact r1 C L t n d ks w vs vp a _ cap rfl ht hm2 hC KK
  by_cases h2 : k = 2
  · subst h2; exact r2 C L t n d ks w vs vp a _ cap rfl ht hm2 hC KK
  by_cases h3 : k = 3
  · subst h3; exact r3 C L t n d ks w vs vp a _ cap rfl ht hm2 hC KK
  by_cases h4 : k = 4
  · subst h4; exact r4 C L t n d ks w vs vp a _ cap rfl ht hm2 hC KK
  by_cases h5 : k = 5
  · subst h5; exact r5 C L t n d ks w vs vp a _ cap rfl ht hm2 hC KK
  by_cases h6 : k = 6
  · subst h6; exact r6 C L t n d ks w vs vp a _ cap rfl ht hm2 hC KK
  by_cases h7 : k = 7
  · subst h7; exact r7 C L t n d ks w vs vp a _ cap rfl ht hm2 hC KK
  by_cases h8 : k = 8
  · subst h8; exact r8 C L t n d ks w vs vp a _ cap rfl hm2 hS hP hL hln KK
  by_cases h9 : k = 9
  · subst h9; exact r9 C L t n d ks w vs vp a _ cap rfl hm2 hS hP hL hln KK
  by_cases h10 : k = 10
  · subst h10; exact r10 C L t n d ks w vs vp a _ cap rfl ht hm2 hC KK
  by_cases h11 : k = 11
  · subst h11; exact r11 C L t n d ks w vs vp a _ cap rfl ht hm2 hC KK
  by_cases h12 : k = 12
  · subst h12; exact r12 C L t n d ks w vs vp a _ cap rfl ht hm2 hC KK
  by_cases h13 : k = 13
  · subst h13; exact r13 C L t n d ks w vs vp a _ cap rfl ht hm2 hC KK
  by_cases h14 : k = 14
  · subst h14; exact r14 C L t n d ks w vs vp a _ cap rfl ht hm2 hC KK
  by_cases h17 : k = 17
  · subst h17; exact r17 C L t n d ks w vs vp a _ cap rfl ht hm2 hC KK
  by_cases h18 : k = 18
  · subst h18; exact r18 C L t n d ks w vs vp a _ cap rfl ht hm2 hC KK
  by_cases h19 : k = 19
  · subst h19; exact r19 C L t n d ks w vs vp a _ cap rfl ht hm2 hC KK
  by_cases h20 : k = 20
  · subst h20; exact r20 C L t n d ks w vs vp a _ cap rfl ht hm2 hC KK
  by_cases h21 : k = 21
  · subst h21; exact r21 C L t n d ks w vs vp a _ cap rfl hm2 hS hP hL hln KK
  exact rOther C L k t n d ks w vs vp a _ cap rfl hm2 (by omega)
theorem right_any (C : Nat) (hC : C ≤ 1048576) : ∀ e, OkR C e ∧ ∀ g, g ∈ e.kids → OkR C g := by
  refine indK fun k t n d ks ih => ?_
  exact ⟨right_step C hC k t n d ks ih, fun g hg => (ih g hg).1⟩
end Go.Proofs.YtekeondbbikkpaaGreat.SpecCore
