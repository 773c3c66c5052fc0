/-
  spec.l8Right, kind by kind: 1, 2, 3, 4, 5, 6, 7. Written by wip/tools/gen_l8right.py.
-/
import Derived.Test.YtekeondbbikkpaaGreatBSpecRtB
namespace Go.Proofs.YtekeondbbikkpaaGreat.SpecCore
open Go.RowKit
open Strs Tree Core Ints
set_option linter.unusedVariables false
set_option maxRecDepth 10000 in
set_option maxHeartbeats 8000000 in
theorem r1 (C : Nat) (L : Lv) (t : ByteArray) (n d : Int) (ks : List K) (w : World) (vs vp : Value) (a : Option Addr) (N cap : Nat) (hN : ks.length = N) (ht : t.size ≤ 1048576) (hm : N ≤ cap ∧ cap ≤ 9223372036854775807) (hC : C ≤ 1048576)
    (KK : ∀ (w' : World) (n' d' : Int) (N' : Nat), n' = n → d' = d → N' = N → Below w.heap.size w w' → Hid (Calls Tryz.prog 60 #[.agg #[.int .i64 1, .string t, .int .i64 n', .int .i64 d', .slice a N' cap], .int .i64 C, vs, vp] w' fun r w'' => r = .returned (.bool (krights C L ks)) ∧ Below w'.heap.size w' w'')) :
    Calls Tryz.prog 35 #[.agg #[.int .i64 1, .string t, .int .i64 n, .int .i64 d, .slice a N cap], .int .i64 C, vs, vp] w fun r w' => r = .returned (.bool (kright C L (.mk 1 t n d ks))) ∧ Below w.heap.size w w' := by
  have HV : Hid (kright C L (.mk 1 t n d ks) = (ownB C L 1 t n d N && krights C L ks)) := Lib.hid (by rw [kright_mk, hN]; rfl)
  generalize kright C L (.mk 1 t n d ks) = R at *
  generalize krights C L ks = Q at *
  have HO : Hid (ownB C L 1 t n d N = (decide (t.toList = []) && (decide (d = 0) && (decide ((N : Int) = 0) && decide (0 ≤ n ∧ n ≤ 999999999))))) := Lib.hid (by rw [own_1])
  clear hN
  have KIN := fun w1 => Lib.hid (SpecTree.in_any n 0 999999999 w1)
  generalize hb0 : (decide (0 ≤ n ∧ n ≤ 999999999) : Bool) = b0 at *
  have HBB0 := Lib.hid hb0; clear hb0
  have HA := Lib.hid (arg5_new w 1 t n d (.slice a N cap) 37)
  generalize ownB C L 1 t n d N = O at *
  cases b0
  all_goals
    go_enter Tryz.func35, Tryz.ntmps35
    go_wp2_with fail
    go_quiet (fail)
    have AR := Lib.hid (HA.out.step (draws_low _ nq))
    obtain ⟨wq, hwq⟩ : ∃ x, x = (w.alloc (Obj.cells #[Value.int IntKind.i64 1, Value.string t, Value.int IntKind.i64 n, Value.int IntKind.i64 d, .slice a N cap] 37)).drewN nq := ⟨_, rfl⟩
    rw [← hwq] at AR ⊢
    clear hwq
    have a0 := AR.out.a0; have a1 := AR.out.a1; have a2 := AR.out.a2; have a3 := AR.out.a3; have a4 := AR.out.a4
    go_wp2_with fail
    refine (KIN _).out.mono ?_
    rintro e w1 ⟨rfl, rfl⟩
    go_wp2_with fail
    all_goals first
      | (go_ret; exact ⟨by rw [show R = false by rw [HV.out, HO.out]; simp [*]; try (intros; exfalso; omega)]; rfl, AR.out.below⟩)
      | (refine (KK _ _ _ _ ?_ ?_ ?_ AR.out.below).out.mono ?_; (any_goals omega); rintro e w9 ⟨rfl, hb9⟩; have H9 := Lib.hid (AR.out.below.trans (hb9.mono AR.out.below.size)); clear hb9; go_wp2_with fail; go_ret; exact ⟨by rw [show R = Q by rw [HV.out, HO.out]; simp [*]; try (intros; exfalso; omega)]; rfl, H9.out⟩)
set_option maxRecDepth 10000 in
set_option maxHeartbeats 8000000 in
theorem r2 (C : Nat) (L : Lv) (t : ByteArray) (n d : Int) (ks : List K) (w : World) (vs vp : Value) (a : Option Addr) (N cap : Nat) (hN : ks.length = N) (ht : t.size ≤ 1048576) (hm : N ≤ cap ∧ cap ≤ 9223372036854775807) (hC : C ≤ 1048576)
    (KK : ∀ (w' : World) (n' d' : Int) (N' : Nat), n' = n → d' = d → N' = N → Below w.heap.size w w' → Hid (Calls Tryz.prog 60 #[.agg #[.int .i64 2, .string t, .int .i64 n', .int .i64 d', .slice a N' cap], .int .i64 C, vs, vp] w' fun r w'' => r = .returned (.bool (krights C L ks)) ∧ Below w'.heap.size w' w'')) :
    Calls Tryz.prog 35 #[.agg #[.int .i64 2, .string t, .int .i64 n, .int .i64 d, .slice a N cap], .int .i64 C, vs, vp] w fun r w' => r = .returned (.bool (kright C L (.mk 2 t n d ks))) ∧ Below w.heap.size w w' := by
  have HV : Hid (kright C L (.mk 2 t n d ks) = (ownB C L 2 t n d N && krights C L ks)) := Lib.hid (by rw [kright_mk, hN]; rfl)
  generalize kright C L (.mk 2 t n d ks) = R at *
  generalize krights C L ks = Q at *
  have HO : Hid (ownB C L 2 t n d N = (decide (n = 0) && (decide (d = 0) && (decide ((N : Int) = 0) && Tree.isText t)))) := Lib.hid (by rw [own_2])
  clear hN
  have KTX := fun w1 => Lib.hid (SpecTree.istext_any t w1 (by unfold maxLen; omega))
  generalize hb0 : (Tree.isText t : Bool) = b0 at *
  have HBB0 := Lib.hid hb0; clear hb0
  have HA := Lib.hid (arg5_new w 2 t n d (.slice a N cap) 37)
  generalize ownB C L 2 t n d N = O at *
  cases b0
  all_goals
    go_enter Tryz.func35, Tryz.ntmps35
    go_wp2_with fail
    go_quiet (fail)
    have AR := Lib.hid (HA.out.step (draws_low _ nq))
    obtain ⟨wq, hwq⟩ : ∃ x, x = (w.alloc (Obj.cells #[Value.int IntKind.i64 2, Value.string t, Value.int IntKind.i64 n, Value.int IntKind.i64 d, .slice a N cap] 37)).drewN nq := ⟨_, rfl⟩
    rw [← hwq] at AR ⊢
    clear hwq
    have a0 := AR.out.a0; have a1 := AR.out.a1; have a2 := AR.out.a2; have a3 := AR.out.a3; have a4 := AR.out.a4
    go_wp2_with fail
    refine (KTX _).out.mono ?_
    rintro e w1 ⟨rfl, rfl⟩
    go_wp2_with fail
    all_goals first
      | (go_ret; exact ⟨by rw [show R = false by rw [HV.out, HO.out]; simp [*]; try (intros; exfalso; omega)]; rfl, AR.out.below⟩)
      | (refine (KK _ _ _ _ ?_ ?_ ?_ AR.out.below).out.mono ?_; (any_goals omega); rintro e w9 ⟨rfl, hb9⟩; have H9 := Lib.hid (AR.out.below.trans (hb9.mono AR.out.below.size)); clear hb9; go_wp2_with fail; go_ret; exact ⟨by rw [show R = Q by rw [HV.out, HO.out]; simp [*]; try (intros; exfalso; omega)]; rfl, H9.out⟩)
set_option maxRecDepth 10000 in
set_option maxHeartbeats 8000000 in
theorem r3 (C : Nat) (L : Lv) (t : ByteArray) (n d : Int) (ks : List K) (w : World) (vs vp : Value) (a : Option Addr) (N cap : Nat) (hN : ks.length = N) (ht : t.size ≤ 1048576) (hm : N ≤ cap ∧ cap ≤ 9223372036854775807) (hC : C ≤ 1048576)
    (KK : ∀ (w' : World) (n' d' : Int) (N' : Nat), n' = n → d' = d → N' = N → Below w.heap.size w w' → Hid (Calls Tryz.prog 60 #[.agg #[.int .i64 3, .string t, .int .i64 n', .int .i64 d', .slice a N' cap], .int .i64 C, vs, vp] w' fun r w'' => r = .returned (.bool (krights C L ks)) ∧ Below w'.heap.size w' w'')) :
    Calls Tryz.prog 35 #[.agg #[.int .i64 3, .string t, .int .i64 n, .int .i64 d, .slice a N cap], .int .i64 C, vs, vp] w fun r w' => r = .returned (.bool (kright C L (.mk 3 t n d ks))) ∧ Below w.heap.size w w' := by
  have HV : Hid (kright C L (.mk 3 t n d ks) = (ownB C L 3 t n d N && krights C L ks)) := Lib.hid (by rw [kright_mk, hN]; rfl)
  generalize kright C L (.mk 3 t n d ks) = R at *
  generalize krights C L ks = Q at *
  have HO : Hid (ownB C L 3 t n d N = (decide (n = 0) && (decide (d = 0) && (decide ((N : Int) = 0) && Tok.sel t)))) := Lib.hid (by rw [own_3])
  clear hN
  have KSL := fun w1 => Lib.hid (SpecSel.sel_any t w1 ht)
  generalize hb0 : (Tok.sel t : Bool) = b0 at *
  have HBB0 := Lib.hid hb0; clear hb0
  have HA := Lib.hid (arg5_new w 3 t n d (.slice a N cap) 37)
  generalize ownB C L 3 t n d N = O at *
  cases b0
  all_goals
    go_enter Tryz.func35, Tryz.ntmps35
    go_wp2_with fail
    go_quiet (fail)
    have AR := Lib.hid (HA.out.step (draws_low _ nq))
    obtain ⟨wq, hwq⟩ : ∃ x, x = (w.alloc (Obj.cells #[Value.int IntKind.i64 3, Value.string t, Value.int IntKind.i64 n, Value.int IntKind.i64 d, .slice a N cap] 37)).drewN nq := ⟨_, rfl⟩
    rw [← hwq] at AR ⊢
    clear hwq
    have a0 := AR.out.a0; have a1 := AR.out.a1; have a2 := AR.out.a2; have a3 := AR.out.a3; have a4 := AR.out.a4
    go_wp2_with fail
    refine (KSL _).out.mono ?_
    rintro e w1 ⟨rfl, hb1⟩
    replace AR := Lib.hid (AR.out.step hb1)
    clear hb1 a0 a1 a2 a3 a4
    have a0 := AR.out.a0; have a1 := AR.out.a1; have a2 := AR.out.a2; have a3 := AR.out.a3; have a4 := AR.out.a4
    go_wp2_with fail
    all_goals first
      | (go_ret; exact ⟨by rw [show R = false by rw [HV.out, HO.out]; simp [*]; try (intros; exfalso; omega)]; rfl, AR.out.below⟩)
      | (refine (KK _ _ _ _ ?_ ?_ ?_ AR.out.below).out.mono ?_; (any_goals omega); rintro e w9 ⟨rfl, hb9⟩; have H9 := Lib.hid (AR.out.below.trans (hb9.mono AR.out.below.size)); clear hb9; go_wp2_with fail; go_ret; exact ⟨by rw [show R = Q by rw [HV.out, HO.out]; simp [*]; try (intros; exfalso; omega)]; rfl, H9.out⟩)
set_option maxRecDepth 10000 in
set_option maxHeartbeats 8000000 in
theorem r4 (C : Nat) (L : Lv) (t : ByteArray) (n d : Int) (ks : List K) (w : World) (vs vp : Value) (a : Option Addr) (N cap : Nat) (hN : ks.length = N) (ht : t.size ≤ 1048576) (hm : N ≤ cap ∧ cap ≤ 9223372036854775807) (hC : C ≤ 1048576)
    (KK : ∀ (w' : World) (n' d' : Int) (N' : Nat), n' = n → d' = d → N' = N → Below w.heap.size w w' → Hid (Calls Tryz.prog 60 #[.agg #[.int .i64 4, .string t, .int .i64 n', .int .i64 d', .slice a N' cap], .int .i64 C, vs, vp] w' fun r w'' => r = .returned (.bool (krights C L ks)) ∧ Below w'.heap.size w' w'')) :
    Calls Tryz.prog 35 #[.agg #[.int .i64 4, .string t, .int .i64 n, .int .i64 d, .slice a N cap], .int .i64 C, vs, vp] w fun r w' => r = .returned (.bool (kright C L (.mk 4 t n d ks))) ∧ Below w.heap.size w w' := by
  have HV : Hid (kright C L (.mk 4 t n d ks) = (ownB C L 4 t n d N && krights C L ks)) := Lib.hid (by rw [kright_mk, hN]; rfl)
  generalize kright C L (.mk 4 t n d ks) = R at *
  generalize krights C L ks = Q at *
  have HO : Hid (ownB C L 4 t n d N = (decide (t.toList = []) && (decide (n = 0) && (decide (d = 0) && decide ((N : Int) = 0))))) := Lib.hid (by rw [own_4])
  clear hN
  have HA := Lib.hid (arg5_new w 4 t n d (.slice a N cap) 37)
  generalize ownB C L 4 t n d N = O at *
  go_enter Tryz.func35, Tryz.ntmps35
  go_wp2_with fail
  go_quiet (fail)
  have AR := Lib.hid (HA.out.step (draws_low _ nq))
  obtain ⟨wq, hwq⟩ : ∃ x, x = (w.alloc (Obj.cells #[Value.int IntKind.i64 4, Value.string t, Value.int IntKind.i64 n, Value.int IntKind.i64 d, .slice a N cap] 37)).drewN nq := ⟨_, rfl⟩
  rw [← hwq] at AR ⊢
  clear hwq
  have a0 := AR.out.a0; have a1 := AR.out.a1; have a2 := AR.out.a2; have a3 := AR.out.a3; have a4 := AR.out.a4
  go_wp2_with fail
  all_goals first
    | (go_ret; exact ⟨by rw [show R = false by rw [HV.out, HO.out]; simp [*]; try (intros; exfalso; omega)]; rfl, AR.out.below⟩)
    | (refine (KK _ _ _ _ ?_ ?_ ?_ AR.out.below).out.mono ?_; (any_goals omega); rintro e w9 ⟨rfl, hb9⟩; have H9 := Lib.hid (AR.out.below.trans (hb9.mono AR.out.below.size)); clear hb9; go_wp2_with fail; go_ret; exact ⟨by rw [show R = Q by rw [HV.out, HO.out]; simp [*]; try (intros; exfalso; omega)]; rfl, H9.out⟩)
set_option maxRecDepth 10000 in
set_option maxHeartbeats 8000000 in
theorem r5 (C : Nat) (L : Lv) (t : ByteArray) (n d : Int) (ks : List K) (w : World) (vs vp : Value) (a : Option Addr) (N cap : Nat) (hN : ks.length = N) (ht : t.size ≤ 1048576) (hm : N ≤ cap ∧ cap ≤ 9223372036854775807) (hC : C ≤ 1048576)
    (KK : ∀ (w' : World) (n' d' : Int) (N' : Nat), n' = n → d' = d → N' = N → Below w.heap.size w w' → Hid (Calls Tryz.prog 60 #[.agg #[.int .i64 5, .string t, .int .i64 n', .int .i64 d', .slice a N' cap], .int .i64 C, vs, vp] w' fun r w'' => r = .returned (.bool (krights C L ks)) ∧ Below w'.heap.size w' w'')) :
    Calls Tryz.prog 35 #[.agg #[.int .i64 5, .string t, .int .i64 n, .int .i64 d, .slice a N cap], .int .i64 C, vs, vp] w fun r w' => r = .returned (.bool (kright C L (.mk 5 t n d ks))) ∧ Below w.heap.size w w' := by
  have HV : Hid (kright C L (.mk 5 t n d ks) = (ownB C L 5 t n d N && krights C L ks)) := Lib.hid (by rw [kright_mk, hN]; rfl)
  generalize kright C L (.mk 5 t n d ks) = R at *
  generalize krights C L ks = Q at *
  have HO : Hid (ownB C L 5 t n d N = (decide (t.toList = []) && (decide (n = 0) && (decide (d = 0) && decide ((N : Int) = 0))))) := Lib.hid (by rw [own_5])
  clear hN
  have HA := Lib.hid (arg5_new w 5 t n d (.slice a N cap) 37)
  generalize ownB C L 5 t n d N = O at *
  go_enter Tryz.func35, Tryz.ntmps35
  go_wp2_with fail
  go_quiet (fail)
  have AR := Lib.hid (HA.out.step (draws_low _ nq))
  obtain ⟨wq, hwq⟩ : ∃ x, x = (w.alloc (Obj.cells #[Value.int IntKind.i64 5, Value.string t, Value.int IntKind.i64 n, Value.int IntKind.i64 d, .slice a N cap] 37)).drewN nq := ⟨_, rfl⟩
  rw [← hwq] at AR ⊢
  clear hwq
  have a0 := AR.out.a0; have a1 := AR.out.a1; have a2 := AR.out.a2; have a3 := AR.out.a3; have a4 := AR.out.a4
  go_wp2_with fail
  all_goals first
    | (go_ret; exact ⟨by rw [show R = false by rw [HV.out, HO.out]; simp [*]; try (intros; exfalso; omega)]; rfl, AR.out.below⟩)
    | (refine (KK _ _ _ _ ?_ ?_ ?_ AR.out.below).out.mono ?_; (any_goals omega); rintro e w9 ⟨rfl, hb9⟩; have H9 := Lib.hid (AR.out.below.trans (hb9.mono AR.out.below.size)); clear hb9; go_wp2_with fail; go_ret; exact ⟨by rw [show R = Q by rw [HV.out, HO.out]; simp [*]; try (intros; exfalso; omega)]; rfl, H9.out⟩)
set_option maxRecDepth 10000 in
set_option maxHeartbeats 8000000 in
theorem r6 (C : Nat) (L : Lv) (t : ByteArray) (n d : Int) (ks : List K) (w : World) (vs vp : Value) (a : Option Addr) (N cap : Nat) (hN : ks.length = N) (ht : t.size ≤ 1048576) (hm : N ≤ cap ∧ cap ≤ 9223372036854775807) (hC : C ≤ 1048576)
    (KK : ∀ (w' : World) (n' d' : Int) (N' : Nat), n' = n → d' = d → N' = N → Below w.heap.size w w' → Hid (Calls Tryz.prog 60 #[.agg #[.int .i64 6, .string t, .int .i64 n', .int .i64 d', .slice a N' cap], .int .i64 C, vs, vp] w' fun r w'' => r = .returned (.bool (krights C L ks)) ∧ Below w'.heap.size w' w'')) :
    Calls Tryz.prog 35 #[.agg #[.int .i64 6, .string t, .int .i64 n, .int .i64 d, .slice a N cap], .int .i64 C, vs, vp] w fun r w' => r = .returned (.bool (kright C L (.mk 6 t n d ks))) ∧ Below w.heap.size w w' := by
  have HV : Hid (kright C L (.mk 6 t n d ks) = (ownB C L 6 t n d N && krights C L ks)) := Lib.hid (by rw [kright_mk, hN]; rfl)
  generalize kright C L (.mk 6 t n d ks) = R at *
  generalize krights C L ks = Q at *
  have HO : Hid (ownB C L 6 t n d N = (decide (t.toList = []) && (decide (n = 0) && (decide (d = 0) && decide ((N : Int) = 0))))) := Lib.hid (by rw [own_6])
  clear hN
  have HA := Lib.hid (arg5_new w 6 t n d (.slice a N cap) 37)
  generalize ownB C L 6 t n d N = O at *
  go_enter Tryz.func35, Tryz.ntmps35
  go_wp2_with fail
  go_quiet (fail)
  have AR := Lib.hid (HA.out.step (draws_low _ nq))
  obtain ⟨wq, hwq⟩ : ∃ x, x = (w.alloc (Obj.cells #[Value.int IntKind.i64 6, Value.string t, Value.int IntKind.i64 n, Value.int IntKind.i64 d, .slice a N cap] 37)).drewN nq := ⟨_, rfl⟩
  rw [← hwq] at AR ⊢
  clear hwq
  have a0 := AR.out.a0; have a1 := AR.out.a1; have a2 := AR.out.a2; have a3 := AR.out.a3; have a4 := AR.out.a4
  go_wp2_with fail
  all_goals first
    | (go_ret; exact ⟨by rw [show R = false by rw [HV.out, HO.out]; simp [*]; try (intros; exfalso; omega)]; rfl, AR.out.below⟩)
    | (refine (KK _ _ _ _ ?_ ?_ ?_ AR.out.below).out.mono ?_; (any_goals omega); rintro e w9 ⟨rfl, hb9⟩; have H9 := Lib.hid (AR.out.below.trans (hb9.mono AR.out.below.size)); clear hb9; go_wp2_with fail; go_ret; exact ⟨by rw [show R = Q by rw [HV.out, HO.out]; simp [*]; try (intros; exfalso; omega)]; rfl, H9.out⟩)
set_option maxRecDepth 10000 in
set_option maxHeartbeats 8000000 in
theorem r7 (C : Nat) (L : Lv) (t : ByteArray) (n d : Int) (ks : List K) (w : World) (vs vp : Value) (a : Option Addr) (N cap : Nat) (hN : ks.length = N) (ht : t.size ≤ 1048576) (hm : N ≤ cap ∧ cap ≤ 9223372036854775807) (hC : C ≤ 1048576)
    (KK : ∀ (w' : World) (n' d' : Int) (N' : Nat), n' = n → d' = d → N' = N → Below w.heap.size w w' → Hid (Calls Tryz.prog 60 #[.agg #[.int .i64 7, .string t, .int .i64 n', .int .i64 d', .slice a N' cap], .int .i64 C, vs, vp] w' fun r w'' => r = .returned (.bool (krights C L ks)) ∧ Below w'.heap.size w' w'')) :
    Calls Tryz.prog 35 #[.agg #[.int .i64 7, .string t, .int .i64 n, .int .i64 d, .slice a N cap], .int .i64 C, vs, vp] w fun r w' => r = .returned (.bool (kright C L (.mk 7 t n d ks))) ∧ Below w.heap.size w w' := by
  have HV : Hid (kright C L (.mk 7 t n d ks) = (ownB C L 7 t n d N && krights C L ks)) := Lib.hid (by rw [kright_mk, hN]; rfl)
  generalize kright C L (.mk 7 t n d ks) = R at *
  generalize krights C L ks = Q at *
  have HO : Hid (ownB C L 7 t n d N = (decide (t.toList = []) && (decide (n = 0) && (decide (d = 0) && decide ((N : Int) = 0))))) := Lib.hid (by rw [own_7])
  clear hN
  have HA := Lib.hid (arg5_new w 7 t n d (.slice a N cap) 37)
  generalize ownB C L 7 t n d N = O at *
  go_enter Tryz.func35, Tryz.ntmps35
  go_wp2_with fail
  go_quiet (fail)
  have AR := Lib.hid (HA.out.step (draws_low _ nq))
  obtain ⟨wq, hwq⟩ : ∃ x, x = (w.alloc (Obj.cells #[Value.int IntKind.i64 7, Value.string t, Value.int IntKind.i64 n, Value.int IntKind.i64 d, .slice a N cap] 37)).drewN nq := ⟨_, rfl⟩
  rw [← hwq] at AR ⊢
  clear hwq
  have a0 := AR.out.a0; have a1 := AR.out.a1; have a2 := AR.out.a2; have a3 := AR.out.a3; have a4 := AR.out.a4
  go_wp2_with fail
  all_goals first
    | (go_ret; exact ⟨by rw [show R = false by rw [HV.out, HO.out]; simp [*]; try (intros; exfalso; omega)]; rfl, AR.out.below⟩)
    | (refine (KK _ _ _ _ ?_ ?_ ?_ AR.out.below).out.mono ?_; (any_goals omega); rintro e w9 ⟨rfl, hb9⟩; have H9 := Lib.hid (AR.out.below.trans (hb9.mono AR.out.below.size)); clear hb9; go_wp2_with fail; go_ret; exact ⟨by rw [show R = Q by rw [HV.out, HO.out]; simp [*]; try (intros; exfalso; omega)]; rfl, H9.out⟩)
end Go.Proofs.YtekeondbbikkpaaGreat.SpecCore
