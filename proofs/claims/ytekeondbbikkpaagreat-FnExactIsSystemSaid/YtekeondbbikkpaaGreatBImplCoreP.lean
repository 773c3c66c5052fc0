/-
  impl's isPlain and hasKids of a node of the core: what they answer. Written by wip/tools/gen_implcore.py.
-/
import Derived.Test.YtekeondbbikkpaaGreatBCoreMath
import Derived.Test.YtekeondbbikkpaaGreatBImplCount
import Derived.Test.YtekeondbbikkpaaGreatBSpecRtB
import Derived.Deep.QuietTactic
import Derived.BigQuiet
namespace Go.Proofs.YtekeondbbikkpaaGreat.ImplCore
open Go.RowKit
open Strs Tree Core
open SpecCore (draws_low text0 nat0 args_ge args_le)
set_option linter.unusedVariables false
theorem ne0 (d : Int) : (d != 0) = !decide (d = 0) := by
  by_cases h : d = 0
  · subst h; rfl
  · rw [decide_eq_false h]; simpa using h
theorem emp (l : List UInt8) : l.isEmpty = decide (l = []) := by cases l <;> simp
set_option maxRecDepth 10000 in
set_option maxHeartbeats 4000000 in
theorem plain_1 {lo b o : Nat} {w : World} {t : ByteArray} {n d : Int} {ks : List K} (h : KSpot lo w b o (.mk 1 t n d ks)) :
    Calls Tryz.prog 97 #[.pointer (some ⟨b, o, none⟩)] w fun r w' => r = .returned (.bool (plainB 1 t n d)) ∧ Below w.heap.size w w' := by
  have HV : Hid (plainB 1 t n d = (decide (t.toList = []) && decide (d = 0))) := Lib.hid (by rw [← text0]; simp [plainB])
  generalize plainB 1 t n d = R at *
  obtain ⟨vk, c0, c1, c2, c3, c4, -⟩ := h
  simp only [K.kind, K.text, K.num, K.dep] at c0 c1 c2 c3
  go_enter Tryz.func97, Tryz.ntmps97
  go_wp2_with fail
  go_quiet (fail)
  have HB := Lib.hid (draws_low w nq)
  have e0 := cell_keep HB.out c0
  have e1 := cell_keep HB.out c1
  have e2 := cell_keep HB.out c2
  have e3 := cell_keep HB.out c3
  clear c0 c1 c2 c3 c4
  generalize World.drewN w nq = wr at *
  go_wp2_with fail
  all_goals
    go_ret
    exact ⟨by rw [HV.out]; simp [*, ne0, emp], HB.out⟩
set_option maxRecDepth 10000 in
set_option maxHeartbeats 4000000 in
theorem plain_2 {lo b o : Nat} {w : World} {t : ByteArray} {n d : Int} {ks : List K} (h : KSpot lo w b o (.mk 2 t n d ks)) :
    Calls Tryz.prog 97 #[.pointer (some ⟨b, o, none⟩)] w fun r w' => r = .returned (.bool (plainB 2 t n d)) ∧ Below w.heap.size w w' := by
  have HV : Hid (plainB 2 t n d = (decide (n = 0) && decide (d = 0))) := Lib.hid (by simp [plainB])
  generalize plainB 2 t n d = R at *
  obtain ⟨vk, c0, c1, c2, c3, c4, -⟩ := h
  simp only [K.kind, K.text, K.num, K.dep] at c0 c1 c2 c3
  go_enter Tryz.func97, Tryz.ntmps97
  go_wp2_with fail
  go_quiet (fail)
  have HB := Lib.hid (draws_low w nq)
  have e0 := cell_keep HB.out c0
  have e1 := cell_keep HB.out c1
  have e2 := cell_keep HB.out c2
  have e3 := cell_keep HB.out c3
  clear c0 c1 c2 c3 c4
  generalize World.drewN w nq = wr at *
  go_wp2_with fail
  all_goals
    go_ret
    exact ⟨by rw [HV.out]; simp [*, ne0, emp], HB.out⟩
set_option maxRecDepth 10000 in
set_option maxHeartbeats 4000000 in
theorem plain_3 {lo b o : Nat} {w : World} {t : ByteArray} {n d : Int} {ks : List K} (h : KSpot lo w b o (.mk 3 t n d ks)) :
    Calls Tryz.prog 97 #[.pointer (some ⟨b, o, none⟩)] w fun r w' => r = .returned (.bool (plainB 3 t n d)) ∧ Below w.heap.size w w' := by
  have HV : Hid (plainB 3 t n d = (decide (n = 0) && decide (d = 0))) := Lib.hid (by simp [plainB])
  generalize plainB 3 t n d = R at *
  obtain ⟨vk, c0, c1, c2, c3, c4, -⟩ := h
  simp only [K.kind, K.text, K.num, K.dep] at c0 c1 c2 c3
  go_enter Tryz.func97, Tryz.ntmps97
  go_wp2_with fail
  go_quiet (fail)
  have HB := Lib.hid (draws_low w nq)
  have e0 := cell_keep HB.out c0
  have e1 := cell_keep HB.out c1
  have e2 := cell_keep HB.out c2
  have e3 := cell_keep HB.out c3
  clear c0 c1 c2 c3 c4
  generalize World.drewN w nq = wr at *
  go_wp2_with fail
  all_goals
    go_ret
    exact ⟨by rw [HV.out]; simp [*, ne0, emp], HB.out⟩
set_option maxRecDepth 10000 in
set_option maxHeartbeats 4000000 in
theorem plain_8 {lo b o : Nat} {w : World} {t : ByteArray} {n d : Int} {ks : List K} (h : KSpot lo w b o (.mk 8 t n d ks)) :
    Calls Tryz.prog 97 #[.pointer (some ⟨b, o, none⟩)] w fun r w' => r = .returned (.bool (plainB 8 t n d)) ∧ Below w.heap.size w w' := by
  have HV : Hid (plainB 8 t n d = decide (t.toList = [])) := Lib.hid (by rw [← text0]; simp [plainB])
  generalize plainB 8 t n d = R at *
  obtain ⟨vk, c0, c1, c2, c3, c4, -⟩ := h
  simp only [K.kind, K.text, K.num, K.dep] at c0 c1 c2 c3
  go_enter Tryz.func97, Tryz.ntmps97
  go_wp2_with fail
  go_quiet (fail)
  have HB := Lib.hid (draws_low w nq)
  have e0 := cell_keep HB.out c0
  have e1 := cell_keep HB.out c1
  have e2 := cell_keep HB.out c2
  have e3 := cell_keep HB.out c3
  clear c0 c1 c2 c3 c4
  generalize World.drewN w nq = wr at *
  go_wp2_with fail
  all_goals
    go_ret
    exact ⟨by rw [HV.out]; simp [*, ne0, emp], HB.out⟩
set_option maxRecDepth 10000 in
set_option maxHeartbeats 4000000 in
theorem plain_9 {lo b o : Nat} {w : World} {t : ByteArray} {n d : Int} {ks : List K} (h : KSpot lo w b o (.mk 9 t n d ks)) :
    Calls Tryz.prog 97 #[.pointer (some ⟨b, o, none⟩)] w fun r w' => r = .returned (.bool (plainB 9 t n d)) ∧ Below w.heap.size w w' := by
  have HV : Hid (plainB 9 t n d = decide (t.toList = [])) := Lib.hid (by rw [← text0]; simp [plainB])
  generalize plainB 9 t n d = R at *
  obtain ⟨vk, c0, c1, c2, c3, c4, -⟩ := h
  simp only [K.kind, K.text, K.num, K.dep] at c0 c1 c2 c3
  go_enter Tryz.func97, Tryz.ntmps97
  go_wp2_with fail
  go_quiet (fail)
  have HB := Lib.hid (draws_low w nq)
  have e0 := cell_keep HB.out c0
  have e1 := cell_keep HB.out c1
  have e2 := cell_keep HB.out c2
  have e3 := cell_keep HB.out c3
  clear c0 c1 c2 c3 c4
  generalize World.drewN w nq = wr at *
  go_wp2_with fail
  all_goals
    go_ret
    exact ⟨by rw [HV.out]; simp [*, ne0, emp], HB.out⟩
set_option maxRecDepth 10000 in
set_option maxHeartbeats 4000000 in
theorem plain_10 {lo b o : Nat} {w : World} {t : ByteArray} {n d : Int} {ks : List K} (h : KSpot lo w b o (.mk 10 t n d ks)) :
    Calls Tryz.prog 97 #[.pointer (some ⟨b, o, none⟩)] w fun r w' => r = .returned (.bool (plainB 10 t n d)) ∧ Below w.heap.size w w' := by
  have HV : Hid (plainB 10 t n d = (decide (n = 0) && decide (d = 0))) := Lib.hid (by simp [plainB])
  generalize plainB 10 t n d = R at *
  obtain ⟨vk, c0, c1, c2, c3, c4, -⟩ := h
  simp only [K.kind, K.text, K.num, K.dep] at c0 c1 c2 c3
  go_enter Tryz.func97, Tryz.ntmps97
  go_wp2_with fail
  go_quiet (fail)
  have HB := Lib.hid (draws_low w nq)
  have e0 := cell_keep HB.out c0
  have e1 := cell_keep HB.out c1
  have e2 := cell_keep HB.out c2
  have e3 := cell_keep HB.out c3
  clear c0 c1 c2 c3 c4
  generalize World.drewN w nq = wr at *
  go_wp2_with fail
  all_goals
    go_ret
    exact ⟨by rw [HV.out]; simp [*, ne0, emp], HB.out⟩
set_option maxRecDepth 10000 in
set_option maxHeartbeats 4000000 in
theorem plain_11 {lo b o : Nat} {w : World} {t : ByteArray} {n d : Int} {ks : List K} (h : KSpot lo w b o (.mk 11 t n d ks)) :
    Calls Tryz.prog 97 #[.pointer (some ⟨b, o, none⟩)] w fun r w' => r = .returned (.bool (plainB 11 t n d)) ∧ Below w.heap.size w w' := by
  have HV : Hid (plainB 11 t n d = (decide (n = 0) && decide (d = 0))) := Lib.hid (by simp [plainB])
  generalize plainB 11 t n d = R at *
  obtain ⟨vk, c0, c1, c2, c3, c4, -⟩ := h
  simp only [K.kind, K.text, K.num, K.dep] at c0 c1 c2 c3
  go_enter Tryz.func97, Tryz.ntmps97
  go_wp2_with fail
  go_quiet (fail)
  have HB := Lib.hid (draws_low w nq)
  have e0 := cell_keep HB.out c0
  have e1 := cell_keep HB.out c1
  have e2 := cell_keep HB.out c2
  have e3 := cell_keep HB.out c3
  clear c0 c1 c2 c3 c4
  generalize World.drewN w nq = wr at *
  go_wp2_with fail
  all_goals
    go_ret
    exact ⟨by rw [HV.out]; simp [*, ne0, emp], HB.out⟩
set_option maxRecDepth 10000 in
set_option maxHeartbeats 4000000 in
theorem plain_12 {lo b o : Nat} {w : World} {t : ByteArray} {n d : Int} {ks : List K} (h : KSpot lo w b o (.mk 12 t n d ks)) :
    Calls Tryz.prog 97 #[.pointer (some ⟨b, o, none⟩)] w fun r w' => r = .returned (.bool (plainB 12 t n d)) ∧ Below w.heap.size w w' := by
  have HV : Hid (plainB 12 t n d = (decide (t.toList = []) && decide (d = 0))) := Lib.hid (by rw [← text0]; simp [plainB])
  generalize plainB 12 t n d = R at *
  obtain ⟨vk, c0, c1, c2, c3, c4, -⟩ := h
  simp only [K.kind, K.text, K.num, K.dep] at c0 c1 c2 c3
  go_enter Tryz.func97, Tryz.ntmps97
  go_wp2_with fail
  go_quiet (fail)
  have HB := Lib.hid (draws_low w nq)
  have e0 := cell_keep HB.out c0
  have e1 := cell_keep HB.out c1
  have e2 := cell_keep HB.out c2
  have e3 := cell_keep HB.out c3
  clear c0 c1 c2 c3 c4
  generalize World.drewN w nq = wr at *
  go_wp2_with fail
  all_goals
    go_ret
    exact ⟨by rw [HV.out]; simp [*, ne0, emp], HB.out⟩
set_option maxRecDepth 10000 in
set_option maxHeartbeats 4000000 in
theorem plain_13 {lo b o : Nat} {w : World} {t : ByteArray} {n d : Int} {ks : List K} (h : KSpot lo w b o (.mk 13 t n d ks)) :
    Calls Tryz.prog 97 #[.pointer (some ⟨b, o, none⟩)] w fun r w' => r = .returned (.bool (plainB 13 t n d)) ∧ Below w.heap.size w w' := by
  have HV : Hid (plainB 13 t n d = (decide (n = 0) && decide (d = 0))) := Lib.hid (by simp [plainB])
  generalize plainB 13 t n d = R at *
  obtain ⟨vk, c0, c1, c2, c3, c4, -⟩ := h
  simp only [K.kind, K.text, K.num, K.dep] at c0 c1 c2 c3
  go_enter Tryz.func97, Tryz.ntmps97
  go_wp2_with fail
  go_quiet (fail)
  have HB := Lib.hid (draws_low w nq)
  have e0 := cell_keep HB.out c0
  have e1 := cell_keep HB.out c1
  have e2 := cell_keep HB.out c2
  have e3 := cell_keep HB.out c3
  clear c0 c1 c2 c3 c4
  generalize World.drewN w nq = wr at *
  go_wp2_with fail
  all_goals
    go_ret
    exact ⟨by rw [HV.out]; simp [*, ne0, emp], HB.out⟩
set_option maxRecDepth 10000 in
set_option maxHeartbeats 4000000 in
theorem plain_14 {lo b o : Nat} {w : World} {t : ByteArray} {n d : Int} {ks : List K} (h : KSpot lo w b o (.mk 14 t n d ks)) :
    Calls Tryz.prog 97 #[.pointer (some ⟨b, o, none⟩)] w fun r w' => r = .returned (.bool (plainB 14 t n d)) ∧ Below w.heap.size w w' := by
  have HV : Hid (plainB 14 t n d = decide (d = 0)) := Lib.hid (by simp [plainB])
  generalize plainB 14 t n d = R at *
  obtain ⟨vk, c0, c1, c2, c3, c4, -⟩ := h
  simp only [K.kind, K.text, K.num, K.dep] at c0 c1 c2 c3
  go_enter Tryz.func97, Tryz.ntmps97
  go_wp2_with fail
  go_quiet (fail)
  have HB := Lib.hid (draws_low w nq)
  have e0 := cell_keep HB.out c0
  have e1 := cell_keep HB.out c1
  have e2 := cell_keep HB.out c2
  have e3 := cell_keep HB.out c3
  clear c0 c1 c2 c3 c4
  generalize World.drewN w nq = wr at *
  go_wp2_with fail
  all_goals
    go_ret
    exact ⟨by rw [HV.out]; simp [*, ne0, emp], HB.out⟩
set_option maxRecDepth 10000 in
set_option maxHeartbeats 4000000 in
theorem plain_16 {lo b o : Nat} {w : World} {t : ByteArray} {n d : Int} {ks : List K} (h : KSpot lo w b o (.mk 16 t n d ks)) :
    Calls Tryz.prog 97 #[.pointer (some ⟨b, o, none⟩)] w fun r w' => r = .returned (.bool (plainB 16 t n d)) ∧ Below w.heap.size w w' := by
  have HV : Hid (plainB 16 t n d = decide (t.toList = [])) := Lib.hid (by rw [← text0]; simp [plainB])
  generalize plainB 16 t n d = R at *
  obtain ⟨vk, c0, c1, c2, c3, c4, -⟩ := h
  simp only [K.kind, K.text, K.num, K.dep] at c0 c1 c2 c3
  go_enter Tryz.func97, Tryz.ntmps97
  go_wp2_with fail
  go_quiet (fail)
  have HB := Lib.hid (draws_low w nq)
  have e0 := cell_keep HB.out c0
  have e1 := cell_keep HB.out c1
  have e2 := cell_keep HB.out c2
  have e3 := cell_keep HB.out c3
  clear c0 c1 c2 c3 c4
  generalize World.drewN w nq = wr at *
  go_wp2_with fail
  all_goals
    go_ret
    exact ⟨by rw [HV.out]; simp [*, ne0, emp], HB.out⟩
set_option maxRecDepth 10000 in
set_option maxHeartbeats 4000000 in
theorem plain_20 {lo b o : Nat} {w : World} {t : ByteArray} {n d : Int} {ks : List K} (h : KSpot lo w b o (.mk 20 t n d ks)) :
    Calls Tryz.prog 97 #[.pointer (some ⟨b, o, none⟩)] w fun r w' => r = .returned (.bool (plainB 20 t n d)) ∧ Below w.heap.size w w' := by
  have HV : Hid (plainB 20 t n d = (decide (t.toList = []) && decide (d = 0))) := Lib.hid (by rw [← text0]; simp [plainB])
  generalize plainB 20 t n d = R at *
  obtain ⟨vk, c0, c1, c2, c3, c4, -⟩ := h
  simp only [K.kind, K.text, K.num, K.dep] at c0 c1 c2 c3
  go_enter Tryz.func97, Tryz.ntmps97
  go_wp2_with fail
  go_quiet (fail)
  have HB := Lib.hid (draws_low w nq)
  have e0 := cell_keep HB.out c0
  have e1 := cell_keep HB.out c1
  have e2 := cell_keep HB.out c2
  have e3 := cell_keep HB.out c3
  clear c0 c1 c2 c3 c4
  generalize World.drewN w nq = wr at *
  go_wp2_with fail
  all_goals
    go_ret
    exact ⟨by rw [HV.out]; simp [*, ne0, emp], HB.out⟩
set_option maxRecDepth 10000 in
set_option maxHeartbeats 4000000 in
theorem plain_21 {lo b o : Nat} {w : World} {t : ByteArray} {n d : Int} {ks : List K} (h : KSpot lo w b o (.mk 21 t n d ks)) :
    Calls Tryz.prog 97 #[.pointer (some ⟨b, o, none⟩)] w fun r w' => r = .returned (.bool (plainB 21 t n d)) ∧ Below w.heap.size w w' := by
  have HV : Hid (plainB 21 t n d = (decide (t.toList = []) && decide (d = 0))) := Lib.hid (by rw [← text0]; simp [plainB])
  generalize plainB 21 t n d = R at *
  obtain ⟨vk, c0, c1, c2, c3, c4, -⟩ := h
  simp only [K.kind, K.text, K.num, K.dep] at c0 c1 c2 c3
  go_enter Tryz.func97, Tryz.ntmps97
  go_wp2_with fail
  go_quiet (fail)
  have HB := Lib.hid (draws_low w nq)
  have e0 := cell_keep HB.out c0
  have e1 := cell_keep HB.out c1
  have e2 := cell_keep HB.out c2
  have e3 := cell_keep HB.out c3
  clear c0 c1 c2 c3 c4
  generalize World.drewN w nq = wr at *
  go_wp2_with fail
  all_goals
    go_ret
    exact ⟨by rw [HV.out]; simp [*, ne0, emp], HB.out⟩
set_option maxRecDepth 10000 in
set_option maxHeartbeats 4000000 in
theorem plain_other {lo b o : Nat} {w : World} {k : Int} {t : ByteArray} {n d : Int} {ks : List K} (h : KSpot lo w b o (.mk k t n d ks)) (hk : k ≠ 1 ∧ k ≠ 2 ∧ k ≠ 3 ∧ k ≠ 8 ∧ k ≠ 9 ∧ k ≠ 10 ∧ k ≠ 11 ∧ k ≠ 12 ∧ k ≠ 13 ∧ k ≠ 14 ∧ k ≠ 16 ∧ k ≠ 20 ∧ k ≠ 21) :
    Calls Tryz.prog 97 #[.pointer (some ⟨b, o, none⟩)] w fun r w' => r = .returned (.bool (plainB k t n d)) ∧ Below w.heap.size w w' := by
  have HV : Hid (plainB k t n d = (decide (t.toList = []) && (decide (n = 0) && decide (d = 0)))) := Lib.hid (by rw [← text0]; unfold plainB; rw [if_neg (by omega), if_neg (by omega), if_neg (by omega), if_neg (by omega)])
  generalize plainB k t n d = R at *
  obtain ⟨vk, c0, c1, c2, c3, c4, -⟩ := h
  simp only [K.kind, K.text, K.num, K.dep] at c0 c1 c2 c3
  obtain ⟨h1, h2, h3, h8, h9, h10, h11, h12, h13, h14, h16, h20, h21⟩ := hk
  have b1 : (k == 1) = false := by rw [beq_eq_false_iff_ne]; exact h1
  have b2 : (k == 2) = false := by rw [beq_eq_false_iff_ne]; exact h2
  have b3 : (k == 3) = false := by rw [beq_eq_false_iff_ne]; exact h3
  have b8 : (k == 8) = false := by rw [beq_eq_false_iff_ne]; exact h8
  have b9 : (k == 9) = false := by rw [beq_eq_false_iff_ne]; exact h9
  have b10 : (k == 10) = false := by rw [beq_eq_false_iff_ne]; exact h10
  have b11 : (k == 11) = false := by rw [beq_eq_false_iff_ne]; exact h11
  have b12 : (k == 12) = false := by rw [beq_eq_false_iff_ne]; exact h12
  have b13 : (k == 13) = false := by rw [beq_eq_false_iff_ne]; exact h13
  have b14 : (k == 14) = false := by rw [beq_eq_false_iff_ne]; exact h14
  have b16 : (k == 16) = false := by rw [beq_eq_false_iff_ne]; exact h16
  have b20 : (k == 20) = false := by rw [beq_eq_false_iff_ne]; exact h20
  have b21 : (k == 21) = false := by rw [beq_eq_false_iff_ne]; exact h21
  clear h1 h2 h3 h8 h9 h10 h11 h12 h13 h14 h16 h20 h21
  go_enter Tryz.func97, Tryz.ntmps97
  go_wp2_with fail
  go_quiet (fail)
  have HB := Lib.hid (draws_low w nq)
  have e0 := cell_keep HB.out c0
  have e1 := cell_keep HB.out c1
  have e2 := cell_keep HB.out c2
  have e3 := cell_keep HB.out c3
  clear c0 c1 c2 c3 c4
  generalize World.drewN w nq = wr at *
  go_wp2_with fail
  all_goals
    go_ret
    exact ⟨by rw [HV.out]; simp [*, ne0, emp], HB.out⟩
theorem plain_any {lo b o : Nat} {w : World} {e : K} (h : KSpot lo w b o e) :
    Calls Tryz.prog 97 #[.pointer (some ⟨b, o, none⟩)] w fun r w' => r = .returned (.bool (plainB e.kind e.text e.num e.dep)) ∧ Below w.heap.size w w' := by
  obtain ⟨k, t, n, d, ks⟩ := e
  show Calls Tryz.prog _ _ w fun r w' => r = .returned (.bool (plainB k t n d)) ∧ Below w.heap.size w w'
  by_cases h1 : k = 1
  · subst h1; exact plain_1 h
  by_cases h2 : k = 2
  · subst h2; exact plain_2 h
  by_cases h3 : k = 3
  · subst h3; exact plain_3 h
  by_cases h8 : k = 8
  · subst h8; exact plain_8 h
  by_cases h9 : k = 9
  · subst h9; exact plain_9 h
  by_cases h10 : k = 10
  · subst h10; exact plain_10 h
  by_cases h11 : k = 11
  · subst h11; exact plain_11 h
  by_cases h12 : k = 12
  · subst h12; exact plain_12 h
  by_cases h13 : k = 13
  · subst h13; exact plain_13 h
  by_cases h14 : k = 14
  · subst h14; exact plain_14 h
  by_cases h16 : k = 16
  · subst h16; exact plain_16 h
  by_cases h20 : k = 20
  · subst h20; exact plain_20 h
  by_cases h21 : k = 21
  · subst h21; exact plain_21 h
  exact plain_other h ⟨h1, h2, h3, h8, h9, h10, h11, h12, h13, h14, h16, h20, h21⟩
set_option maxRecDepth 10000 in
set_option maxHeartbeats 4000000 in
theorem kids_1 {lo b o : Nat} {w : World} {t : ByteArray} {n d : Int} {ks : List K} (h : KSpot lo w b o (.mk 1 t n d ks)) :
    Calls Tryz.prog 98 #[.pointer (some ⟨b, o, none⟩)] w fun r w' => r = .returned (.bool (countB 1 t ks.length)) ∧ Below w.heap.size w w' := by
  have HV : Hid (countB 1 t ks.length = decide ((ks.length : Int) = 0)) := Lib.hid (by rw [show decide ((ks.length : Int) = 0) = decide (ks.length = 0) by rw [Bool.eq_iff_iff]; simp only [decide_eq_true_eq]; omega]; simp [countB])
  generalize countB 1 t ks.length = R at *
  obtain ⟨vk, c0, c1, c2, c3, c4, hn⟩ := h
  obtain ⟨-, -, -, -, a, cap, rfl, hm, -⟩ := kat_iff.1 hn
  clear hn
  simp only [K.kind, K.text, K.num, K.dep, K.kids] at *
  unfold maxLen at hm
  generalize ks.length = N at *
  go_enter Tryz.func98, Tryz.ntmps98
  go_wp2_with fail
  go_ret
  exact ⟨by rw [HV.out]; rfl, Below.refl _ _⟩
set_option maxRecDepth 10000 in
set_option maxHeartbeats 4000000 in
theorem kids_2 {lo b o : Nat} {w : World} {t : ByteArray} {n d : Int} {ks : List K} (h : KSpot lo w b o (.mk 2 t n d ks)) :
    Calls Tryz.prog 98 #[.pointer (some ⟨b, o, none⟩)] w fun r w' => r = .returned (.bool (countB 2 t ks.length)) ∧ Below w.heap.size w w' := by
  have HV : Hid (countB 2 t ks.length = decide ((ks.length : Int) = 0)) := Lib.hid (by rw [show decide ((ks.length : Int) = 0) = decide (ks.length = 0) by rw [Bool.eq_iff_iff]; simp only [decide_eq_true_eq]; omega]; simp [countB])
  generalize countB 2 t ks.length = R at *
  obtain ⟨vk, c0, c1, c2, c3, c4, hn⟩ := h
  obtain ⟨-, -, -, -, a, cap, rfl, hm, -⟩ := kat_iff.1 hn
  clear hn
  simp only [K.kind, K.text, K.num, K.dep, K.kids] at *
  unfold maxLen at hm
  generalize ks.length = N at *
  go_enter Tryz.func98, Tryz.ntmps98
  go_wp2_with fail
  go_ret
  exact ⟨by rw [HV.out]; rfl, Below.refl _ _⟩
set_option maxRecDepth 10000 in
set_option maxHeartbeats 4000000 in
theorem kids_3 {lo b o : Nat} {w : World} {t : ByteArray} {n d : Int} {ks : List K} (h : KSpot lo w b o (.mk 3 t n d ks)) :
    Calls Tryz.prog 98 #[.pointer (some ⟨b, o, none⟩)] w fun r w' => r = .returned (.bool (countB 3 t ks.length)) ∧ Below w.heap.size w w' := by
  have HV : Hid (countB 3 t ks.length = decide ((ks.length : Int) = 0)) := Lib.hid (by rw [show decide ((ks.length : Int) = 0) = decide (ks.length = 0) by rw [Bool.eq_iff_iff]; simp only [decide_eq_true_eq]; omega]; simp [countB])
  generalize countB 3 t ks.length = R at *
  obtain ⟨vk, c0, c1, c2, c3, c4, hn⟩ := h
  obtain ⟨-, -, -, -, a, cap, rfl, hm, -⟩ := kat_iff.1 hn
  clear hn
  simp only [K.kind, K.text, K.num, K.dep, K.kids] at *
  unfold maxLen at hm
  generalize ks.length = N at *
  go_enter Tryz.func98, Tryz.ntmps98
  go_wp2_with fail
  go_ret
  exact ⟨by rw [HV.out]; rfl, Below.refl _ _⟩
set_option maxRecDepth 10000 in
set_option maxHeartbeats 4000000 in
theorem kids_4 {lo b o : Nat} {w : World} {t : ByteArray} {n d : Int} {ks : List K} (h : KSpot lo w b o (.mk 4 t n d ks)) :
    Calls Tryz.prog 98 #[.pointer (some ⟨b, o, none⟩)] w fun r w' => r = .returned (.bool (countB 4 t ks.length)) ∧ Below w.heap.size w w' := by
  have HV : Hid (countB 4 t ks.length = decide ((ks.length : Int) = 0)) := Lib.hid (by rw [show decide ((ks.length : Int) = 0) = decide (ks.length = 0) by rw [Bool.eq_iff_iff]; simp only [decide_eq_true_eq]; omega]; simp [countB])
  generalize countB 4 t ks.length = R at *
  obtain ⟨vk, c0, c1, c2, c3, c4, hn⟩ := h
  obtain ⟨-, -, -, -, a, cap, rfl, hm, -⟩ := kat_iff.1 hn
  clear hn
  simp only [K.kind, K.text, K.num, K.dep, K.kids] at *
  unfold maxLen at hm
  generalize ks.length = N at *
  go_enter Tryz.func98, Tryz.ntmps98
  go_wp2_with fail
  go_ret
  exact ⟨by rw [HV.out]; rfl, Below.refl _ _⟩
set_option maxRecDepth 10000 in
set_option maxHeartbeats 4000000 in
theorem kids_5 {lo b o : Nat} {w : World} {t : ByteArray} {n d : Int} {ks : List K} (h : KSpot lo w b o (.mk 5 t n d ks)) :
    Calls Tryz.prog 98 #[.pointer (some ⟨b, o, none⟩)] w fun r w' => r = .returned (.bool (countB 5 t ks.length)) ∧ Below w.heap.size w w' := by
  have HV : Hid (countB 5 t ks.length = decide ((ks.length : Int) = 0)) := Lib.hid (by rw [show decide ((ks.length : Int) = 0) = decide (ks.length = 0) by rw [Bool.eq_iff_iff]; simp only [decide_eq_true_eq]; omega]; simp [countB])
  generalize countB 5 t ks.length = R at *
  obtain ⟨vk, c0, c1, c2, c3, c4, hn⟩ := h
  obtain ⟨-, -, -, -, a, cap, rfl, hm, -⟩ := kat_iff.1 hn
  clear hn
  simp only [K.kind, K.text, K.num, K.dep, K.kids] at *
  unfold maxLen at hm
  generalize ks.length = N at *
  go_enter Tryz.func98, Tryz.ntmps98
  go_wp2_with fail
  go_ret
  exact ⟨by rw [HV.out]; rfl, Below.refl _ _⟩
set_option maxRecDepth 10000 in
set_option maxHeartbeats 4000000 in
theorem kids_6 {lo b o : Nat} {w : World} {t : ByteArray} {n d : Int} {ks : List K} (h : KSpot lo w b o (.mk 6 t n d ks)) :
    Calls Tryz.prog 98 #[.pointer (some ⟨b, o, none⟩)] w fun r w' => r = .returned (.bool (countB 6 t ks.length)) ∧ Below w.heap.size w w' := by
  have HV : Hid (countB 6 t ks.length = decide ((ks.length : Int) = 0)) := Lib.hid (by rw [show decide ((ks.length : Int) = 0) = decide (ks.length = 0) by rw [Bool.eq_iff_iff]; simp only [decide_eq_true_eq]; omega]; simp [countB])
  generalize countB 6 t ks.length = R at *
  obtain ⟨vk, c0, c1, c2, c3, c4, hn⟩ := h
  obtain ⟨-, -, -, -, a, cap, rfl, hm, -⟩ := kat_iff.1 hn
  clear hn
  simp only [K.kind, K.text, K.num, K.dep, K.kids] at *
  unfold maxLen at hm
  generalize ks.length = N at *
  go_enter Tryz.func98, Tryz.ntmps98
  go_wp2_with fail
  go_ret
  exact ⟨by rw [HV.out]; rfl, Below.refl _ _⟩
set_option maxRecDepth 10000 in
set_option maxHeartbeats 4000000 in
theorem kids_7 {lo b o : Nat} {w : World} {t : ByteArray} {n d : Int} {ks : List K} (h : KSpot lo w b o (.mk 7 t n d ks)) :
    Calls Tryz.prog 98 #[.pointer (some ⟨b, o, none⟩)] w fun r w' => r = .returned (.bool (countB 7 t ks.length)) ∧ Below w.heap.size w w' := by
  have HV : Hid (countB 7 t ks.length = decide ((ks.length : Int) = 0)) := Lib.hid (by rw [show decide ((ks.length : Int) = 0) = decide (ks.length = 0) by rw [Bool.eq_iff_iff]; simp only [decide_eq_true_eq]; omega]; simp [countB])
  generalize countB 7 t ks.length = R at *
  obtain ⟨vk, c0, c1, c2, c3, c4, hn⟩ := h
  obtain ⟨-, -, -, -, a, cap, rfl, hm, -⟩ := kat_iff.1 hn
  clear hn
  simp only [K.kind, K.text, K.num, K.dep, K.kids] at *
  unfold maxLen at hm
  generalize ks.length = N at *
  go_enter Tryz.func98, Tryz.ntmps98
  go_wp2_with fail
  go_ret
  exact ⟨by rw [HV.out]; rfl, Below.refl _ _⟩
set_option maxRecDepth 10000 in
set_option maxHeartbeats 4000000 in
theorem kids_8 {lo b o : Nat} {w : World} {t : ByteArray} {n d : Int} {ks : List K} (h : KSpot lo w b o (.mk 8 t n d ks)) :
    Calls Tryz.prog 98 #[.pointer (some ⟨b, o, none⟩)] w fun r w' => r = .returned (.bool (countB 8 t ks.length)) ∧ Below w.heap.size w w' := by
  have HV : Hid (countB 8 t ks.length = decide ((ks.length : Int) = 0)) := Lib.hid (by rw [show decide ((ks.length : Int) = 0) = decide (ks.length = 0) by rw [Bool.eq_iff_iff]; simp only [decide_eq_true_eq]; omega]; simp [countB])
  generalize countB 8 t ks.length = R at *
  obtain ⟨vk, c0, c1, c2, c3, c4, hn⟩ := h
  obtain ⟨-, -, -, -, a, cap, rfl, hm, -⟩ := kat_iff.1 hn
  clear hn
  simp only [K.kind, K.text, K.num, K.dep, K.kids] at *
  unfold maxLen at hm
  generalize ks.length = N at *
  go_enter Tryz.func98, Tryz.ntmps98
  go_wp2_with fail
  go_ret
  exact ⟨by rw [HV.out]; rfl, Below.refl _ _⟩
set_option maxRecDepth 10000 in
set_option maxHeartbeats 4000000 in
theorem kids_9 {lo b o : Nat} {w : World} {t : ByteArray} {n d : Int} {ks : List K} (h : KSpot lo w b o (.mk 9 t n d ks)) :
    Calls Tryz.prog 98 #[.pointer (some ⟨b, o, none⟩)] w fun r w' => r = .returned (.bool (countB 9 t ks.length)) ∧ Below w.heap.size w w' := by
  have HV : Hid (countB 9 t ks.length = decide ((ks.length : Int) = 1)) := Lib.hid (by rw [show decide ((ks.length : Int) = 1) = decide (ks.length = 1) by rw [Bool.eq_iff_iff]; simp only [decide_eq_true_eq]; omega]; simp [countB])
  generalize countB 9 t ks.length = R at *
  obtain ⟨vk, c0, c1, c2, c3, c4, hn⟩ := h
  obtain ⟨-, -, -, -, a, cap, rfl, hm, -⟩ := kat_iff.1 hn
  clear hn
  simp only [K.kind, K.text, K.num, K.dep, K.kids] at *
  unfold maxLen at hm
  generalize ks.length = N at *
  go_enter Tryz.func98, Tryz.ntmps98
  go_wp2_with fail
  go_ret
  exact ⟨by rw [HV.out]; rfl, Below.refl _ _⟩
set_option maxRecDepth 10000 in
set_option maxHeartbeats 4000000 in
theorem kids_10 {lo b o : Nat} {w : World} {t : ByteArray} {n d : Int} {ks : List K} (h : KSpot lo w b o (.mk 10 t n d ks)) :
    Calls Tryz.prog 98 #[.pointer (some ⟨b, o, none⟩)] w fun r w' => r = .returned (.bool (countB 10 t ks.length)) ∧ Below w.heap.size w w' := by
  have HV : Hid (countB 10 t ks.length = decide ((ks.length : Int) = 0)) := Lib.hid (by rw [show decide ((ks.length : Int) = 0) = decide (ks.length = 0) by rw [Bool.eq_iff_iff]; simp only [decide_eq_true_eq]; omega]; simp [countB])
  generalize countB 10 t ks.length = R at *
  obtain ⟨vk, c0, c1, c2, c3, c4, hn⟩ := h
  obtain ⟨-, -, -, -, a, cap, rfl, hm, -⟩ := kat_iff.1 hn
  clear hn
  simp only [K.kind, K.text, K.num, K.dep, K.kids] at *
  unfold maxLen at hm
  generalize ks.length = N at *
  go_enter Tryz.func98, Tryz.ntmps98
  go_wp2_with fail
  go_ret
  exact ⟨by rw [HV.out]; rfl, Below.refl _ _⟩
set_option maxRecDepth 10000 in
set_option maxHeartbeats 4000000 in
theorem kids_11 {lo b o : Nat} {w : World} {t : ByteArray} {n d : Int} {ks : List K} (h : KSpot lo w b o (.mk 11 t n d ks)) :
    Calls Tryz.prog 98 #[.pointer (some ⟨b, o, none⟩)] w fun r w' => r = .returned (.bool (countB 11 t ks.length)) ∧ Below w.heap.size w w' := by
  have HV : Hid (countB 11 t ks.length = decide ((ks.length : Int) = 1)) := Lib.hid (by rw [show decide ((ks.length : Int) = 1) = decide (ks.length = 1) by rw [Bool.eq_iff_iff]; simp only [decide_eq_true_eq]; omega]; simp [countB])
  generalize countB 11 t ks.length = R at *
  obtain ⟨vk, c0, c1, c2, c3, c4, hn⟩ := h
  obtain ⟨-, -, -, -, a, cap, rfl, hm, -⟩ := kat_iff.1 hn
  clear hn
  simp only [K.kind, K.text, K.num, K.dep, K.kids] at *
  unfold maxLen at hm
  generalize ks.length = N at *
  go_enter Tryz.func98, Tryz.ntmps98
  go_wp2_with fail
  go_ret
  exact ⟨by rw [HV.out]; rfl, Below.refl _ _⟩
set_option maxRecDepth 10000 in
set_option maxHeartbeats 4000000 in
theorem kids_12 {lo b o : Nat} {w : World} {t : ByteArray} {n d : Int} {ks : List K} (h : KSpot lo w b o (.mk 12 t n d ks)) :
    Calls Tryz.prog 98 #[.pointer (some ⟨b, o, none⟩)] w fun r w' => r = .returned (.bool (countB 12 t ks.length)) ∧ Below w.heap.size w w' := by
  have HV : Hid (countB 12 t ks.length = decide ((ks.length : Int) = 0)) := Lib.hid (by rw [show decide ((ks.length : Int) = 0) = decide (ks.length = 0) by rw [Bool.eq_iff_iff]; simp only [decide_eq_true_eq]; omega]; simp [countB])
  generalize countB 12 t ks.length = R at *
  obtain ⟨vk, c0, c1, c2, c3, c4, hn⟩ := h
  obtain ⟨-, -, -, -, a, cap, rfl, hm, -⟩ := kat_iff.1 hn
  clear hn
  simp only [K.kind, K.text, K.num, K.dep, K.kids] at *
  unfold maxLen at hm
  generalize ks.length = N at *
  go_enter Tryz.func98, Tryz.ntmps98
  go_wp2_with fail
  go_ret
  exact ⟨by rw [HV.out]; rfl, Below.refl _ _⟩
set_option maxRecDepth 10000 in
set_option maxHeartbeats 4000000 in
theorem kids_13 {lo b o : Nat} {w : World} {t : ByteArray} {n d : Int} {ks : List K} (h : KSpot lo w b o (.mk 13 t n d ks)) (ht : t.size ≤ 1048576) :
    Calls Tryz.prog 98 #[.pointer (some ⟨b, o, none⟩)] w fun r w' => r = .returned (.bool (countB 13 t ks.length)) ∧ Below w.heap.size w w' := by
  have KC := fun w' => Lib.hid (ImplCount.count_any t w' ht)
  have hc1 := args_ge t
  have hc2 := args_le t
  have HV : Hid (countB 13 t ks.length = decide ((ks.length : Int) = 1 + Tok.countArgs t)) := Lib.hid (by simp [countB])
  generalize Tok.countArgs t = c at *
  generalize countB 13 t ks.length = R at *
  obtain ⟨vk, c0, c1, c2, c3, c4, hn⟩ := h
  obtain ⟨-, -, -, -, a, cap, rfl, hm, -⟩ := kat_iff.1 hn
  clear hn
  simp only [K.kind, K.text, K.num, K.dep, K.kids] at *
  unfold maxLen at hm
  generalize ks.length = N at *
  go_enter Tryz.func98, Tryz.ntmps98
  go_wp2_with fail
  refine (KC _).out.mono ?_
  rintro r w1 ⟨rfl, hb1⟩
  have HB := Lib.hid hb1
  clear hb1 c0 c1 c2 c3 c4
  go_wp2_with fail
  go_ret
  exact ⟨by rw [HV.out]; rfl, HB.out⟩
set_option maxRecDepth 10000 in
set_option maxHeartbeats 4000000 in
theorem kids_14 {lo b o : Nat} {w : World} {t : ByteArray} {n d : Int} {ks : List K} (h : KSpot lo w b o (.mk 14 t n d ks)) (ht : t.size ≤ 1048576) :
    Calls Tryz.prog 98 #[.pointer (some ⟨b, o, none⟩)] w fun r w' => r = .returned (.bool (countB 14 t ks.length)) ∧ Below w.heap.size w w' := by
  have KC := fun w' => Lib.hid (ImplCount.count_any t w' ht)
  have hc1 := args_ge t
  have hc2 := args_le t
  have HV : Hid (countB 14 t ks.length = decide ((ks.length : Int) = Tok.countArgs t)) := Lib.hid (by simp [countB])
  generalize Tok.countArgs t = c at *
  generalize countB 14 t ks.length = R at *
  obtain ⟨vk, c0, c1, c2, c3, c4, hn⟩ := h
  obtain ⟨-, -, -, -, a, cap, rfl, hm, -⟩ := kat_iff.1 hn
  clear hn
  simp only [K.kind, K.text, K.num, K.dep, K.kids] at *
  unfold maxLen at hm
  generalize ks.length = N at *
  go_enter Tryz.func98, Tryz.ntmps98
  go_wp2_with fail
  refine (KC _).out.mono ?_
  rintro r w1 ⟨rfl, hb1⟩
  have HB := Lib.hid hb1
  clear hb1 c0 c1 c2 c3 c4
  go_wp2_with fail
  go_ret
  exact ⟨by rw [HV.out]; rfl, HB.out⟩
set_option maxRecDepth 10000 in
set_option maxHeartbeats 4000000 in
theorem kids_15 {lo b o : Nat} {w : World} {t : ByteArray} {n d : Int} {ks : List K} (h : KSpot lo w b o (.mk 15 t n d ks)) :
    Calls Tryz.prog 98 #[.pointer (some ⟨b, o, none⟩)] w fun r w' => r = .returned (.bool (countB 15 t ks.length)) ∧ Below w.heap.size w w' := by
  have HV : Hid (countB 15 t ks.length = decide ((2 : Int) ≤ ks.length)) := Lib.hid (by rw [show decide ((2 : Int) ≤ ks.length) = decide (2 ≤ ks.length) by rw [Bool.eq_iff_iff]; simp only [decide_eq_true_eq]; omega]; simp [countB])
  generalize countB 15 t ks.length = R at *
  obtain ⟨vk, c0, c1, c2, c3, c4, hn⟩ := h
  obtain ⟨-, -, -, -, a, cap, rfl, hm, -⟩ := kat_iff.1 hn
  clear hn
  simp only [K.kind, K.text, K.num, K.dep, K.kids] at *
  unfold maxLen at hm
  generalize ks.length = N at *
  go_enter Tryz.func98, Tryz.ntmps98
  go_wp2_with fail
  go_ret
  exact ⟨by rw [HV.out]; rfl, Below.refl _ _⟩
set_option maxRecDepth 10000 in
set_option maxHeartbeats 4000000 in
theorem kids_16 {lo b o : Nat} {w : World} {t : ByteArray} {n d : Int} {ks : List K} (h : KSpot lo w b o (.mk 16 t n d ks)) :
    Calls Tryz.prog 98 #[.pointer (some ⟨b, o, none⟩)] w fun r w' => r = .returned (.bool (countB 16 t ks.length)) ∧ Below w.heap.size w w' := by
  have HV : Hid (countB 16 t ks.length = decide ((ks.length : Int) = 1)) := Lib.hid (by rw [show decide ((ks.length : Int) = 1) = decide (ks.length = 1) by rw [Bool.eq_iff_iff]; simp only [decide_eq_true_eq]; omega]; simp [countB])
  generalize countB 16 t ks.length = R at *
  obtain ⟨vk, c0, c1, c2, c3, c4, hn⟩ := h
  obtain ⟨-, -, -, -, a, cap, rfl, hm, -⟩ := kat_iff.1 hn
  clear hn
  simp only [K.kind, K.text, K.num, K.dep, K.kids] at *
  unfold maxLen at hm
  generalize ks.length = N at *
  go_enter Tryz.func98, Tryz.ntmps98
  go_wp2_with fail
  go_ret
  exact ⟨by rw [HV.out]; rfl, Below.refl _ _⟩
set_option maxRecDepth 10000 in
set_option maxHeartbeats 4000000 in
theorem kids_17 {lo b o : Nat} {w : World} {t : ByteArray} {n d : Int} {ks : List K} (h : KSpot lo w b o (.mk 17 t n d ks)) :
    Calls Tryz.prog 98 #[.pointer (some ⟨b, o, none⟩)] w fun r w' => r = .returned (.bool (countB 17 t ks.length)) ∧ Below w.heap.size w w' := by
  have HV : Hid (countB 17 t ks.length = decide ((2 : Int) ≤ ks.length)) := Lib.hid (by rw [show decide ((2 : Int) ≤ ks.length) = decide (2 ≤ ks.length) by rw [Bool.eq_iff_iff]; simp only [decide_eq_true_eq]; omega]; simp [countB])
  generalize countB 17 t ks.length = R at *
  obtain ⟨vk, c0, c1, c2, c3, c4, hn⟩ := h
  obtain ⟨-, -, -, -, a, cap, rfl, hm, -⟩ := kat_iff.1 hn
  clear hn
  simp only [K.kind, K.text, K.num, K.dep, K.kids] at *
  unfold maxLen at hm
  generalize ks.length = N at *
  go_enter Tryz.func98, Tryz.ntmps98
  go_wp2_with fail
  go_ret
  exact ⟨by rw [HV.out]; rfl, Below.refl _ _⟩
set_option maxRecDepth 10000 in
set_option maxHeartbeats 4000000 in
theorem kids_18 {lo b o : Nat} {w : World} {t : ByteArray} {n d : Int} {ks : List K} (h : KSpot lo w b o (.mk 18 t n d ks)) :
    Calls Tryz.prog 98 #[.pointer (some ⟨b, o, none⟩)] w fun r w' => r = .returned (.bool (countB 18 t ks.length)) ∧ Below w.heap.size w w' := by
  have HV : Hid (countB 18 t ks.length = decide ((ks.length : Int) = 1)) := Lib.hid (by rw [show decide ((ks.length : Int) = 1) = decide (ks.length = 1) by rw [Bool.eq_iff_iff]; simp only [decide_eq_true_eq]; omega]; simp [countB])
  generalize countB 18 t ks.length = R at *
  obtain ⟨vk, c0, c1, c2, c3, c4, hn⟩ := h
  obtain ⟨-, -, -, -, a, cap, rfl, hm, -⟩ := kat_iff.1 hn
  clear hn
  simp only [K.kind, K.text, K.num, K.dep, K.kids] at *
  unfold maxLen at hm
  generalize ks.length = N at *
  go_enter Tryz.func98, Tryz.ntmps98
  go_wp2_with fail
  go_ret
  exact ⟨by rw [HV.out]; rfl, Below.refl _ _⟩
set_option maxRecDepth 10000 in
set_option maxHeartbeats 4000000 in
theorem kids_19 {lo b o : Nat} {w : World} {t : ByteArray} {n d : Int} {ks : List K} (h : KSpot lo w b o (.mk 19 t n d ks)) :
    Calls Tryz.prog 98 #[.pointer (some ⟨b, o, none⟩)] w fun r w' => r = .returned (.bool (countB 19 t ks.length)) ∧ Below w.heap.size w w' := by
  have HV : Hid (countB 19 t ks.length = decide ((ks.length : Int) = 3)) := Lib.hid (by rw [show decide ((ks.length : Int) = 3) = decide (ks.length = 3) by rw [Bool.eq_iff_iff]; simp only [decide_eq_true_eq]; omega]; simp [countB])
  generalize countB 19 t ks.length = R at *
  obtain ⟨vk, c0, c1, c2, c3, c4, hn⟩ := h
  obtain ⟨-, -, -, -, a, cap, rfl, hm, -⟩ := kat_iff.1 hn
  clear hn
  simp only [K.kind, K.text, K.num, K.dep, K.kids] at *
  unfold maxLen at hm
  generalize ks.length = N at *
  go_enter Tryz.func98, Tryz.ntmps98
  go_wp2_with fail
  go_ret
  exact ⟨by rw [HV.out]; rfl, Below.refl _ _⟩
set_option maxRecDepth 10000 in
set_option maxHeartbeats 4000000 in
theorem kids_20 {lo b o : Nat} {w : World} {t : ByteArray} {n d : Int} {ks : List K} (h : KSpot lo w b o (.mk 20 t n d ks)) :
    Calls Tryz.prog 98 #[.pointer (some ⟨b, o, none⟩)] w fun r w' => r = .returned (.bool (countB 20 t ks.length)) ∧ Below w.heap.size w w' := by
  have HV : Hid (countB 20 t ks.length = decide ((ks.length : Int) = 2)) := Lib.hid (by rw [show decide ((ks.length : Int) = 2) = decide (ks.length = 2) by rw [Bool.eq_iff_iff]; simp only [decide_eq_true_eq]; omega]; simp [countB])
  generalize countB 20 t ks.length = R at *
  obtain ⟨vk, c0, c1, c2, c3, c4, hn⟩ := h
  obtain ⟨-, -, -, -, a, cap, rfl, hm, -⟩ := kat_iff.1 hn
  clear hn
  simp only [K.kind, K.text, K.num, K.dep, K.kids] at *
  unfold maxLen at hm
  generalize ks.length = N at *
  go_enter Tryz.func98, Tryz.ntmps98
  go_wp2_with fail
  go_ret
  exact ⟨by rw [HV.out]; rfl, Below.refl _ _⟩
set_option maxRecDepth 10000 in
set_option maxHeartbeats 4000000 in
theorem kids_21 {lo b o : Nat} {w : World} {t : ByteArray} {n d : Int} {ks : List K} (h : KSpot lo w b o (.mk 21 t n d ks)) :
    Calls Tryz.prog 98 #[.pointer (some ⟨b, o, none⟩)] w fun r w' => r = .returned (.bool (countB 21 t ks.length)) ∧ Below w.heap.size w w' := by
  have HV : Hid (countB 21 t ks.length = decide ((ks.length : Int) = 3)) := Lib.hid (by rw [show decide ((ks.length : Int) = 3) = decide (ks.length = 3) by rw [Bool.eq_iff_iff]; simp only [decide_eq_true_eq]; omega]; simp [countB])
  generalize countB 21 t ks.length = R at *
  obtain ⟨vk, c0, c1, c2, c3, c4, hn⟩ := h
  obtain ⟨-, -, -, -, a, cap, rfl, hm, -⟩ := kat_iff.1 hn
  clear hn
  simp only [K.kind, K.text, K.num, K.dep, K.kids] at *
  unfold maxLen at hm
  generalize ks.length = N at *
  go_enter Tryz.func98, Tryz.ntmps98
  go_wp2_with fail
  go_ret
  exact ⟨by rw [HV.out]; rfl, Below.refl _ _⟩
set_option maxRecDepth 10000 in
set_option maxHeartbeats 4000000 in
theorem kids_other {lo b o : Nat} {w : World} {k : Int} {t : ByteArray} {n d : Int} {ks : List K} (h : KSpot lo w b o (.mk k t n d ks)) (hk : ¬ (1 ≤ k ∧ k ≤ 21)) :
    Calls Tryz.prog 98 #[.pointer (some ⟨b, o, none⟩)] w fun r w' => r = .returned (.bool (countB k t ks.length)) ∧ Below w.heap.size w w' := by
  have HV : Hid (countB k t ks.length = false) := Lib.hid (by unfold countB; rw [if_neg (by omega), if_neg (by omega), if_neg (by omega), if_neg (by omega), if_neg (by omega), if_neg (by omega), if_neg (by omega)])
  generalize countB k t ks.length = R at *
  obtain ⟨vk, c0, c1, c2, c3, c4, hn⟩ := h
  obtain ⟨-, -, -, -, a, cap, rfl, hm, -⟩ := kat_iff.1 hn
  clear hn
  simp only [K.kind, K.text, K.num, K.dep, K.kids] at *
  unfold maxLen at hm
  generalize ks.length = N at *
  have b1 : (k == 1) = false := by rw [beq_eq_false_iff_ne]; omega
  have b2 : (k == 2) = false := by rw [beq_eq_false_iff_ne]; omega
  have b3 : (k == 3) = false := by rw [beq_eq_false_iff_ne]; omega
  have b4 : (k == 4) = false := by rw [beq_eq_false_iff_ne]; omega
  have b5 : (k == 5) = false := by rw [beq_eq_false_iff_ne]; omega
  have b6 : (k == 6) = false := by rw [beq_eq_false_iff_ne]; omega
  have b7 : (k == 7) = false := by rw [beq_eq_false_iff_ne]; omega
  have b8 : (k == 8) = false := by rw [beq_eq_false_iff_ne]; omega
  have b9 : (k == 9) = false := by rw [beq_eq_false_iff_ne]; omega
  have b10 : (k == 10) = false := by rw [beq_eq_false_iff_ne]; omega
  have b11 : (k == 11) = false := by rw [beq_eq_false_iff_ne]; omega
  have b12 : (k == 12) = false := by rw [beq_eq_false_iff_ne]; omega
  have b13 : (k == 13) = false := by rw [beq_eq_false_iff_ne]; omega
  have b14 : (k == 14) = false := by rw [beq_eq_false_iff_ne]; omega
  have b15 : (k == 15) = false := by rw [beq_eq_false_iff_ne]; omega
  have b16 : (k == 16) = false := by rw [beq_eq_false_iff_ne]; omega
  have b17 : (k == 17) = false := by rw [beq_eq_false_iff_ne]; omega
  have b18 : (k == 18) = false := by rw [beq_eq_false_iff_ne]; omega
  have b19 : (k == 19) = false := by rw [beq_eq_false_iff_ne]; omega
  have b20 : (k == 20) = false := by rw [beq_eq_false_iff_ne]; omega
  have b21 : (k == 21) = false := by rw [beq_eq_false_iff_ne]; omega
  clear hk
  go_enter Tryz.func98, Tryz.ntmps98
  go_wp2_with fail
  go_ret
  exact ⟨by rw [HV.out]; rfl, Below.refl _ _⟩
theorem kids_any {lo b o : Nat} {w : World} {e : K} (h : KSpot lo w b o e) (ht : e.text.size ≤ 1048576) :
    Calls Tryz.prog 98 #[.pointer (some ⟨b, o, none⟩)] w fun r w' => r = .returned (.bool (countB e.kind e.text e.kids.length)) ∧ Below w.heap.size w w' := by
  obtain ⟨k, t, n, d, ks⟩ := e
  simp only [K.text] at ht
  show Calls Tryz.prog _ _ w fun r w' => r = .returned (.bool (countB k t ks.length)) ∧ Below w.heap.size w w'
  by_cases h1 : k = 1
  · subst h1; exact kids_1 h
  by_cases h2 : k = 2
  · subst h2; exact kids_2 h
  by_cases h3 : k = 3
  · subst h3; exact kids_3 h
  by_cases h4 : k = 4
  · subst h4; exact kids_4 h
  by_cases h5 : k = 5
  · subst h5; exact kids_5 h
  by_cases h6 : k = 6
  · subst h6; exact kids_6 h
  by_cases h7 : k = 7
  · subst h7; exact kids_7 h
  by_cases h8 : k = 8
  · subst h8; exact kids_8 h
  by_cases h9 : k = 9
  · subst h9; exact kids_9 h
  by_cases h10 : k = 10
  · subst h10; exact kids_10 h
  by_cases h11 : k = 11
  · subst h11; exact kids_11 h
  by_cases h12 : k = 12
  · subst h12; exact kids_12 h
  by_cases h13 : k = 13
  · subst h13; exact kids_13 h ht
  by_cases h14 : k = 14
  · subst h14; exact kids_14 h ht
  by_cases h15 : k = 15
  · subst h15; exact kids_15 h
  by_cases h16 : k = 16
  · subst h16; exact kids_16 h
  by_cases h17 : k = 17
  · subst h17; exact kids_17 h
  by_cases h18 : k = 18
  · subst h18; exact kids_18 h
  by_cases h19 : k = 19
  · subst h19; exact kids_19 h
  by_cases h20 : k = 20
  · subst h20; exact kids_20 h
  by_cases h21 : k = 21
  · subst h21; exact kids_21 h
  exact kids_other h (by omega)
end Go.Proofs.YtekeondbbikkpaaGreat.ImplCore
