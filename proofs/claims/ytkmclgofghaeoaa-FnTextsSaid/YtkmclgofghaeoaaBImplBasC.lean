/-
  impl's quotient.
-/
import Derived.Test.YtkmclgofghaeoaaBImplBasA
import Derived.Deep.QuietTactic
import Derived.BigQuiet
import Derived.Deep.RegionWith
import Derived.Deep.RegionHeld3
namespace Go.Proofs.Ytkmclgofghaeoaa.ImplBas
open Go.RowKit
open Strs Sto Bas SpecBas
set_option linter.unusedVariables false
theorem wrap_in (n : Int) (h : -9223372036854775808 ≤ n ∧ n ≤ 9223372036854775807) : IntKind.i64.wrap n = n := by rw [IntKind.wrap_i64]; omega
set_option maxRecDepth 10000 in
set_option maxHeartbeats 8000000 in
theorem op_quot (v a : V) (w : World) (hv : numB v.num = true) (ha : numB a.num = true) :
    Calls Try.prog 66 #[.agg #[.int .i64 v.kind, .int .i64 v.num, .string v.text], .agg #[.int .i64 a.kind, .int .i64 a.num, .string a.text]] w fun e w' => e = .returned (if a.num = 0 then zeroR else doneR (intV (quotI v.num a.num))).val ∧ Below w.heap.size w w' := by
  have BX := Lib.hid (rb_three (w := w) v a 25 25 31)
  by_cases hz : a.num = 0
  · rw [if_pos hz]
    have z := (SpecBas.eq_yes hz).1
    clear hz
    go_enter Try.func66, Try.ntmps66
    go_wp2_with fail
    refine (zero_is _).mono ?_
    rintro e w1 ⟨rfl, hb1⟩
    have BX1 := Lib.hid (BX.out.step hb1)
    clear hb1 BX
    obtain ⟨hB, hge, hlt, a0, a1, a2, a3, a4, fz⟩ := BX1.out
    unfold R.val
    go_wp2_with fail
    exact bodyPost_ret (v := (zeroR).val) (by simp [results, Try.results66, go_sem, *]; try rfl) rfl ⟨rfl, BX1.out.put _ _ _ _ _⟩
  rw [if_neg hz]
  have z := (SpecBas.eq_no hz).1
  have VX := Lib.hid (vb_three (w := w) v a 25 25 (.cells #[.int .i64 0, .int .i64 0, .int .i64 0, .string ⟨#[]⟩, .string ⟨#[]⟩] 31))
  have UX := Lib.hid (ub_three (w := w) v a 25 25 (.cells #[.int .i64 0, .int .i64 0, .int .i64 0, .string ⟨#[]⟩, .string ⟨#[]⟩] 31))
  have KR := fun w' => Lib.hid (rest_of v.num a.num w' hv ha hz)
  have KI := fun w' => Lib.hid (int_is (quotI v.num a.num) w')
  have KD := fun w' => Lib.hid (done_is (intV (quotI v.num a.num)) w')
  unfold vval intV at KI
  simp only at KI
  have hq := quot_num hv hz (b := a.num)
  have hr := rest_num ha hz (a := v.num)
  have HQ : Hid ((v.num - restI v.num a.num).tdiv a.num = quotI v.num a.num) := Lib.hid rfl
  rw [num_iff] at hv ha hq hr
  obtain ⟨m1, m2⟩ := hv
  obtain ⟨n1, n2⟩ := ha
  obtain ⟨q1, q2⟩ := hq
  obtain ⟨r1, r2⟩ := hr
  generalize restI v.num a.num = rr at *
  have s1 : -999999999 ≤ (v.num - rr).tdiv a.num := by rw [HQ.out]; exact q1
  have s2 : (v.num - rr).tdiv a.num ≤ 999999999 := by rw [HQ.out]; exact q2
  rw [← HQ.out] at KI KD
  rw [← HQ.out]
  have HW : Hid (IntKind.i64.wrap ((IntKind.i64.wrap (v.num - rr)).tdiv a.num) = (v.num - rr).tdiv a.num) := Lib.hid (by
    rw [wrap_in (v.num - rr) (by omega), wrap_in _ (by omega)])
  generalize (v.num - rr).tdiv a.num = q at *
  generalize doneR (intV q) = r at *
  unfold R.val at KD
  unfold vval intV at KD
  simp only at KD
  clear HQ q1 q2 s1 s2
  go_enter Try.func66, Try.ntmps66
  go_wp2_with fail
  obtain ⟨W, hW, BXW, VXW, UXW⟩ : ∃ W, W = (((w.alloc (.cells #[.int .i64 v.kind, .int .i64 v.num, .string v.text] 25)).alloc (.cells #[.int .i64 a.kind, .int .i64 a.num, .string a.text] 25)).alloc (.cells #[.int .i64 0, .int .i64 0, .int .i64 0, .string ⟨#[]⟩, .string ⟨#[]⟩] 31)) ∧ Hid (RB w (w.heap.size + 1 + 1) W) ∧ VB w.heap.size v W ∧ VB (w.heap.size + 1) a W := ⟨_, rfl, BX, VX.out, UX.out⟩
  rw [← hW]
  clear hW BX VX UX
  obtain ⟨-, v1, -⟩ := VXW
  obtain ⟨-, u1, -⟩ := UXW
  have v1d : W.drew.cell? ⟨w.heap.size, 1, none⟩ = some (.int .i64 v.num) := v1
  have u1d : W.drew.cell? ⟨w.heap.size + 1, 1, none⟩ = some (.int .i64 a.num) := u1
  have d1 : ¬ w.heap.size = w.heap.size + 1 + 1 := by omega
  have d2 : ¬ w.heap.size + 1 + 1 = w.heap.size := by omega
  have d3 : ¬ w.heap.size + 1 = w.heap.size + 1 + 1 := by omega
  have d4 : ¬ w.heap.size + 1 + 1 = w.heap.size + 1 := by omega
  go_region_held3 (fun w' => w'.cell? ⟨w.heap.size, 1, none⟩ = some (.int .i64 v.num) ∧ w'.cell? ⟨w.heap.size + 1, 1, none⟩ = some (.int .i64 a.num))
    (first | with_reducible exact ⟨v1d, u1d⟩ | with_reducible exact ⟨cell_keep hb5 (cell_keep hb4 v1d), cell_keep hb5 (cell_keep hb4 u1d)⟩ | with_reducible exact ⟨cell_keep hb4 v1d, cell_keep hb4 u1d⟩ | with_reducible exact ⟨v1, u1⟩ | go_keep)
    (first
    | (go_at_call 92
       refine (KR _).out.mono ?_
       rintro e w3 ⟨rfl, rfl⟩)
    | (go_at_call 73
       rw [HW.out]
       refine (KI _).out.mono ?_
       rintro e w4 ⟨rfl, hb4⟩
       have BX4 := Lib.hid ((BXW.out.step (Below.refl _ _).drew).step hb4))
    | (go_at_call 59
       refine (KD _).out.mono ?_
       rintro e w5 ⟨rfl, hb5⟩
       have BX5 := Lib.hid (BX4.out.step hb5)
       obtain ⟨hB, hge, hlt, a0, a1, a2, a3, a4, fz⟩ := BX5.out
       ))
  all_goals
    clear v1 u1 v1d u1d d1 d2 d3 d4 hB hge hlt
    go_wp2_with fail
    exact bodyPost_ret (v := r.val) (by simp [results, Try.results66, go_sem, *]; try rfl) rfl ⟨rfl, BX5.out.put _ _ _ _ _⟩
end Go.Proofs.Ytkmclgofghaeoaa.ImplBas
