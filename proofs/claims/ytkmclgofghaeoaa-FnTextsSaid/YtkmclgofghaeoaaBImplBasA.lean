/-
  impl's messages to simple values, its small parts.
-/
import Derived.Test.YtkmclgofghaeoaaBImplVal
import Derived.Test.YtkmclgofghaeoaaBSpecBasA
namespace Go.Proofs.Ytkmclgofghaeoaa.ImplBas
open Go.RowKit
open Strs Sto Bas SpecBas
set_option linter.unusedVariables false
set_option maxHeartbeats 1000000 in
theorem int_is (n : Int) (w : World) : Calls Try.prog 73 #[.int .i64 n] w fun e w' => e = .returned (vval (intV n)) ∧ Below w.heap.size w w' := by
  have HB : ∀ cs, Hid (Below w.heap.size w (w.alloc (.cells cs 25))) := fun cs => Lib.hid ((Below.refl _ _).alloc (Nat.le_refl _) _)
  go_enter Try.func73, Try.ntmps73
  go_wp2_with fail
  exact bodyPost_ret (v := vval (intV n)) (by simp [results, Try.results73, go_sem, *]; try rfl) rfl ⟨rfl, (HB _).out⟩
set_option maxHeartbeats 1000000 in
theorem text_is (t : ByteArray) (w : World) : Calls Try.prog 84 #[.string t] w fun e w' => e = .returned (vval (textV t)) ∧ Below w.heap.size w w' := by
  have HB : ∀ cs, Hid (Below w.heap.size w (w.alloc (.cells cs 25))) := fun cs => Lib.hid ((Below.refl _ _).alloc (Nat.le_refl _) _)
  go_enter Try.func84, Try.ntmps84
  go_wp2_with fail
  exact bodyPost_ret (v := vval (textV t)) (by simp [results, Try.results84, go_sem, *]; try rfl) rfl ⟨rfl, (HB _).out⟩
set_option maxHeartbeats 1000000 in
theorem bool_is (b : Bool) (w : World) : Calls Try.prog 60 #[.bool b] w fun e w' => e = .returned (vval (boolV b)) ∧ Below w.heap.size w w' := by
  have HB : ∀ cs, Hid (Below w.heap.size w (w.alloc (.cells cs 25))) := fun cs => Lib.hid ((Below.refl _ _).alloc (Nat.le_refl _) _)
  cases b with
  | true =>
    go_enter Try.func60, Try.ntmps60
    go_wp2_with fail
    exact bodyPost_ret (v := vval (boolV true)) (by simp [results, Try.results60, go_sem, *]; try rfl) rfl ⟨rfl, (HB _).out⟩
  | false =>
    go_enter Try.func60, Try.ntmps60
    go_wp2_with fail
    exact bodyPost_ret (v := vval (boolV false)) (by simp [results, Try.results60, go_sem, *]; try rfl) rfl ⟨rfl, (HB _).out⟩
set_option maxHeartbeats 1000000 in
theorem done_is (v : V) (w : World) : Calls Try.prog 59 #[vval v] w fun e w' => e = .returned ((doneR v).val) ∧ Below w.heap.size w w' := by
  have HB : ∀ cs ds, Hid (Below w.heap.size w ((w.alloc (.cells cs 25)).alloc (.cells ds 31))) := fun cs ds => Lib.hid (((Below.refl _ _).alloc (Nat.le_refl _) _).alloc (by simp) _)
  unfold vval
  go_enter Try.func59, Try.ntmps59
  go_wp2_with fail
  exact bodyPost_ret (v := (doneR v).val) (by simp [results, Try.results59, go_sem, *]; try rfl) rfl ⟨rfl, (HB _ _).out⟩
set_option maxHeartbeats 1000000 in
theorem error_is (t : ByteArray) (w : World) : Calls Try.prog 20 #[.string t] w fun e w' => e = .returned ((failR t).val) ∧ Below w.heap.size w w' := by
  have HB : ∀ cs, Hid (Below w.heap.size w (w.alloc (.cells cs 31))) := fun cs => Lib.hid ((Below.refl _ _).alloc (Nat.le_refl _) _)
  go_enter Try.func20, Try.ntmps20
  go_wp2_with fail
  exact bodyPost_ret (v := (failR t).val) (by simp [results, Try.results20, go_sem, *]; try rfl) rfl ⟨rfl, (HB _).out⟩
set_option maxHeartbeats 1000000 in
theorem zero_is (w : World) : Calls Try.prog 91 #[] w fun e w' => e = .returned (zeroR.val) ∧ Below w.heap.size w w' := by
  have HB : ∀ cs, Hid (Below w.heap.size w (w.alloc (.cells cs 31))) := fun cs => Lib.hid ((Below.refl _ _).alloc (Nat.le_refl _) _)
  go_enter Try.func91, Try.ntmps91
  go_wp2_with fail
  exact bodyPost_ret (v := zeroR.val) (by simp [results, Try.results91, go_sem, *]; try rfl) rfl ⟨rfl, (HB _).out⟩
theorem val_int (n : Int) : valB (intV n) = numB n := by
  unfold valB intV numB emptyB
  simp only
  rw [if_neg (by decide), if_neg (by decide), if_pos trivial]
  rw [Bool.eq_iff_iff]
  simp
  exact fun _ _ => rfl
theorem val_sym (t : ByteArray) : valB (symV t) = Tok.sel t := by
  unfold valB symV
  simp only
  rw [if_neg (by decide), if_neg (by decide), if_neg (by decide), if_neg (by decide), if_pos trivial]
  rfl
theorem isInt (n : Int) (w : World) : Calls Try.prog 16 #[.agg #[.int .i64 2, .int .i64 n, .string ⟨#[]⟩]] w fun e w' => e = .returned (.bool (numB n)) ∧ Below w.heap.size w w' := by
  have h := ImplSto.val_any (intV n) w (Nat.zero_le 1048576)
  rw [val_int] at h
  exact h
theorem isSym (t : ByteArray) (w : World) (ht : t.size ≤ 1048576) : Calls Try.prog 16 #[.agg #[.int .i64 4, .int .i64 0, .string t]] w fun e w' => e = .returned (.bool (Tok.sel t)) ∧ Below w.heap.size w w' := by
  have h := ImplSto.val_any (symV t) w ht
  rw [val_sym] at h
  exact h
set_option maxHeartbeats 2000000 in
theorem bounded_is (n : Int) (w : World) : Calls Try.prog 63 #[.int .i64 n] w fun e w' => e = .returned (numR n).val ∧ Below w.heap.size w w' := by
  have BX := Lib.hid (rb_new w 31)
  have KI := fun w' => Lib.hid (int_is n w')
  have KV := fun w' => Lib.hid (isInt n w')
  have KD := fun w' => Lib.hid (done_is (intV n) w')
  unfold vval intV at KI KD
  simp only at KI KD
  unfold numR
  generalize numB n = b at *
  cases b with
  | true =>
    rw [if_pos rfl]
    go_enter Try.func63, Try.ntmps63
    go_wp2_with fail
    refine (KI _).out.mono ?_
    rintro e w1 ⟨rfl, hb1⟩
    have BX1 := Lib.hid (BX.out.step hb1)
    have BX2 := Lib.hid (BX1.out.step ((Below.refl _ _).alloc (Nat.le_refl _) (.cells #[.int .i64 2, .int .i64 n, .string ⟨#[]⟩] 25)))
    clear hb1 BX
    have hc := vb_new w1 ⟨2, n, ⟨#[]⟩⟩ 25
    go_wp2_with fail
    refine (KV _).out.mono ?_
    rintro e w2 ⟨rfl, hb2⟩
    have BX3 := Lib.hid (BX2.out.step hb2)
    obtain ⟨v0, v1, v2⟩ := hc.step hb2
    simp only at v0 v1 v2
    clear hb2 BX2 BX1 hc KI KV
    go_wp2_with fail
    refine (KD _).out.mono ?_
    rintro e w3 ⟨rfl, hb3⟩
    have BX4 := Lib.hid (BX3.out.step hb3)
    clear hb3 BX3 v0 v1 v2 KD
    obtain ⟨hB, hge, hlt, a0, a1, a2, a3, a4, fz⟩ := BX4.out
    unfold R.val
    go_wp2_with fail
    exact bodyPost_ret (v := (doneR (intV n)).val) (by simp [results, Try.results63, go_sem, *]; try rfl) rfl ⟨rfl, BX4.out.put _ _ _ _ _⟩
  | false =>
    rw [if_neg Bool.false_ne_true]
    go_enter Try.func63, Try.ntmps63
    go_wp2_with fail
    refine (KI _).out.mono ?_
    rintro e w1 ⟨rfl, hb1⟩
    have BX1 := Lib.hid (BX.out.step hb1)
    have BX2 := Lib.hid (BX1.out.step ((Below.refl _ _).alloc (Nat.le_refl _) (.cells #[.int .i64 2, .int .i64 n, .string ⟨#[]⟩] 25)))
    clear hb1 BX KD
    go_wp2_with fail
    refine (KV _).out.mono ?_
    rintro e w2 ⟨rfl, hb2⟩
    have BX3 := Lib.hid (BX2.out.step hb2)
    clear hb2 BX2 BX1 KI KV
    go_wp2_with fail
    refine (error_is _ _).mono ?_
    rintro e w3 ⟨rfl, hb3⟩
    have BX4 := Lib.hid (BX3.out.step hb3)
    clear hb3 BX3
    obtain ⟨hB, hge, hlt, a0, a1, a2, a3, a4, fz⟩ := BX4.out
    unfold R.val
    go_wp2_with fail
    exact bodyPost_ret (v := (failR ⟨#[111, 118, 101, 114, 102, 108, 111, 119]⟩).val) (by simp [results, Try.results63, go_sem, *]; try rfl) rfl ⟨rfl, BX4.out.put _ _ _ _ _⟩
set_option maxHeartbeats 1000000 in
theorem rest_of (a b : Int) (w : World) (ha : numB a = true) (hn : numB b = true) (hb : ¬ b = 0) :
    Calls Try.prog 92 #[.int .i64 a, .int .i64 b] w fun e w' => e = .returned (.int .i64 (restI a b)) ∧ w = w' := by
  have h3 := tmod_lt (a := a) hb
  have h4 := rest_sign (a := a) hb
  have z := (SpecBas.eq_no hb).1
  rw [num_iff] at ha hn
  unfold restI at *
  have r1 : -999999999 ≤ a.tmod b := by omega
  have r2 : a.tmod b ≤ 999999999 := by omega
  have r3 : -999999999 ≤ (a.tmod b + b).tmod b := by omega
  have r4 : (a.tmod b + b).tmod b ≤ 999999999 := by omega
  obtain ⟨n1, n2⟩ := hn
  clear h3 h4 ha
  go_enter Try.func92, Try.ntmps92
  go_wp2_with fail
  go_ret
  exact ⟨rfl, rfl⟩
set_option maxHeartbeats 1000000 in
theorem missed_is (k : Int) (w : World) : Calls Try.prog 21 #[.int .i64 k] w fun e w' => e = .returned (.string (missed k)) ∧ w = w' := by
  unfold missed
  by_cases h2 : k = 2
  · rw [if_pos h2]
    have z := (SpecBas.eq_yes h2).1
    clear h2
    go_enter Try.func21, Try.ntmps21
    go_wp2_with fail
    go_ret
    exact ⟨rfl, rfl⟩
  have z := (SpecBas.eq_no h2).1
  rw [if_neg h2]
  by_cases h1 : k = 1
  · rw [if_pos h1]
    have z := (SpecBas.eq_yes h1).1
    clear h2 h1
    go_enter Try.func21, Try.ntmps21
    go_wp2_with fail
    go_ret
    exact ⟨rfl, rfl⟩
  have z1 := (SpecBas.eq_no h1).1
  rw [if_neg h1]
  clear h2 h1
  go_enter Try.func21, Try.ntmps21
  go_wp2_with fail
  go_ret
  exact ⟨rfl, rfl⟩
end Go.Proofs.Ytkmclgofghaeoaa.ImplBas
