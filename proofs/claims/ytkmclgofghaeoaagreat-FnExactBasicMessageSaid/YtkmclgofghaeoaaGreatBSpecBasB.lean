/-
  Cells for results and arguments of messages to simple values.
  The model's messages to simple values, its small parts.
  The model's division, its two integers.
-/
import Derived.Test.YtkmclgofghaeoaaGreatBBasMath
import Derived.Test.YtkmclgofghaeoaaGreatBMark
import Derived.Test.YtkmclgofghaeoaaGreatBSpecVal
import Derived.Test.YtkmclgofghaeoaaGreatBTreeOk
namespace Go.Proofs.YtkmclgofghaeoaaGreat.SpecBas
open Go.RowKit
open Strs Sto Bas
set_option linter.unusedVariables false
theorem eq_yes {a b : Int} (h : a = b) : (a == b) = true ∧ (a != b) = false := by subst h; simp
theorem eq_no {a b : Int} (h : ¬ a = b) : (a == b) = false ∧ (a != b) = true := by
  have : (a == b) = false := by rw [beq_eq_false_iff_ne]; exact h
  exact ⟨this, by unfold bne; rw [this]; rfl⟩
structure RB (w0 : World) (g : Nat) (wx : World) : Prop where
  below : Below w0.heap.size w0 wx
  ge : w0.heap.size ≤ g
  lt : g < wx.heap.size
  a0 : wx.cell? ⟨g, 0, none⟩ = some (.int .i64 0)
  a1 : wx.cell? ⟨g, 1, none⟩ = some (.int .i64 0)
  a2 : wx.cell? ⟨g, 2, none⟩ = some (.int .i64 0)
  a3 : wx.cell? ⟨g, 3, none⟩ = some (.string ⟨#[]⟩)
  a4 : wx.cell? ⟨g, 4, none⟩ = some (.string ⟨#[]⟩)
  fz : ∀ o, wx.frozen? ⟨g, o, none⟩ = false
theorem RB.step {w0 wx w' : World} {g : Nat} (h : RB w0 g wx) (hb : Below wx.heap.size wx w') : RB w0 g w' :=
  ⟨h.below.trans (hb.mono h.below.size), h.ge, Nat.lt_of_lt_of_le h.lt hb.size, cell_keep hb h.a0, cell_keep hb h.a1, cell_keep hb h.a2, cell_keep hb h.a3, cell_keep hb h.a4, fun o => (hb.frozen (p := ⟨g, o, none⟩) h.lt).trans (h.fz o)⟩
theorem RB.put {w0 wx : World} {g : Nat} (h : RB w0 g wx) (a0 a1 a2 a3 a4 : Value) : Below w0.heap.size w0 (((((wx.setCell ⟨g, 0, none⟩ a0).setCell ⟨g, 1, none⟩ a1).setCell ⟨g, 2, none⟩ a2).setCell ⟨g, 3, none⟩ a3).setCell ⟨g, 4, none⟩ a4) :=
  ((((h.below.setCell (p := ⟨g, 0, none⟩) h.ge _).setCell (p := ⟨g, 1, none⟩) h.ge _).setCell (p := ⟨g, 2, none⟩) h.ge _).setCell (p := ⟨g, 3, none⟩) h.ge _).setCell (p := ⟨g, 4, none⟩) h.ge _
theorem rb_new (w : World) (T : TypeId) : RB w w.heap.size (w.alloc (.cells #[.int .i64 0, .int .i64 0, .int .i64 0, .string ⟨#[]⟩, .string ⟨#[]⟩] T)) :=
  ⟨(Below.refl _ _).alloc (Nat.le_refl _) _, Nat.le_refl _, by simp, by go_simp, by go_simp, by go_simp, by go_simp, by go_simp, fun o => by go_simp⟩
theorem lit_eq {s : ByteArray} {l : List UInt8} (h : s = ⟨l.toArray⟩) : (s.toList == l) = true := by
  subst h; rw [ByteArray.toList_eq]; simp
theorem lit_ne {s : ByteArray} {l : List UInt8} (h : ¬ s = ⟨l.toArray⟩) : (s.toList == l) = false := by
  rw [beq_eq_false_iff_ne]
  intro e
  apply h
  rw [ByteArray.toList_eq] at e
  subst e
  rfl
theorem seek_no {L : List E} {s : ByteArray} (h : ∀ e, e ∈ L → ¬ s = e.name) : seekE L s = none := by
  induction L with
  | nil => rfl
  | cons e es ih =>
    unfold seekE
    rw [if_neg (h e (List.mem_cons_self ..))]
    exact ih fun x hx => h x (List.mem_cons_of_mem _ hx)
theorem has_mem {xs : List ByteArray} {s : ByteArray} (h : Tok.has xs s = true) : s ∈ xs := by
  unfold Tok.has at h
  rw [List.any_eq_true] at h
  obtain ⟨x, hx, he⟩ := h
  rw [beq_iff_eq, ByteArray.toList_eq, ByteArray.toList_eq] at he
  have : x = s := by
    obtain ⟨a⟩ := x; obtain ⟨b⟩ := s
    obtain ⟨a⟩ := a; obtain ⟨b⟩ := b
    simp at he; subst he; rfl
  rw [← this]; exact hx
theorem has_no {xs : List ByteArray} {s : ByteArray} (h : Tok.has xs s = false) : ∀ x, x ∈ xs → ¬ s = x := by
  intro x hx e
  subst e
  have : Tok.has xs s = true := by
    unfold Tok.has
    rw [List.any_eq_true]
    exact ⟨s, hx, beq_self_eq_true _⟩
  rw [h] at this; cases this
theorem act_needs {v a : V} {s : ByteArray} {e : E} (h : seekE (opsOf v.kind) s = some e) (h0 : ¬ e.needs = 0) (hn : ¬ a.kind = e.needs) : act v s a = failR (missed e.needs) := by
  unfold act; rw [h]; exact if_pos ⟨h0, fun x => hn x.symm⟩
theorem act_does {v a : V} {s : ByteArray} {e : E} (h : seekE (opsOf v.kind) s = some e) (hn : e.needs = 0 ∨ a.kind = e.needs) : act v s a = e.f v a := by
  unfold act; rw [h]; exact if_neg (by rintro ⟨h1, h2⟩; exact hn.elim h1 (fun x => h2 x.symm))
theorem act_none {v a : V} {s : ByteArray} (h : seekE (opsOf v.kind) s = none) : act v s a = missR := by
  unfold act; rw [h]
theorem val_num {v : V} (h : valB v = true) (hk : v.kind = 2) : numB v.num = true := by
  unfold valB at h
  rw [hk, if_neg (by decide), if_neg (by decide), if_pos rfl, Bool.and_eq_true, Bool.and_eq_true, decide_eq_true_eq, decide_eq_true_eq] at h
  rw [num_iff]; exact h.1
structure VB (g : Nat) (v : V) (wx : World) : Prop where
  a0 : wx.cell? ⟨g, 0, none⟩ = some (.int .i64 v.kind)
  a1 : wx.cell? ⟨g, 1, none⟩ = some (.int .i64 v.num)
  a2 : wx.cell? ⟨g, 2, none⟩ = some (.string v.text)
theorem VB.step {wx w' : World} {g : Nat} {v : V} (h : VB g v wx) (hb : Below wx.heap.size wx w') : VB g v w' :=
  ⟨cell_keep hb h.a0, cell_keep hb h.a1, cell_keep hb h.a2⟩
theorem vb_new (w : World) (v : V) (T : TypeId) : VB w.heap.size v (w.alloc (.cells #[.int .i64 v.kind, .int .i64 v.num, .string v.text] T)) :=
  ⟨by go_simp, by go_simp, by go_simp⟩
theorem bool_cases {v : V} (h : valB v = true) (hk : v.kind = 1) : v.num = 0 ∨ v.num = 1 := by
  unfold valB at h
  rw [hk, if_neg (by decide), if_pos rfl, Bool.and_eq_true, Bool.and_eq_true, decide_eq_true_eq, decide_eq_true_eq] at h
  omega
theorem text_size {v : V} (h : valB v = true) (hk : v.kind = 3) : v.text.size ≤ 200 := by
  unfold valB at h
  rw [hk, if_neg (by decide), if_neg (by decide), if_neg (by decide), if_pos rfl, Bool.and_eq_true] at h
  have h2 := h.2
  unfold lineB at h2
  rw [Bool.and_eq_true, decide_eq_true_eq] at h2
  exact h2.1
theorem rb_two {w : World} (v : V) (T U : TypeId) : RB w (w.heap.size + 1) ((w.alloc (.cells #[.int .i64 v.kind, .int .i64 v.num, .string v.text] T)).alloc (.cells #[.int .i64 0, .int .i64 0, .int .i64 0, .string ⟨#[]⟩, .string ⟨#[]⟩] U)) := by
  have hb0 : Below w.heap.size w (w.alloc (.cells #[.int .i64 v.kind, .int .i64 v.num, .string v.text] T)) := (Below.refl _ _).alloc (Nat.le_refl _) _
  have h := rb_new (w.alloc (.cells #[.int .i64 v.kind, .int .i64 v.num, .string v.text] T)) U
  rw [show (w.alloc (.cells #[.int .i64 v.kind, .int .i64 v.num, .string v.text] T)).heap.size = w.heap.size + 1 by simp] at h
  exact ⟨hb0.trans (h.below.mono hb0.size), by omega, h.lt, h.a0, h.a1, h.a2, h.a3, h.a4, h.fz⟩
theorem vb_two {w : World} (v : V) (T : TypeId) (o : Obj) : VB w.heap.size v ((w.alloc (.cells #[.int .i64 v.kind, .int .i64 v.num, .string v.text] T)).alloc o) :=
  (vb_new w v T).step ((Below.refl _ _).alloc (Nat.le_refl _) _)
theorem rb_three {w : World} (v a : V) (T S U : TypeId) : RB w (w.heap.size + 1 + 1) (((w.alloc (.cells #[.int .i64 v.kind, .int .i64 v.num, .string v.text] T)).alloc (.cells #[.int .i64 a.kind, .int .i64 a.num, .string a.text] S)).alloc (.cells #[.int .i64 0, .int .i64 0, .int .i64 0, .string ⟨#[]⟩, .string ⟨#[]⟩] U)) := by
  have hb0 : Below w.heap.size w (w.alloc (.cells #[.int .i64 v.kind, .int .i64 v.num, .string v.text] T)) := (Below.refl _ _).alloc (Nat.le_refl _) _
  have h := rb_two (w := w.alloc (.cells #[.int .i64 v.kind, .int .i64 v.num, .string v.text] T)) a S U
  rw [show (w.alloc (.cells #[.int .i64 v.kind, .int .i64 v.num, .string v.text] T)).heap.size = w.heap.size + 1 by simp] at h
  exact ⟨hb0.trans (h.below.mono hb0.size), by omega, h.lt, h.a0, h.a1, h.a2, h.a3, h.a4, h.fz⟩
theorem vb_three {w : World} (v a : V) (T S : TypeId) (o : Obj) : VB w.heap.size v (((w.alloc (.cells #[.int .i64 v.kind, .int .i64 v.num, .string v.text] T)).alloc (.cells #[.int .i64 a.kind, .int .i64 a.num, .string a.text] S)).alloc o) :=
  (vb_two v T _).step ((Below.refl _ _).alloc (Nat.le_refl _) _)
theorem ub_three {w : World} (v a : V) (T S : TypeId) (o : Obj) : VB (w.heap.size + 1) a (((w.alloc (.cells #[.int .i64 v.kind, .int .i64 v.num, .string v.text] T)).alloc (.cells #[.int .i64 a.kind, .int .i64 a.num, .string a.text] S)).alloc o) := by
  have h := vb_two (w := w.alloc (.cells #[.int .i64 v.kind, .int .i64 v.num, .string v.text] T)) a S o
  rw [show (w.alloc (.cells #[.int .i64 v.kind, .int .i64 v.num, .string v.text] T)).heap.size = w.heap.size + 1 by simp] at h
  exact h
end Go.Proofs.YtkmclgofghaeoaaGreat.SpecBas

namespace Go.Proofs.YtkmclgofghaeoaaGreat.SpecBas
open Go.RowKit
open Strs Sto Bas
set_option linter.unusedVariables false
set_option maxHeartbeats 1000000 in
theorem int_is (n : Int) (w : World) : Calls Tryz.prog 51 #[.int .i64 n] w fun e w' => e = .returned (vval (intV n)) ∧ Below w.heap.size w w' := by
  have HB : ∀ cs, Hid (Below w.heap.size w (w.alloc (.cells cs 27))) := fun cs => Lib.hid ((Below.refl _ _).alloc (Nat.le_refl _) _)
  go_enter Tryz.func51, Tryz.ntmps51
  go_wp2_with fail
  exact bodyPost_ret (v := vval (intV n)) (by simp [results, Tryz.results51, go_sem, *]; try rfl) rfl ⟨rfl, (HB _).out⟩
set_option maxHeartbeats 1000000 in
theorem text_is (t : ByteArray) (w : World) : Calls Tryz.prog 30 #[.string t] w fun e w' => e = .returned (vval (textV t)) ∧ Below w.heap.size w w' := by
  have HB : ∀ cs, Hid (Below w.heap.size w (w.alloc (.cells cs 27))) := fun cs => Lib.hid ((Below.refl _ _).alloc (Nat.le_refl _) _)
  go_enter Tryz.func30, Tryz.ntmps30
  go_wp2_with fail
  exact bodyPost_ret (v := vval (textV t)) (by simp [results, Tryz.results30, go_sem, *]; try rfl) rfl ⟨rfl, (HB _).out⟩
set_option maxHeartbeats 1000000 in
theorem bool_is (b : Bool) (w : World) : Calls Tryz.prog 48 #[.bool b] w fun e w' => e = .returned (vval (boolV b)) ∧ Below w.heap.size w w' := by
  have HB : ∀ cs, Hid (Below w.heap.size w (w.alloc (.cells cs 27))) := fun cs => Lib.hid ((Below.refl _ _).alloc (Nat.le_refl _) _)
  cases b with
  | true =>
    go_enter Tryz.func48, Tryz.ntmps48
    go_wp2_with fail
    exact bodyPost_ret (v := vval (boolV true)) (by simp [results, Tryz.results48, go_sem, *]; try rfl) rfl ⟨rfl, (HB _).out⟩
  | false =>
    go_enter Tryz.func48, Tryz.ntmps48
    go_wp2_with fail
    exact bodyPost_ret (v := vval (boolV false)) (by simp [results, Tryz.results48, go_sem, *]; try rfl) rfl ⟨rfl, (HB _).out⟩
set_option maxHeartbeats 1000000 in
theorem done_is (v : V) (w : World) : Calls Tryz.prog 29 #[vval v] w fun e w' => e = .returned (doneR v).val ∧ Below w.heap.size w w' := by
  have HB : ∀ cs ds, Hid (Below w.heap.size w ((w.alloc (.cells cs 27)).alloc (.cells ds 29))) := fun cs ds => Lib.hid (((Below.refl _ _).alloc (Nat.le_refl _) _).alloc (by simp) _)
  unfold vval
  go_enter Tryz.func29, Tryz.ntmps29
  go_wp2_with fail
  exact bodyPost_ret (v := (doneR v).val) (by simp [results, Tryz.results29, go_sem, *]; try rfl) rfl ⟨rfl, (HB _ _).out⟩
set_option maxHeartbeats 1000000 in
theorem error_is (t : ByteArray) (w : World) : Calls Tryz.prog 49 #[.string t] w fun e w' => e = .returned (failR t).val ∧ Below w.heap.size w w' := by
  have HB : ∀ cs, Hid (Below w.heap.size w (w.alloc (.cells cs 29))) := fun cs => Lib.hid ((Below.refl _ _).alloc (Nat.le_refl _) _)
  go_enter Tryz.func49, Tryz.ntmps49
  go_wp2_with fail
  exact bodyPost_ret (v := (failR t).val) (by simp [results, Tryz.results49, go_sem, *]; try rfl) rfl ⟨rfl, (HB _).out⟩
set_option maxHeartbeats 1000000 in
theorem miss_is (w : World) : Calls Tryz.prog 14 #[] w fun e w' => e = .returned missR.val ∧ Below w.heap.size w w' := by
  have HB : ∀ cs, Hid (Below w.heap.size w (w.alloc (.cells cs 29))) := fun cs => Lib.hid ((Below.refl _ _).alloc (Nat.le_refl _) _)
  go_enter Tryz.func14, Tryz.ntmps14
  go_wp2_with fail
  exact bodyPost_ret (v := missR.val) (by simp [results, Tryz.results14, go_sem, *]; try rfl) rfl ⟨rfl, (HB _).out⟩
set_option maxHeartbeats 1000000 in
theorem number_is (n : Int) (w : World) : Calls Tryz.prog 93 #[.int .i64 n] w fun e w' => e = .returned (numR n).val ∧ Below w.heap.size w w' := by
  have KI := fun w' => Lib.hid (SpecTree.in_any n (-999999999) 999999999 w')
  rw [show decide (-999999999 ≤ n ∧ n ≤ 999999999) = numB n from rfl] at KI
  have BX := Lib.hid (rb_new w 29)
  unfold numR
  generalize numB n = b at *
  cases b with
  | true =>
    rw [if_pos rfl]
    go_enter Tryz.func93, Tryz.ntmps93
    go_wp2_with fail
    refine (KI _).out.mono ?_
    rintro e w1 ⟨rfl, rfl⟩
    go_wp2_with fail
    refine (int_is n _).mono ?_
    rintro e w1 ⟨rfl, hb1⟩
    have BX1 := Lib.hid (BX.out.step hb1)
    clear hb1 BX
    go_wp2_with fail
    refine (done_is (intV n) _).mono ?_
    rintro e w2 ⟨rfl, hb2⟩
    obtain ⟨hB, hge, hlt, a0, a1, a2, a3, a4, fz⟩ := BX1.out.step hb2
    have BX2 := Lib.hid (BX1.out.step hb2)
    clear hb2 BX1 KI
    unfold R.val
    go_wp2_with fail
    exact bodyPost_ret (v := (doneR (intV n)).val) (by simp [results, Tryz.results93, go_sem, *]; try rfl) rfl ⟨rfl, BX2.out.put _ _ _ _ _⟩
  | false =>
    rw [if_neg Bool.false_ne_true]
    go_enter Tryz.func93, Tryz.ntmps93
    go_wp2_with fail
    refine (KI _).out.mono ?_
    rintro e w1 ⟨rfl, rfl⟩
    go_wp2_with fail
    refine (error_is _ _).mono ?_
    rintro e w2 ⟨rfl, hb2⟩
    obtain ⟨hB, hge, hlt, a0, a1, a2, a3, a4, fz⟩ := BX.out.step hb2
    have BX2 := Lib.hid (BX.out.step hb2)
    clear hb2 BX KI
    unfold R.val
    go_wp2_with fail
    exact bodyPost_ret (v := (failR ⟨#[111, 118, 101, 114, 102, 108, 111, 119]⟩).val) (by simp [results, Tryz.results93, go_sem, *]; try rfl) rfl ⟨rfl, BX2.out.put _ _ _ _ _⟩
end Go.Proofs.YtkmclgofghaeoaaGreat.SpecBas

namespace Go.Proofs.YtkmclgofghaeoaaGreat.SpecBas
open Go.RowKit
open Strs Sto Bas
set_option linter.unusedVariables false
set_option maxHeartbeats 2000000 in
theorem floor_is (a b : Int) (w : World) (ha : numB a = true) (hn : numB b = true) (hb : ¬ b = 0) :
    Calls Tryz.prog 95 #[.int .i64 a, .int .i64 b] w fun e w' => e = .returned (.tuple #[.int .i64 (quotI a b), .int .i64 (restI a b)]) ∧ w = w' := by
  have h1 : (a.tdiv b).natAbs = a.natAbs / b.natAbs := Int.natAbs_tdiv ..
  have h4 : a.natAbs / b.natAbs ≤ a.natAbs := Nat.div_le_self _ _
  have h3 := tmod_lt (a := a) hb
  rw [num_iff] at ha hn
  have q1 : -999999999 ≤ a.tdiv b := by omega
  have q2 : a.tdiv b ≤ 999999999 := by omega
  have r1 : -999999999 ≤ a.tmod b := by omega
  have r2 : a.tmod b ≤ 999999999 := by omega
  have z := SpecSto.eq_no hb
  have HQ1 := fun h => Lib.hid (quot_yes (a := a) hb h)
  have HQ2 := fun h => Lib.hid (quot_no (a := a) hb h)
  have HR1 := fun h => Lib.hid (rest_yes (a := a) hb h)
  have HR2 := fun h => Lib.hid (rest_no (a := a) hb h)
  have HO := Lib.hid (off_iff a b)
  clear h1 h4 h3
  obtain ⟨n1, n2⟩ := hn
  obtain ⟨m1, m2⟩ := ha
  by_cases g0 : a.tmod b = 0
  · have ho : offB a b = false := by rw [← Bool.not_eq_true, HO.out]; exact fun h => h.1 g0
    rw [(HQ2 ho).out, (HR2 ho).out]
    have g := SpecSto.eq_yes g0
    clear HQ1 HQ2 HR1 HR2 HO ho g0
    go_enter Tryz.func95, Tryz.ntmps95
    go_wp2_with fail
    go_ret2
    exact ⟨rfl, rfl⟩
  · have g := SpecSto.eq_no g0
    by_cases g5 : a.tmod b < 0 <;> by_cases g6 : b < 0
    · have ho : offB a b = false := by rw [← Bool.not_eq_true, HO.out]; exact fun h => h.2 (by omega)
      rw [(HQ2 ho).out, (HR2 ho).out]
      clear HQ1 HQ2 HR1 HR2 HO ho g0
      go_enter Tryz.func95, Tryz.ntmps95
      go_wp2_with fail
      go_ret2
      exact ⟨rfl, rfl⟩
    · have ho : offB a b = true := by rw [HO.out]; exact ⟨g0, by omega⟩
      rw [(HQ1 ho).out, (HR1 ho).out]
      clear HQ1 HQ2 HR1 HR2 HO ho g0
      go_enter Tryz.func95, Tryz.ntmps95
      go_wp2_with fail
      go_ret2
      exact ⟨rfl, rfl⟩
    · have ho : offB a b = true := by rw [HO.out]; exact ⟨g0, by omega⟩
      rw [(HQ1 ho).out, (HR1 ho).out]
      clear HQ1 HQ2 HR1 HR2 HO ho g0
      go_enter Tryz.func95, Tryz.ntmps95
      go_wp2_with fail
      go_ret2
      exact ⟨rfl, rfl⟩
    · have ho : offB a b = false := by rw [← Bool.not_eq_true, HO.out]; exact fun h => h.2 (by omega)
      rw [(HQ2 ho).out, (HR2 ho).out]
      clear HQ1 HQ2 HR1 HR2 HO ho g0
      go_enter Tryz.func95, Tryz.ntmps95
      go_wp2_with fail
      go_ret2
      exact ⟨rfl, rfl⟩
set_option maxHeartbeats 1000000 in
theorem max_is (a b : Int) (w : World) : Calls Tryz.prog 52 #[.int .i64 a, .int .i64 b] w fun r w' => r = .returned (.int .i64 (max a b)) ∧ w = w' := by
  by_cases h : b < a
  · rw [show max a b = a by omega]
    go_enter Tryz.func52, Tryz.ntmps52
    go_wp2_with fail
    go_ret
    exact ⟨rfl, rfl⟩
  · rw [show max a b = b by omega]
    go_enter Tryz.func52, Tryz.ntmps52
    go_wp2_with fail
    go_ret
    exact ⟨rfl, rfl⟩
set_option maxHeartbeats 1000000 in
theorem min_is (a b : Int) (w : World) : Calls Tryz.prog 94 #[.int .i64 a, .int .i64 b] w fun r w' => r = .returned (.int .i64 (min a b)) ∧ w = w' := by
  by_cases h : a < b
  · rw [show min a b = a by omega]
    go_enter Tryz.func94, Tryz.ntmps94
    go_wp2_with fail
    go_ret
    exact ⟨rfl, rfl⟩
  · rw [show min a b = b by omega]
    go_enter Tryz.func94, Tryz.ntmps94
    go_wp2_with fail
    go_ret
    exact ⟨rfl, rfl⟩
end Go.Proofs.YtkmclgofghaeoaaGreat.SpecBas
