/-
  Cells for results and arguments of messages to simple values.
  The model's messages to simple values, its small parts.
-/
import Derived.Test.YtkmclgofghaeoaaBBasMath
import Derived.Test.YtkmclgofghaeoaaBMark
import Derived.Test.YtkmclgofghaeoaaBTreeOk
import Derived.WalkKit
import Derived.BigQuiet
namespace Go.Proofs.Ytkmclgofghaeoaa.SpecBas
open Go.RowKit
open Strs Sto Bas
set_option linter.unusedVariables false
theorem eq_yes {a b : Int} (h : a = b) : (a == b) = true ∧ (a != b) = false := by subst h; simp
theorem eq_no {a b : Int} (h : ¬ a = b) : (a == b) = false ∧ (a != b) = true := by
  have : (a == b) = false := by rw [beq_eq_false_iff_ne]; exact h
  exact ⟨this, by unfold bne; rw [this]; rfl⟩
structure RB (w0 : World) (g : Nat) (wx : World) : Prop where
  below : Below w0.heap.size w0 wx
  ge : w0.heap.size ≤ g
  lt : g < wx.heap.size
  a0 : wx.cell? ⟨g, 0, none⟩ = some (.int .i64 0)
  a1 : wx.cell? ⟨g, 1, none⟩ = some (.int .i64 0)
  a2 : wx.cell? ⟨g, 2, none⟩ = some (.int .i64 0)
  a3 : wx.cell? ⟨g, 3, none⟩ = some (.string ⟨#[]⟩)
  a4 : wx.cell? ⟨g, 4, none⟩ = some (.string ⟨#[]⟩)
  fz : ∀ o, wx.frozen? ⟨g, o, none⟩ = false
theorem RB.step {w0 wx w' : World} {g : Nat} (h : RB w0 g wx) (hb : Below wx.heap.size wx w') : RB w0 g w' :=
  ⟨h.below.trans (hb.mono h.below.size), h.ge, Nat.lt_of_lt_of_le h.lt hb.size, cell_keep hb h.a0, cell_keep hb h.a1, cell_keep hb h.a2, cell_keep hb h.a3, cell_keep hb h.a4, fun o => (hb.frozen (p := ⟨g, o, none⟩) h.lt).trans (h.fz o)⟩
theorem RB.put {w0 wx : World} {g : Nat} (h : RB w0 g wx) (a0 a1 a2 a3 a4 : Value) : Below w0.heap.size w0 (((((wx.setCell ⟨g, 0, none⟩ a0).setCell ⟨g, 1, none⟩ a1).setCell ⟨g, 2, none⟩ a2).setCell ⟨g, 3, none⟩ a3).setCell ⟨g, 4, none⟩ a4) :=
  ((((h.below.setCell (p := ⟨g, 0, none⟩) h.ge _).setCell (p := ⟨g, 1, none⟩) h.ge _).setCell (p := ⟨g, 2, none⟩) h.ge _).setCell (p := ⟨g, 3, none⟩) h.ge _).setCell (p := ⟨g, 4, none⟩) h.ge _
theorem rb_new (w : World) (T : TypeId) : RB w w.heap.size (w.alloc (.cells #[.int .i64 0, .int .i64 0, .int .i64 0, .string ⟨#[]⟩, .string ⟨#[]⟩] T)) :=
  ⟨(Below.refl _ _).alloc (Nat.le_refl _) _, Nat.le_refl _, by simp, by go_simp, by go_simp, by go_simp, by go_simp, by go_simp, fun o => by go_simp⟩
theorem lit_eq {s : ByteArray} {l : List UInt8} (h : s = ⟨l.toArray⟩) : (s.toList == l) = true := by
  subst h; rw [ByteArray.toList_eq]; simp
theorem lit_ne {s : ByteArray} {l : List UInt8} (h : ¬ s = ⟨l.toArray⟩) : (s.toList == l) = false := by
  rw [beq_eq_false_iff_ne]
  intro e
  apply h
  rw [ByteArray.toList_eq] at e
  subst e
  rfl
theorem seek_no {L : List E} {s : ByteArray} (h : ∀ e, e ∈ L → ¬ s = e.name) : seekE L s = none := by
  induction L with
  | nil => rfl
  | cons e es ih =>
    unfold seekE
    rw [if_neg (h e (List.mem_cons_self ..))]
    exact ih fun x hx => h x (List.mem_cons_of_mem _ hx)
theorem has_mem {xs : List ByteArray} {s : ByteArray} (h : Tok.has xs s = true) : s ∈ xs := by
  unfold Tok.has at h
  rw [List.any_eq_true] at h
  obtain ⟨x, hx, he⟩ := h
  rw [beq_iff_eq, ByteArray.toList_eq, ByteArray.toList_eq] at he
  have : x = s := by
    obtain ⟨a⟩ := x; obtain ⟨b⟩ := s
    obtain ⟨a⟩ := a; obtain ⟨b⟩ := b
    simp at he; subst he; rfl
  rw [← this]; exact hx
theorem has_no {xs : List ByteArray} {s : ByteArray} (h : Tok.has xs s = false) : ∀ x, x ∈ xs → ¬ s = x := by
  intro x hx e
  subst e
  have : Tok.has xs s = true := by
    unfold Tok.has
    rw [List.any_eq_true]
    exact ⟨s, hx, beq_self_eq_true _⟩
  rw [h] at this; cases this
theorem act_needs {v a : V} {s : ByteArray} {e : E} (h : seekE (opsOf v.kind) s = some e) (h0 : ¬ e.needs = 0) (hn : ¬ a.kind = e.needs) : act v s a = failR (missed e.needs) := by
  unfold act; rw [h]; exact if_pos ⟨h0, fun x => hn x.symm⟩
theorem act_does {v a : V} {s : ByteArray} {e : E} (h : seekE (opsOf v.kind) s = some e) (hn : e.needs = 0 ∨ a.kind = e.needs) : act v s a = e.f v a := by
  unfold act; rw [h]; exact if_neg (by rintro ⟨h1, h2⟩; exact hn.elim h1 (fun x => h2 x.symm))
theorem act_none {v a : V} {s : ByteArray} (h : seekE (opsOf v.kind) s = none) : act v s a = missR := by
  unfold act; rw [h]
theorem val_num {v : V} (h : valB v = true) (hk : v.kind = 2) : numB v.num = true := by
  unfold valB at h
  rw [hk, if_neg (by decide), if_neg (by decide), if_pos rfl, Bool.and_eq_true, Bool.and_eq_true, decide_eq_true_eq, decide_eq_true_eq] at h
  rw [num_iff]; exact h.1
structure VB (g : Nat) (v : V) (wx : World) : Prop where
  a0 : wx.cell? ⟨g, 0, none⟩ = some (.int .i64 v.kind)
  a1 : wx.cell? ⟨g, 1, none⟩ = some (.int .i64 v.num)
  a2 : wx.cell? ⟨g, 2, none⟩ = some (.string v.text)
theorem VB.step {wx w' : World} {g : Nat} {v : V} (h : VB g v wx) (hb : Below wx.heap.size wx w') : VB g v w' :=
  ⟨cell_keep hb h.a0, cell_keep hb h.a1, cell_keep hb h.a2⟩
theorem vb_new (w : World) (v : V) (T : TypeId) : VB w.heap.size v (w.alloc (.cells #[.int .i64 v.kind, .int .i64 v.num, .string v.text] T)) :=
  ⟨by go_simp, by go_simp, by go_simp⟩
theorem bool_cases {v : V} (h : valB v = true) (hk : v.kind = 1) : v.num = 0 ∨ v.num = 1 := by
  unfold valB at h
  rw [hk, if_neg (by decide), if_pos rfl, Bool.and_eq_true, Bool.and_eq_true, decide_eq_true_eq, decide_eq_true_eq] at h
  omega
theorem text_size {v : V} (h : valB v = true) (hk : v.kind = 3) : v.text.size ≤ 200 := by
  unfold valB at h
  rw [hk, if_neg (by decide), if_neg (by decide), if_neg (by decide), if_pos rfl, Bool.and_eq_true] at h
  have h2 := h.2
  unfold lineB at h2
  rw [Bool.and_eq_true, decide_eq_true_eq] at h2
  exact h2.1
theorem rb_two {w : World} (v : V) (T U : TypeId) : RB w (w.heap.size + 1) ((w.alloc (.cells #[.int .i64 v.kind, .int .i64 v.num, .string v.text] T)).alloc (.cells #[.int .i64 0, .int .i64 0, .int .i64 0, .string ⟨#[]⟩, .string ⟨#[]⟩] U)) := by
  have hb0 : Below w.heap.size w (w.alloc (.cells #[.int .i64 v.kind, .int .i64 v.num, .string v.text] T)) := (Below.refl _ _).alloc (Nat.le_refl _) _
  have h := rb_new (w.alloc (.cells #[.int .i64 v.kind, .int .i64 v.num, .string v.text] T)) U
  rw [show (w.alloc (.cells #[.int .i64 v.kind, .int .i64 v.num, .string v.text] T)).heap.size = w.heap.size + 1 by simp] at h
  exact ⟨hb0.trans (h.below.mono hb0.size), by omega, h.lt, h.a0, h.a1, h.a2, h.a3, h.a4, h.fz⟩
theorem vb_two {w : World} (v : V) (T : TypeId) (o : Obj) : VB w.heap.size v ((w.alloc (.cells #[.int .i64 v.kind, .int .i64 v.num, .string v.text] T)).alloc o) :=
  (vb_new w v T).step ((Below.refl _ _).alloc (Nat.le_refl _) _)
theorem rb_three {w : World} (v a : V) (T S U : TypeId) : RB w (w.heap.size + 1 + 1) (((w.alloc (.cells #[.int .i64 v.kind, .int .i64 v.num, .string v.text] T)).alloc (.cells #[.int .i64 a.kind, .int .i64 a.num, .string a.text] S)).alloc (.cells #[.int .i64 0, .int .i64 0, .int .i64 0, .string ⟨#[]⟩, .string ⟨#[]⟩] U)) := by
  have hb0 : Below w.heap.size w (w.alloc (.cells #[.int .i64 v.kind, .int .i64 v.num, .string v.text] T)) := (Below.refl _ _).alloc (Nat.le_refl _) _
  have h := rb_two (w := w.alloc (.cells #[.int .i64 v.kind, .int .i64 v.num, .string v.text] T)) a S U
  rw [show (w.alloc (.cells #[.int .i64 v.kind, .int .i64 v.num, .string v.text] T)).heap.size = w.heap.size + 1 by simp] at h
  exact ⟨hb0.trans (h.below.mono hb0.size), by omega, h.lt, h.a0, h.a1, h.a2, h.a3, h.a4, h.fz⟩
theorem vb_three {w : World} (v a : V) (T S : TypeId) (o : Obj) : VB w.heap.size v (((w.alloc (.cells #[.int .i64 v.kind, .int .i64 v.num, .string v.text] T)).alloc (.cells #[.int .i64 a.kind, .int .i64 a.num, .string a.text] S)).alloc o) :=
  (vb_two v T _).step ((Below.refl _ _).alloc (Nat.le_refl _) _)
theorem ub_three {w : World} (v a : V) (T S : TypeId) (o : Obj) : VB (w.heap.size + 1) a (((w.alloc (.cells #[.int .i64 v.kind, .int .i64 v.num, .string v.text] T)).alloc (.cells #[.int .i64 a.kind, .int .i64 a.num, .string a.text] S)).alloc o) := by
  have h := vb_two (w := w.alloc (.cells #[.int .i64 v.kind, .int .i64 v.num, .string v.text] T)) a S o
  rw [show (w.alloc (.cells #[.int .i64 v.kind, .int .i64 v.num, .string v.text] T)).heap.size = w.heap.size + 1 by simp] at h
  exact h
end Go.Proofs.Ytkmclgofghaeoaa.SpecBas

namespace Go.Proofs.Ytkmclgofghaeoaa.SpecBas
open Go.RowKit
open Strs Sto Bas
set_option linter.unusedVariables false
set_option maxHeartbeats 1000000 in
theorem int_is (n : Int) (w : World) : Calls Try.prog 15 #[.int .i64 n] w fun e w' => e = .returned (vval (intV n)) ∧ Below w.heap.size w w' := by
  have HB : ∀ cs, Hid (Below w.heap.size w (w.alloc (.cells cs 25))) := fun cs => Lib.hid ((Below.refl _ _).alloc (Nat.le_refl _) _)
  go_enter Try.func15, Try.ntmps15
  go_wp2_with fail
  exact bodyPost_ret (v := vval (intV n)) (by simp [results, Try.results15, go_sem, *]; try rfl) rfl ⟨rfl, (HB _).out⟩
set_option maxHeartbeats 1000000 in
theorem text_is (t : ByteArray) (w : World) : Calls Try.prog 30 #[.string t] w fun e w' => e = .returned (vval (textV t)) ∧ Below w.heap.size w w' := by
  have HB : ∀ cs, Hid (Below w.heap.size w (w.alloc (.cells cs 25))) := fun cs => Lib.hid ((Below.refl _ _).alloc (Nat.le_refl _) _)
  go_enter Try.func30, Try.ntmps30
  go_wp2_with fail
  exact bodyPost_ret (v := vval (textV t)) (by simp [results, Try.results30, go_sem, *]; try rfl) rfl ⟨rfl, (HB _).out⟩
set_option maxHeartbeats 1000000 in
theorem bool_is (b : Bool) (w : World) : Calls Try.prog 28 #[.bool b] w fun e w' => e = .returned (vval (boolV b)) ∧ Below w.heap.size w w' := by
  have HB : ∀ cs, Hid (Below w.heap.size w (w.alloc (.cells cs 25))) := fun cs => Lib.hid ((Below.refl _ _).alloc (Nat.le_refl _) _)
  cases b with
  | true =>
    go_enter Try.func28, Try.ntmps28
    go_wp2_with fail
    exact bodyPost_ret (v := vval (boolV true)) (by simp [results, Try.results28, go_sem, *]; try rfl) rfl ⟨rfl, (HB _).out⟩
  | false =>
    go_enter Try.func28, Try.ntmps28
    go_wp2_with fail
    exact bodyPost_ret (v := vval (boolV false)) (by simp [results, Try.results28, go_sem, *]; try rfl) rfl ⟨rfl, (HB _).out⟩
end Go.Proofs.Ytkmclgofghaeoaa.SpecBas
