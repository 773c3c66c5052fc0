/-
  spec's IsUnit.
-/
import Derived.Test.YtlmhgeanknhcfaaDataSemi
namespace Go.Proofs.Ytlmhgeanknhcfaa.Data
open Go.RowKit Go.Sort
open Strs Tree

theorem plainC_fit (c : C) (h : FitRow 3 (plainMs c.methods)) : FitL (env 4) (plainC c) :=
  FitL.cons _ _ _ _ (Fit.str _) (FitL.cons _ _ _ _ (Fit.str _) (FitL.cons _ _ _ _ (Fit.row _ _ _ rfl (strs_fit _)) (FitL.cons _ _ _ _ (Fit.row _ _ _ rfl h) FitL.nil)))
theorem plainMs_fit (ms : List M) : FitRow 3 (plainMs ms) := by
  induction ms with
  | nil => exact FitRow.nil 3
  | cons m ms ih => rw [plainMs]; exact FitRow.cons 3 _ _ _ rfl (plainM_fit m) ih
theorem plainCs_fit (cs : List C) : FitRow 4 (plainCs cs) := by
  induction cs with
  | nil => exact FitRow.nil 4
  | cons c cs ih => rw [plainCs]; exact FitRow.cons 4 _ _ _ rfl (plainC_fit c (plainMs_fit _)) ih
theorem plainU_fit (u : U) : FitL (env 5) (plainU u) := FitL.cons _ _ _ _ (Fit.row _ _ _ rfl (plainCs_fit _)) (plainM_fit _)
theorem plainM_len (m : M) : (plainM m).length = 5 := rfl
theorem plainC_len (c : C) : (plainC c).length = 4 := rfl
theorem meths_at : ∀ (ms : List M) (ds : List D), erases ds = plainMs ms → ∀ i (h : i < ms.length), ∃ A x B, ds = A ++ (x ++ B) ∧ A.length = i * 5 ∧ erases x = plainM ms[i] := by
  intro ms
  induction ms with
  | nil => intro ds _ i h; simp at h
  | cons m ms ih =>
    intro ds h i hi
    rw [plainMs] at h
    obtain ⟨x, y, rfl, h1, h2⟩ := erases_split h
    cases i with
    | zero => exact ⟨[], x, y, rfl, by simp, h1⟩
    | succ i =>
      obtain ⟨A, x', B, rfl, h3, h4⟩ := ih y h2 i (by simpa using hi)
      refine ⟨x ++ A, x', B, by rw [List.append_assoc], ?_, h4⟩
      have : x.length = 5 := by
        have := congrArg List.length h1
        rw [erases_len, plainM_len] at this
        exact this
      rw [List.length_append, this, h3, Nat.succ_mul]
      omega
theorem classes_at : ∀ (cs : List C) (ds : List D), erases ds = plainCs cs → ∀ i (h : i < cs.length), ∃ A x B, ds = A ++ (x ++ B) ∧ A.length = i * 4 ∧ erases x = plainC cs[i] := by
  intro cs
  induction cs with
  | nil => intro ds _ i h; simp at h
  | cons m ms ih =>
    intro ds h i hi
    rw [plainCs] at h
    obtain ⟨x, y, rfl, h1, h2⟩ := erases_split h
    cases i with
    | zero => exact ⟨[], x, y, rfl, by simp, h1⟩
    | succ i =>
      obtain ⟨A, x', B, rfl, h3, h4⟩ := ih y h2 i (by simpa using hi)
      refine ⟨x ++ A, x', B, by rw [List.append_assoc], ?_, h4⟩
      have : x.length = 4 := by
        have := congrArg List.length h1
        rw [erases_len, plainC_len] at this
        exact this
      rw [List.length_append, this, h3, Nat.succ_mul]
      omega
theorem plainMs_inj : ∀ (a b : List M), plainMs a = plainMs b → a = b := by
  intro a
  induction a with
  | nil =>
    intro b h
    cases b with
    | nil => rfl
    | cons x xs => have := congrArg List.length h; rw [plainMs_len, plainMs_len] at this; simp at this
  | cons m ms ih =>
    intro b h
    cases b with
    | nil => have := congrArg List.length h; rw [plainMs_len, plainMs_len] at this; simp at this
    | cons x xs =>
      rw [plainMs, plainMs] at h
      have h1 := List.append_inj h (by rw [plainM_len, plainM_len])
      rw [plainM_inj _ _ h1.1, ih xs h1.2]
/-- A class's cells. -/
theorem class_form {ds : List D} {c : C} (h : erases ds = plainC c) : ∃ (t2 t3 : Nat) (v2 v3 : Value) (d3 : List D), ds = [.str c.name, .str c.parent, .row t2 1 v2 (strs c.fields), .row t3 5 v3 d3] ∧ erases d3 = plainMs c.methods := by
  obtain ⟨c', t2, t3, v2, v3, d3, rfl, h3, hf, h5⟩ := class_get (ds := ds) (h ▸ plainC_fit c (plainMs_fit _))
  have e := h5.symm.trans h
  obtain ⟨a1, a2, a3, a4⟩ := c'
  obtain ⟨b1, b2, b3, b4⟩ := c
  simp only [plainC, List.cons.injEq, P.str.injEq, P.row.injEq, true_and, and_true] at e
  obtain ⟨rfl, rfl, e3, e4⟩ := e
  obtain rfl := str_inj _ _ e3
  obtain rfl := plainMs_inj _ _ e4
  exact ⟨t2, t3, v2, v3, d3, rfl, h3⟩
def mainText : ByteArray := ⟨#[109, 97, 105, 110]⟩
def classOk (c : C) : Bool := Tok.isName c.name && Tok.isName c.parent && decide (c.fields.length ≤ 4) && decide (c.methods.length ≤ 12) && c.fields.all Tok.isName && c.methods.all methodOk
def unitOk (u : U) : Bool := decide (u.classes.length ≤ 8) && decide (u.main.sel = mainText) && !u.main.cls && decide (u.main.params.length = 0) && isExpr (bodyE u.main) && u.classes.all classOk
theorem unit_form {ds : List D} {u : U} (h : erases ds = plainU u) : ∃ t0 v0 d0 ms, ds = .row t0 4 v0 d0 :: ms ∧ erases d0 = plainCs u.classes ∧ erases ms = plainM u.main := by
  have hf : FitL (env 5) (erases ds) := h ▸ plainU_fit u
  obtain ⟨t0, v0, d0, e0, rfl, f0, h0⟩ := fitL_row (k := 4) rfl hf
  rw [erases, erase, plainU] at h
  simp only [List.cons.injEq, P.row.injEq, true_and] at h
  exact ⟨t0, v0, d0, e0, rfl, h.1, h.2⟩
/-- A unit's box, and a class's copy, while nothing of them is written. -/
structure St (w : World) (us : List D) (g : Nat) (cs : List D) (wr : World) : Prop where
  below : Below w.heap.size w wr
  u : Cells w.heap.size us wr
  c : Cells g cs wr
theorem St.step {w wr w' : World} {us cs : List D} {g : Nat} (h : St w us g cs wr) (hb : Below wr.heap.size wr w') : St w us g cs w' := ⟨h.below.trans (hb.mono h.below.size), h.u.step hb, h.c.step hb⟩
theorem plainMs_weight : ∀ (ms : List M) (i : Nat) (h : i < ms.length), Data.weights (plainM ms[i]) ≤ Data.weights (plainMs ms) := by
  intro ms
  induction ms with
  | nil => intro i h; simp at h
  | cons m ms ih =>
    intro i h
    rw [plainMs, Data.weights_append]
    cases i with
    | zero => show Data.weights (plainM m) ≤ _; omega
    | succ i => have := ih i (by simpa using h); show Data.weights (plainM (ms[i]'(by simpa using h))) ≤ _; omega
theorem plainCs_weight : ∀ (cs : List C) (i : Nat) (h : i < cs.length), Data.weights (plainC cs[i]) ≤ Data.weights (plainCs cs) := by
  intro ms
  induction ms with
  | nil => intro i h; simp at h
  | cons m ms ih =>
    intro i h
    rw [plainCs, Data.weights_append]
    cases i with
    | zero => show Data.weights (plainC m) ≤ _; omega
    | succ i => have := ih i (by simpa using h); show Data.weights (plainC (ms[i]'(by simpa using h))) ≤ _; omega
theorem plainC_weight (c : C) : Data.weights (plainC c) = c.name.size + (c.parent.size + ((c.fields.length + lens c.fields) + (c.methods.length + Data.weights (plainMs c.methods)))) := by
  simp only [plainC, Data.weights, Data.weight, strP]
  rw [List.length_map, strs_weights, plainMs_len, Nat.mul_div_cancel _ (by decide), Nat.div_one]
  omega
theorem plainU_weight (u : U) : Data.weights (plainU u) = (u.classes.length + Data.weights (plainCs u.classes)) + Data.weights (plainM u.main) := by
  rw [plainU, Data.weights, Data.weight, plainCs_len, Nat.mul_div_cancel _ (by decide)]
theorem all_take {α : Type} (p : α → Bool) (l : List α) (i : Nat) (h : i < l.length) (h1 : (l.take i).all p = true) (h2 : p l[i] = true) : (l.take (i + 1)).all p = true := by
  rw [List.take_succ_eq_append_getElem h, List.all_append, h1, Bool.true_and, List.all_cons, h2]
  rfl
theorem all_no {α : Type} (p : α → Bool) (l : List α) (i : Nat) (h : i < l.length) (h2 : p l[i] = false) : l.all p = false := by
  rw [← Bool.not_eq_true, List.all_eq_true]
  intro e
  have := e l[i] (List.getElem_mem h)
  rw [h2] at this
  cases this

end Go.Proofs.Ytlmhgeanknhcfaa.Data
