/-
  The mass of data (for inductions), and the blocks of a function that copies a struct: the argument's copy, the result's cells, the variable that is filled.
-/
import Derived.Test.YtkmclgofghaeoaaBTypes
import Derived.Outline
import Derived.Deep.QuietTactic
import Derived.BigQuiet
import Derived.Deep.RegionWith
import Derived.Deep.RegionHeld3
namespace Go.Proofs.Ytkmclgofghaeoaa.Data
open Go.RowKit
open Strs
mutual
def mass : P → Nat
  | .int _ => 1
  | .str _ => 1
  | .bool _ => 1
  | .row _ ps => 1 + masses ps
def masses : List P → Nat
  | [] => 0
  | p :: ps => mass p + masses ps
end
theorem masses_append (a b : List P) : masses (a ++ b) = masses a + masses b := by
  induction a with
  | nil => simp [masses]
  | cons e es ih => simp [masses, ih]; omega
def puts (w : World) (g p : Nat) : List Value → World
  | [] => w
  | v :: vs => puts (w.setCell ⟨g, p, none⟩ v) g (p + 1) vs
def sets (xs : List Value) (p : Nat) : List Value → List Value
  | [] => xs
  | v :: vs => sets (xs.set p v) (p + 1) vs
theorem sets_len (vs : List Value) : ∀ (xs : List Value) (p : Nat), (sets xs p vs).length = xs.length := by
  induction vs with
  | nil => intro xs p; rfl
  | cons v vs ih => intro xs p; rw [sets, ih, List.length_set]
theorem sets_low (vs : List Value) : ∀ (xs : List Value) (p q : Nat), q < p → (sets xs p vs)[q]? = xs[q]? := by
  induction vs with
  | nil => intro xs p q _; rfl
  | cons v vs ih => intro xs p q h; rw [sets, ih _ _ _ (by omega), List.getElem?_set_ne (by omega)]
theorem sets_at (vs : List Value) : ∀ (xs : List Value) (p j : Nat), p + vs.length ≤ xs.length → j < vs.length → (sets xs p vs)[p + j]? = vs[j]? := by
  induction vs with
  | nil => intro xs p j _ h; simp at h
  | cons v vs ih =>
    intro xs p j h hj
    rw [sets]
    cases j with
    | zero => rw [sets_low _ _ _ _ (by omega), Nat.add_zero, List.getElem?_set_self (by simp at h; omega)]; rfl
    | succ j =>
      rw [show p + (j + 1) = p + 1 + j by omega, ih _ _ _ (by simp at h ⊢; omega) (by simpa using hj)]
      rfl
theorem puts_own {base : Nat} {t k g n c : Nat} (vs : List Value) : ∀ (w : World) (xs : List Value) (p : Nat), w.ownsRow base t k (.slice (some ⟨g, 0, none⟩) n c) n xs → (puts w g p vs).ownsRow base t k (.slice (some ⟨g, 0, none⟩) n c) n (sets xs p vs) := by
  induction vs with
  | nil => intro w xs p h; exact h
  | cons v vs ih => intro w xs p h; exact ih _ _ _ (h.stored p v).1
theorem puts_size {g : Nat} (vs : List Value) : ∀ (w : World) (p : Nat), (puts w g p vs).heap.size = w.heap.size := by
  induction vs with
  | nil => intro w p; rfl
  | cons v vs ih => intro w p; rw [puts, ih]; simp
theorem puts_below {base g : Nat} (hg : base ≤ g) (vs : List Value) : ∀ (w w1 : World) (p : Nat), Below base w w1 → Below base w (puts w1 g p vs) := by
  induction vs with
  | nil => intro w w1 p h; exact h
  | cons v vs ih => intro w w1 p h; exact ih _ _ _ (h.setCell hg _)
theorem Own.setLow {base : Nat} {w : World} {ds : List D} (h : Own base w ds) {g : Nat} (hg : g < base) (o : Nat) (v : Value) : Own base (w.setCell ⟨g, o, none⟩ v) ds :=
  h.frame fun b hb => Below.heap_setCell _ _ _ _ (fun e => by have := h.lo b hb; have : b = g := e; omega)
theorem Own.putLow {base : Nat} {ds : List D} {g : Nat} (hg : g < base) (vs : List Value) : ∀ (w : World) (p : Nat), Own base w ds → Own base (puts w g p vs) ds := by
  induction vs with
  | nil => intro w p h; exact h
  | cons v vs ih => intro w p h; exact ih _ _ (h.setLow hg _ _)
def SomeD (w : World) (t k n : Nat) (ds : List D) (i : Nat) (wr : World) : Prop :=
  w.heap.size < wr.heap.size ∧ Below w.heap.size w wr ∧ ∃ (xs : List Value) (es : List D), xs.length = n * k ∧ wr.ownsRow w.heap.size t k (.slice (some ⟨w.heap.size, 0, none⟩) n n) n xs ∧
    es.length = i * k ∧ (∀ j (h : j < es.length), xs[j]? = some (val es[j])) ∧ erases es = (erases ds).take (i * k) ∧ Own (w.heap.size + 1) wr es
theorem someD_step {w wr w2 : World} {t k n i : Nat} {ds A item rest es : List D} (h : SomeD w t k n ds i wr) (hb : Below wr.heap.size wr w2) (ho : Own wr.heap.size w2 es) (he : erases es = erases item) (hd : ds = A ++ (item ++ rest)) (hal : A.length = i * k) (hil : item.length = k) (hlt : i < n) :
    SomeD w t k n ds (i + 1) (puts w2 w.heap.size (i * k) (vals es)) := by
  obtain ⟨hg, hbw, xs, fs, hxl, how, hfl, hfx, hfe, hfo⟩ := h
  have hel : es.length = k := by
    have := congrArg List.length he
    rw [erases_len, erases_len] at this
    omega
  have hik : (i + 1) * k ≤ n * k := Nat.mul_le_mul_right k (by omega)
  rw [Nat.succ_mul] at hik
  refine ⟨by rw [puts_size]; have := hb.size; omega, puts_below (Nat.le_refl _) _ _ _ _ (hbw.trans (hb.mono (by omega))), sets xs (i * k) (vals es), fs ++ es, by rw [sets_len, hxl], puts_own _ _ _ _ (own_keep how hb), by rw [List.length_append, hfl, hel, Nat.succ_mul], fun j hj => ?_, ?_, Own.putLow (Nat.lt_succ_self _) _ _ _ (hfo.snoc hb ho (by omega))⟩
  · rw [List.length_append, hfl, hel] at hj
    by_cases hji : j < i * k
    · rw [sets_low _ _ _ _ hji, hfx j (by omega), List.getElem_append_left (by omega)]
    · have hjj : j = i * k + (j - i * k) := by omega
      have h1 := sets_at (vals es) xs (i * k) (j - i * k) (by rw [vals_len, hel, hxl]; exact hik) (by rw [vals_len]; omega)
      rw [← hjj] at h1
      rw [h1, vals_get es _ (by omega), List.getElem_append_right (by omega)]
      congr 2
      simp only [hfl]
  · rw [erases_append, hfe, he, hd, erases_append, erases_append, Nat.succ_mul]
    have hA : (erases A).length = i * k := by rw [erases_len, hal]
    have hI : (erases item).length = k := by rw [erases_len, hil]
    rw [← hA, ← hI, List.take_append_of_le_length (Nat.le_refl _), List.take_length, List.take_length_add_append, List.take_append_of_le_length (Nat.le_refl _), List.take_length]
theorem someD_all {w wr : World} {t k n : Nat} {ds : List D} (hk : 0 < k) (hn : ds.length = n * k) (h : SomeD w t k n ds n wr) : ∃ es, erases es = erases ds ∧ Row w.heap.size wr t k (.slice (some ⟨w.heap.size, 0, none⟩) n n) es := by
  obtain ⟨hg, hbw, xs, es, hxl, how, hfl, hfx, hfe, hfo⟩ := h
  refine ⟨es, by rw [hfe, ← hn, ← erases_len, List.take_length], ⟨n, hk, hfl, ?_⟩, hfo.mono (by omega), fun b hb hc => ?_⟩
  · have : xs = vals es := by
      apply List.ext_getElem?
      intro j
      by_cases hj : j < es.length
      · rw [hfx j hj, vals_get es j hj]
      · rw [List.getElem?_eq_none (by omega), List.getElem?_eq_none (by rw [vals_len]; omega)]
    rw [this] at how
    exact how
  · have h1 := hfo.lo b hc
    simp [blk, Value.ownBlock] at hb
    omega
theorem someD_start {w w1 : World} {t k n : Nat} {ds : List D} {xs : List Value} (hown : w1.ownsRow w.heap.size t k (.slice (some ⟨w.heap.size, 0, none⟩) n n) n xs) (hb : Below w.heap.size w w1) : SomeD w t k n ds 0 w1 :=
  ⟨(hown.lt _ rfl).2, hb, xs, [], hown.1, hown, by simp, fun j h => by simp at h, by simp [erases], Own.nil _ _⟩
theorem SomeD.cell {w wr w2 : World} {t k n i : Nat} {ds : List D} (h : SomeD w t k n ds i wr) (hb : Below wr.heap.size wr w2) (hlt : i < n) (r : Nat) (hr : r < k) : ∃ v, w2.cell? ⟨w.heap.size, i * k + r, none⟩ = some v := by
  obtain ⟨hg, hbw, xs, fs, hxl, how, hfl, hfx, hfe, hfo⟩ := h
  have hik : (i + 1) * k ≤ n * k := Nat.mul_le_mul_right k (by omega)
  rw [Nat.succ_mul] at hik
  rw [(own_keep how hb).cellAt _ (by omega)]
  exact ⟨_, List.getElem?_eq_getElem (by omega)⟩
theorem SomeD.free {w wr w2 : World} {t k n i : Nat} {ds : List D} (h : SomeD w t k n ds i wr) (hb : Below wr.heap.size wr w2) (o : Nat) : w2.frozen? ⟨w.heap.size, o, none⟩ = false := by
  obtain ⟨hg, hbw, xs, fs, hxl, how, hfl, hfx, hfe, hfo⟩ := h
  exact (own_keep how hb).frozenAt o
structure Box (w : World) (ds zs os : List D) (wr : World) : Prop where
  below : Below w.heap.size w wr
  size : w.heap.size + 3 ≤ wr.heap.size
  a : Cells w.heap.size ds wr
  b : Cells (w.heap.size + 1) zs wr
  c : Cells (w.heap.size + 1 + 1) os wr
  fb : ∀ o, wr.frozen? ⟨w.heap.size + 1, o, none⟩ = false
  fc : ∀ o, wr.frozen? ⟨w.heap.size + 1 + 1, o, none⟩ = false
theorem Box.step {w wr w' : World} {ds zs os : List D} (h : Box w ds zs os wr) (hb : Below wr.heap.size wr w') : Box w ds zs os w' :=
  ⟨h.below.trans (hb.mono (by have := h.size; omega)), Nat.le_trans h.size hb.size, h.a.step hb, h.b.step hb, h.c.step hb,
    fun o => (hb.frozen (p := ⟨_, o, none⟩) (by have := h.size; simp; omega)).trans (h.fb o), fun o => (hb.frozen (p := ⟨_, o, none⟩) (by have := h.size; simp; omega)).trans (h.fc o)⟩
theorem cells_other {B g o : Nat} {ds : List D} {wr : World} (h : Cells B ds wr) (v : Value) (hg : B ≠ g) : Cells B ds (wr.setCell ⟨g, o, none⟩ v) :=
  ⟨by simpa using h.1, fun j hj => (World.cell?_setCell_other _ _ _ _ (by intro e; injection e with e1; exact hg e1.symm)).trans (h.2 j hj)⟩
theorem Cells.set {B : Nat} {ds : List D} {wr : World} (h : Cells B ds wr) (j : Nat) (d : D) (hj : j < ds.length) (hf : wr.frozen? ⟨B, j, none⟩ = false) : Cells B (ds.set j d) (wr.setCell ⟨B, j, none⟩ (val d)) := by
  refine ⟨by simpa using h.1, fun q hq => ?_⟩
  have hq' : q < ds.length := by simpa using hq
  by_cases e : q = j
  · subst e
    have := h.2 q hq'
    rw [List.getElem_set_self]
    go_simp
  · rw [List.getElem_set_ne (by omega)]
    exact (World.cell?_setCell_other _ _ _ _ (by intro e2; injection e2 with _ e3; omega)).trans (h.2 q hq')
theorem Box.set {w wr : World} {ds zs os : List D} (h : Box w ds zs os wr) (j : Nat) (d : D) (hj : j < os.length) : Box w ds zs (os.set j d) (wr.setCell ⟨w.heap.size + 1 + 1, j, none⟩ (val d)) :=
  ⟨h.below.setCell (by show w.heap.size ≤ w.heap.size + 1 + 1; omega) _, by simpa using h.size, cells_other h.a _ (by omega), cells_other h.b _ (by omega), h.c.set j d hj (h.fc j),
    fun o => by have := h.fb o; go_simp, fun o => by have := h.fc o; go_simp⟩
theorem box_new (w : World) (ds zs os : List D) (t1 t2 t3 : TypeId) : Box w ds zs os (((w.alloc (Obj.cells (vals ds).toArray t1)).alloc (Obj.cells (vals zs).toArray t2)).alloc (Obj.cells (vals os).toArray t3)) := by
  have h1 := (Below.refl w.heap.size w).alloc (Nat.le_refl _) (Obj.cells (vals ds).toArray t1)
  have h2 := (Below.refl (w.alloc (Obj.cells (vals ds).toArray t1)).heap.size (w.alloc (Obj.cells (vals ds).toArray t1))).alloc (Nat.le_refl _) (Obj.cells (vals zs).toArray t2)
  have h3 := (Below.refl ((w.alloc (Obj.cells (vals ds).toArray t1)).alloc (Obj.cells (vals zs).toArray t2)).heap.size ((w.alloc (Obj.cells (vals ds).toArray t1)).alloc (Obj.cells (vals zs).toArray t2))).alloc (Nat.le_refl _) (Obj.cells (vals os).toArray t3)
  have c1 := cells_new w ds t1
  have c2 := cells_new (w.alloc (Obj.cells (vals ds).toArray t1)) zs t2
  have c3 := cells_new ((w.alloc (Obj.cells (vals ds).toArray t1)).alloc (Obj.cells (vals zs).toArray t2)) os t3
  have e1 : (w.alloc (Obj.cells (vals ds).toArray t1)).heap.size = w.heap.size + 1 := by simp
  have e2 : ((w.alloc (Obj.cells (vals ds).toArray t1)).alloc (Obj.cells (vals zs).toArray t2)).heap.size = w.heap.size + 1 + 1 := by simp
  have c2' := c2.step h3
  have c1' := (c1.step h2).step h3
  rw [e1] at c2'
  rw [e2] at c3
  refine ⟨(((Below.refl _ _).alloc (Nat.le_refl _) _).alloc (by simp) _).alloc (by simp; omega) _, by simp, c1', c2', c3, ?_, ?_⟩
  all_goals (intro o; go_simp)
theorem row_slice {w : World} {t k : Nat} {v : Value} {ds : List D} (h : Good w (.row t k v ds)) : ∃ a n c, v = .slice a n c := by
  rw [Good] at h
  obtain ⟨⟨n, -, -, ho⟩, -⟩ := h
  obtain ⟨_, ⟨rfl, hn⟩ | ⟨g, cap, cur, rfl, _⟩⟩ := ho
  · exact ⟨none, 0, 0, rfl⟩
  · exact ⟨_, _, _, rfl⟩
end Go.Proofs.Ytkmclgofghaeoaa.Data
