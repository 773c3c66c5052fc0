/-
  The program's types of data, each by its cells in order, and which data are of a type.
  The mass of data (for inductions), and the blocks of a function that copies a struct: the argument's copy, the result's cells, the variable that is filled.
-/
import Derived.Test.YtkmclgofghaeoaaGreatBData
import Derived.Outline
import Derived.Deep.QuietTactic
import Derived.BigQuiet
import Derived.Deep.RegionWith
import Derived.Deep.RegionHeld3
namespace Go.Proofs.YtkmclgofghaeoaaGreat.Data
open Go.RowKit
open Strs
inductive Ty where
  | int
  | str
  | bool
  | row (i : Nat)
def tMethod : List Ty := [.str, .bool, .row 0, .row 0, .row 2]
def tCore : List Ty := [.int, .str, .int, .int, .row 7]
def tRoutine : List Ty := [.str, .int, .bool, .int, .int] ++ tCore
def tValue : List Ty := [.int, .int, .str]
def env : Nat → List Ty
  | 0 => [.str]
  | 1 => [.int]
  | 2 => [.int, .str, .int, .row 0, .row 2]
  | 3 => tMethod
  | 4 => [.str, .str, .row 0, .row 3]
  | 5 => .row 4 :: tMethod
  | 6 => [.str, .int, .row 0]
  | 7 => tCore
  | 8 => tRoutine
  | 9 => [.row 6, .row 8] ++ tRoutine
  | 10 => tValue
  | 11 => [.int, .int, .row 10, .row 1]
  | 12 => [.row 6, .row 11, .row 0, .int, .int, .int]
  | 13 => [.int, .str, .str, .row 0, .int]
  | 14 => [.int, .int, .int, .str]
  | 15 => [.bool, .int, .int, .row 14]
  | 16 => [.int, .bool, .str, .int]
  | 17 => [.row 6, .row 15, .row 16, .int]
  | 18 => [.int, .str, .int]
  | _ => []
mutual
inductive Fit : Ty → P → Prop
  | int (n : Int) : Fit .int (.int n)
  | str (s : ByteArray) : Fit .str (.str s)
  | bool (b : Bool) : Fit .bool (.bool b)
  | row (i k : Nat) (ps : List P) (hk : k = (env i).length) (h : FitRow i ps) : Fit (.row i) (.row k ps)
inductive FitRow : Nat → List P → Prop
  | nil (i : Nat) : FitRow i []
  | cons (i : Nat) (ps item rest : List P) (e : ps = item ++ rest) (h : FitL (env i) item) (h2 : FitRow i rest) : FitRow i ps
inductive FitL : List Ty → List P → Prop
  | nil : FitL [] []
  | cons (t : Ty) (ts : List Ty) (p : P) (ps : List P) (h : Fit t p) (h2 : FitL ts ps) : FitL (t :: ts) (p :: ps)
end
theorem fitL_nil {ds : List D} (h : FitL [] (erases ds)) : ds = [] := by
  cases ds with
  | nil => rfl
  | cons d ds => rw [erases] at h; cases h
theorem fitL_cons {t : Ty} {ts : List Ty} {ds : List D} (h : FitL (t :: ts) (erases ds)) : ∃ d es, ds = d :: es ∧ Fit t (erase d) ∧ FitL ts (erases es) := by
  cases ds with
  | nil => rw [erases] at h; cases h
  | cons d ds =>
    rw [erases] at h
    cases h with
    | cons _ _ _ _ h1 h2 => exact ⟨d, ds, rfl, h1, h2⟩
theorem fit_int {d : D} (h : Fit .int (erase d)) : ∃ n, d = .int n := by
  cases d with
  | int n => exact ⟨n, rfl⟩
  | str s => rw [erase] at h; cases h
  | bool b => rw [erase] at h; cases h
  | row t k v ds => rw [erase] at h; cases h
theorem fit_str {d : D} (h : Fit .str (erase d)) : ∃ s, d = .str s := by
  cases d with
  | int n => rw [erase] at h; cases h
  | str s => exact ⟨s, rfl⟩
  | bool b => rw [erase] at h; cases h
  | row t k v ds => rw [erase] at h; cases h
theorem fit_bool {d : D} (h : Fit .bool (erase d)) : ∃ b, d = .bool b := by
  cases d with
  | int n => rw [erase] at h; cases h
  | str s => rw [erase] at h; cases h
  | bool b => exact ⟨b, rfl⟩
  | row t k v ds => rw [erase] at h; cases h
theorem fit_row {i : Nat} {d : D} (h : Fit (.row i) (erase d)) : ∃ t v ds, d = .row t (env i).length v ds ∧ FitRow i (erases ds) := by
  cases d with
  | int n => rw [erase] at h; cases h
  | str s => rw [erase] at h; cases h
  | bool b => rw [erase] at h; cases h
  | row t k v ds =>
    rw [erase] at h
    cases h with
    | row _ _ _ hk h => subst hk; exact ⟨t, v, ds, rfl, h⟩
theorem fitL_int {ts : List Ty} {ds : List D} (h : FitL (.int :: ts) (erases ds)) : ∃ n es, ds = .int n :: es ∧ FitL ts (erases es) := by
  obtain ⟨d, es, rfl, h1, h2⟩ := fitL_cons h
  obtain ⟨n, rfl⟩ := fit_int h1
  exact ⟨n, es, rfl, h2⟩
theorem fitL_str {ts : List Ty} {ds : List D} (h : FitL (.str :: ts) (erases ds)) : ∃ n es, ds = .str n :: es ∧ FitL ts (erases es) := by
  obtain ⟨d, es, rfl, h1, h2⟩ := fitL_cons h
  obtain ⟨n, rfl⟩ := fit_str h1
  exact ⟨n, es, rfl, h2⟩
theorem fitL_bool {ts : List Ty} {ds : List D} (h : FitL (.bool :: ts) (erases ds)) : ∃ n es, ds = .bool n :: es ∧ FitL ts (erases es) := by
  obtain ⟨d, es, rfl, h1, h2⟩ := fitL_cons h
  obtain ⟨n, rfl⟩ := fit_bool h1
  exact ⟨n, es, rfl, h2⟩
theorem fitL_row {i k : Nat} (hk : (env i).length = k) {ts : List Ty} {ds : List D} (h : FitL (.row i :: ts) (erases ds)) : ∃ t v fs es, ds = .row t k v fs :: es ∧ FitRow i (erases fs) ∧ FitL ts (erases es) := by
  subst hk
  obtain ⟨d, es, rfl, h1, h2⟩ := fitL_cons h
  obtain ⟨t, v, fs, rfl, h3⟩ := fit_row h1
  exact ⟨t, v, fs, es, rfl, h3, h2⟩
theorem fitL_len {ts : List Ty} {ps : List P} (h : FitL ts ps) : ps.length = ts.length := by
  induction ts generalizing ps with
  | nil => cases h; rfl
  | cons t ts ih =>
    cases h with
    | cons _ _ _ _ h1 h2 => simp [ih h2]
theorem fitRow_cases' {i : Nat} {ps : List P} (h : FitRow i ps) : ps = [] ∨ ∃ item rest, ps = item ++ rest ∧ FitL (env i) item ∧ FitRow i rest := by
  cases h with
  | nil => exact .inl rfl
  | cons _ _ item rest e h1 h2 => exact .inr ⟨item, rest, e, h1, h2⟩
theorem fitRow_cases {i : Nat} {ds : List D} (h : FitRow i (erases ds)) : ds = [] ∨ ∃ item rest, ds = item ++ rest ∧ FitL (env i) (erases item) ∧ FitRow i (erases rest) := by
  rcases fitRow_cases' h with e | ⟨item, rest, e, h1, h2⟩
  · left
    have := congrArg List.length e
    rw [erases_len] at this
    exact List.eq_nil_of_length_eq_zero this
  · obtain ⟨x, y, rfl, rfl, rfl⟩ := erases_split e
    exact .inr ⟨x, y, rfl, h1, h2⟩
theorem fitRow_len {i : Nat} : ∀ (n : Nat) (ps : List P), ps.length ≤ n → 0 < (env i).length → FitRow i ps → ∃ m, ps.length = m * (env i).length := by
  intro n
  induction n with
  | zero => intro ps hl _ _; exact ⟨0, by omega⟩
  | succ n ih =>
    intro ps hl hp h
    rcases fitRow_cases' h with e | ⟨item, rest, e, h1, h2⟩
    · exact ⟨0, by rw [e]; simp⟩
    · have h3 := fitL_len h1
      have h4 : ps.length = item.length + rest.length := by rw [e, List.length_append]
      obtain ⟨m, hm⟩ := ih rest (by omega) hp h2
      exact ⟨m + 1, by rw [h4, h3, hm, Nat.succ_mul, Nat.add_comm]⟩
theorem fitRow_append {i : Nat} {b : List P} (hp : 0 < (env i).length) (hb : FitRow i b) : ∀ (n : Nat) (a : List P), a.length ≤ n → FitRow i a → FitRow i (a ++ b) := by
  intro n
  induction n with
  | zero =>
    intro a hl _
    rw [List.eq_nil_of_length_eq_zero (Nat.le_zero.1 hl)]
    exact hb
  | succ n ih =>
    intro a hl h
    rcases fitRow_cases' h with e | ⟨item, rest, e, h1, h2⟩
    · rw [e]; exact hb
    · have h3 := fitL_len h1
      have h4 : a.length = item.length + rest.length := by rw [e, List.length_append]
      have h5 := ih rest (by omega) h2
      exact FitRow.cons i _ item (rest ++ b) (by rw [e, List.append_assoc]) h1 h5
theorem fitRow_snoc {i : Nat} {a item : List P} (hp : 0 < (env i).length) (ha : FitRow i a) (h : FitL (env i) item) : FitRow i (a ++ item) :=
  fitRow_append hp (FitRow.cons i _ item [] (by simp) h (FitRow.nil i)) _ a (Nat.le_refl _) ha
theorem fitL_append {a b : List Ty} {ds : List D} (h : FitL (a ++ b) (erases ds)) : ∃ x y, ds = x ++ y ∧ FitL a (erases x) ∧ FitL b (erases y) := by
  induction a generalizing ds with
  | nil => exact ⟨[], ds, rfl, by rw [erases]; exact FitL.nil, h⟩
  | cons t a ih =>
    obtain ⟨d, es, rfl, h1, h2⟩ := fitL_cons (ts := a ++ b) h
    obtain ⟨x, y, rfl, h3, h4⟩ := ih h2
    exact ⟨d :: x, y, rfl, by rw [erases]; exact FitL.cons _ _ _ _ h1 h3, h4⟩
def Cells (B : Nat) (ds : List D) (wr : World) : Prop := B < wr.heap.size ∧ ∀ j (h : j < ds.length), wr.cell? ⟨B, j, none⟩ = some (val ds[j])
theorem Cells.step {B : Nat} {ds : List D} {wr w' : World} (h : Cells B ds wr) (hb : Below wr.heap.size wr w') : Cells B ds w' :=
  ⟨Nat.lt_of_lt_of_le h.1 hb.size, fun j hj => cell_keep hb (h.2 j hj)⟩
theorem Cells.at {B : Nat} {ds : List D} {wr : World} (h : Cells B ds wr) (j : Nat) (d : D) (hd : ds[j]? = some d) : wr.cell? ⟨B, j, none⟩ = some (val d) := by
  obtain ⟨hj, rfl⟩ := List.getElem?_eq_some_iff.1 hd
  exact h.2 j hj
theorem cells_new (w : World) (ds : List D) (T : TypeId) : Cells w.heap.size ds (w.alloc (Obj.cells (vals ds).toArray T)) := by
  refine ⟨by simp, fun j hj => ?_⟩
  have : (vals ds)[j]? = some (val ds[j]) := vals_get ds j hj
  simp [this]
theorem row_at {w : World} {b o m : Nat} {ds A R : List D} (hc : ∀ j (h : j < ds.length), w.cell? ⟨b, o + j, none⟩ = some (val ds[j])) (e : ds = A ++ R) (hl : A.length = m) (q : Nat) (d : D) (hq : R[q]? = some d) : w.cell? ⟨b, o + m + q, none⟩ = some (val d) := by
  subst e
  subst hl
  obtain ⟨hj, rfl⟩ := List.getElem?_eq_some_iff.1 hq
  have h1 := hc (A.length + q) (by simp; omega)
  rw [Nat.add_assoc, h1, List.getElem_append_right (by omega)]
  simp
theorem row_at0 {w : World} {b o m : Nat} {ds A R : List D} (hc : ∀ j (h : j < ds.length), w.cell? ⟨b, o + j, none⟩ = some (val ds[j])) (e : ds = A ++ R) (hl : A.length = m) (d : D) (hq : R[0]? = some d) : w.cell? ⟨b, o + m, none⟩ = some (val d) :=
  row_at hc e hl 0 d hq
end Go.Proofs.YtkmclgofghaeoaaGreat.Data

namespace Go.Proofs.YtkmclgofghaeoaaGreat.Data
open Go.RowKit
open Strs
mutual
def mass : P → Nat
  | .int _ => 1
  | .str _ => 1
  | .bool _ => 1
  | .row _ ps => 1 + masses ps
def masses : List P → Nat
  | [] => 0
  | p :: ps => mass p + masses ps
end
theorem masses_append (a b : List P) : masses (a ++ b) = masses a + masses b := by
  induction a with
  | nil => simp [masses]
  | cons e es ih => simp [masses, ih]; omega
def puts (w : World) (g p : Nat) : List Value → World
  | [] => w
  | v :: vs => puts (w.setCell ⟨g, p, none⟩ v) g (p + 1) vs
def sets (xs : List Value) (p : Nat) : List Value → List Value
  | [] => xs
  | v :: vs => sets (xs.set p v) (p + 1) vs
theorem sets_len (vs : List Value) : ∀ (xs : List Value) (p : Nat), (sets xs p vs).length = xs.length := by
  induction vs with
  | nil => intro xs p; rfl
  | cons v vs ih => intro xs p; rw [sets, ih, List.length_set]
theorem sets_low (vs : List Value) : ∀ (xs : List Value) (p q : Nat), q < p → (sets xs p vs)[q]? = xs[q]? := by
  induction vs with
  | nil => intro xs p q _; rfl
  | cons v vs ih => intro xs p q h; rw [sets, ih _ _ _ (by omega), List.getElem?_set_ne (by omega)]
theorem sets_at (vs : List Value) : ∀ (xs : List Value) (p j : Nat), p + vs.length ≤ xs.length → j < vs.length → (sets xs p vs)[p + j]? = vs[j]? := by
  induction vs with
  | nil => intro xs p j _ h; simp at h
  | cons v vs ih =>
    intro xs p j h hj
    rw [sets]
    cases j with
    | zero => rw [sets_low _ _ _ _ (by omega), Nat.add_zero, List.getElem?_set_self (by simp at h; omega)]; rfl
    | succ j =>
      rw [show p + (j + 1) = p + 1 + j by omega, ih _ _ _ (by simp at h ⊢; omega) (by simpa using hj)]
      rfl
theorem puts_own {base : Nat} {t k g n c : Nat} (vs : List Value) : ∀ (w : World) (xs : List Value) (p : Nat), w.ownsRow base t k (.slice (some ⟨g, 0, none⟩) n c) n xs → (puts w g p vs).ownsRow base t k (.slice (some ⟨g, 0, none⟩) n c) n (sets xs p vs) := by
  induction vs with
  | nil => intro w xs p h; exact h
  | cons v vs ih => intro w xs p h; exact ih _ _ _ (h.stored p v).1
theorem puts_size {g : Nat} (vs : List Value) : ∀ (w : World) (p : Nat), (puts w g p vs).heap.size = w.heap.size := by
  induction vs with
  | nil => intro w p; rfl
  | cons v vs ih => intro w p; rw [puts, ih]; simp
theorem puts_below {base g : Nat} (hg : base ≤ g) (vs : List Value) : ∀ (w w1 : World) (p : Nat), Below base w w1 → Below base w (puts w1 g p vs) := by
  induction vs with
  | nil => intro w w1 p h; exact h
  | cons v vs ih => intro w w1 p h; exact ih _ _ _ (h.setCell hg _)
theorem Own.setLow {base : Nat} {w : World} {ds : List D} (h : Own base w ds) {g : Nat} (hg : g < base) (o : Nat) (v : Value) : Own base (w.setCell ⟨g, o, none⟩ v) ds :=
  h.frame fun b hb => Below.heap_setCell _ _ _ _ (fun e => by have := h.lo b hb; have : b = g := e; omega)
theorem Own.putLow {base : Nat} {ds : List D} {g : Nat} (hg : g < base) (vs : List Value) : ∀ (w : World) (p : Nat), Own base w ds → Own base (puts w g p vs) ds := by
  induction vs with
  | nil => intro w p h; exact h
  | cons v vs ih => intro w p h; exact ih _ _ (h.setLow hg _ _)
def SomeD (w : World) (t k n : Nat) (ds : List D) (i : Nat) (wr : World) : Prop :=
  w.heap.size < wr.heap.size ∧ Below w.heap.size w wr ∧ ∃ (xs : List Value) (es : List D), xs.length = n * k ∧ wr.ownsRow w.heap.size t k (.slice (some ⟨w.heap.size, 0, none⟩) n n) n xs ∧
    es.length = i * k ∧ (∀ j (h : j < es.length), xs[j]? = some (val es[j])) ∧ erases es = (erases ds).take (i * k) ∧ Own (w.heap.size + 1) wr es
theorem someD_step {w wr w2 : World} {t k n i : Nat} {ds A item rest es : List D} (h : SomeD w t k n ds i wr) (hb : Below wr.heap.size wr w2) (ho : Own wr.heap.size w2 es) (he : erases es = erases item) (hd : ds = A ++ (item ++ rest)) (hal : A.length = i * k) (hil : item.length = k) (hlt : i < n) :
    SomeD w t k n ds (i + 1) (puts w2 w.heap.size (i * k) (vals es)) := by
  obtain ⟨hg, hbw, xs, fs, hxl, how, hfl, hfx, hfe, hfo⟩ := h
  have hel : es.length = k := by
    have := congrArg List.length he
    rw [erases_len, erases_len] at this
    omega
  have hik : (i + 1) * k ≤ n * k := Nat.mul_le_mul_right k (by omega)
  rw [Nat.succ_mul] at hik
  refine ⟨by rw [puts_size]; have := hb.size; omega, puts_below (Nat.le_refl _) _ _ _ _ (hbw.trans (hb.mono (by omega))), sets xs (i * k) (vals es), fs ++ es, by rw [sets_len, hxl], puts_own _ _ _ _ (own_keep how hb), by rw [List.length_append, hfl, hel, Nat.succ_mul], fun j hj => ?_, ?_, Own.putLow (Nat.lt_succ_self _) _ _ _ (hfo.snoc hb ho (by omega))⟩
  · rw [List.length_append, hfl, hel] at hj
    by_cases hji : j < i * k
    · rw [sets_low _ _ _ _ hji, hfx j (by omega), List.getElem_append_left (by omega)]
    · have hjj : j = i * k + (j - i * k) := by omega
      have h1 := sets_at (vals es) xs (i * k) (j - i * k) (by rw [vals_len, hel, hxl]; exact hik) (by rw [vals_len]; omega)
      rw [← hjj] at h1
      rw [h1, vals_get es _ (by omega), List.getElem_append_right (by omega)]
      congr 2
      simp only [hfl]
  · rw [erases_append, hfe, he, hd, erases_append, erases_append, Nat.succ_mul]
    have hA : (erases A).length = i * k := by rw [erases_len, hal]
    have hI : (erases item).length = k := by rw [erases_len, hil]
    rw [← hA, ← hI, List.take_append_of_le_length (Nat.le_refl _), List.take_length, List.take_length_add_append, List.take_append_of_le_length (Nat.le_refl _), List.take_length]
theorem someD_all {w wr : World} {t k n : Nat} {ds : List D} (hk : 0 < k) (hn : ds.length = n * k) (h : SomeD w t k n ds n wr) : ∃ es, erases es = erases ds ∧ Row w.heap.size wr t k (.slice (some ⟨w.heap.size, 0, none⟩) n n) es := by
  obtain ⟨hg, hbw, xs, es, hxl, how, hfl, hfx, hfe, hfo⟩ := h
  refine ⟨es, by rw [hfe, ← hn, ← erases_len, List.take_length], ⟨n, hk, hfl, ?_⟩, hfo.mono (by omega), fun b hb hc => ?_⟩
  · have : xs = vals es := by
      apply List.ext_getElem?
      intro j
      by_cases hj : j < es.length
      · rw [hfx j hj, vals_get es j hj]
      · rw [List.getElem?_eq_none (by omega), List.getElem?_eq_none (by rw [vals_len]; omega)]
    rw [this] at how
    exact how
  · have h1 := hfo.lo b hc
    simp [blk, Value.ownBlock] at hb
    omega
theorem someD_start {w w1 : World} {t k n : Nat} {ds : List D} {xs : List Value} (hown : w1.ownsRow w.heap.size t k (.slice (some ⟨w.heap.size, 0, none⟩) n n) n xs) (hb : Below w.heap.size w w1) : SomeD w t k n ds 0 w1 :=
  ⟨(hown.lt _ rfl).2, hb, xs, [], hown.1, hown, by simp, fun j h => by simp at h, by simp [erases], Own.nil _ _⟩
theorem SomeD.cell {w wr w2 : World} {t k n i : Nat} {ds : List D} (h : SomeD w t k n ds i wr) (hb : Below wr.heap.size wr w2) (hlt : i < n) (r : Nat) (hr : r < k) : ∃ v, w2.cell? ⟨w.heap.size, i * k + r, none⟩ = some v := by
  obtain ⟨hg, hbw, xs, fs, hxl, how, hfl, hfx, hfe, hfo⟩ := h
  have hik : (i + 1) * k ≤ n * k := Nat.mul_le_mul_right k (by omega)
  rw [Nat.succ_mul] at hik
  rw [(own_keep how hb).cellAt _ (by omega)]
  exact ⟨_, List.getElem?_eq_getElem (by omega)⟩
theorem SomeD.free {w wr w2 : World} {t k n i : Nat} {ds : List D} (h : SomeD w t k n ds i wr) (hb : Below wr.heap.size wr w2) (o : Nat) : w2.frozen? ⟨w.heap.size, o, none⟩ = false := by
  obtain ⟨hg, hbw, xs, fs, hxl, how, hfl, hfx, hfe, hfo⟩ := h
  exact (own_keep how hb).frozenAt o
structure Box (w : World) (ds zs os : List D) (wr : World) : Prop where
  below : Below w.heap.size w wr
  size : w.heap.size + 3 ≤ wr.heap.size
  a : Cells w.heap.size ds wr
  b : Cells (w.heap.size + 1) zs wr
  c : Cells (w.heap.size + 1 + 1) os wr
  fb : ∀ o, wr.frozen? ⟨w.heap.size + 1, o, none⟩ = false
  fc : ∀ o, wr.frozen? ⟨w.heap.size + 1 + 1, o, none⟩ = false
theorem Box.step {w wr w' : World} {ds zs os : List D} (h : Box w ds zs os wr) (hb : Below wr.heap.size wr w') : Box w ds zs os w' :=
  ⟨h.below.trans (hb.mono (by have := h.size; omega)), Nat.le_trans h.size hb.size, h.a.step hb, h.b.step hb, h.c.step hb,
    fun o => (hb.frozen (p := ⟨_, o, none⟩) (by have := h.size; simp; omega)).trans (h.fb o), fun o => (hb.frozen (p := ⟨_, o, none⟩) (by have := h.size; simp; omega)).trans (h.fc o)⟩
theorem cells_other {B g o : Nat} {ds : List D} {wr : World} (h : Cells B ds wr) (v : Value) (hg : B ≠ g) : Cells B ds (wr.setCell ⟨g, o, none⟩ v) :=
  ⟨by simpa using h.1, fun j hj => (World.cell?_setCell_other _ _ _ _ (by intro e; injection e with e1; exact hg e1.symm)).trans (h.2 j hj)⟩
theorem Cells.set {B : Nat} {ds : List D} {wr : World} (h : Cells B ds wr) (j : Nat) (d : D) (hj : j < ds.length) (hf : wr.frozen? ⟨B, j, none⟩ = false) : Cells B (ds.set j d) (wr.setCell ⟨B, j, none⟩ (val d)) := by
  refine ⟨by simpa using h.1, fun q hq => ?_⟩
  have hq' : q < ds.length := by simpa using hq
  by_cases e : q = j
  · subst e
    have := h.2 q hq'
    rw [List.getElem_set_self]
    go_simp
  · rw [List.getElem_set_ne (by omega)]
    exact (World.cell?_setCell_other _ _ _ _ (by intro e2; injection e2 with _ e3; omega)).trans (h.2 q hq')
theorem Box.set {w wr : World} {ds zs os : List D} (h : Box w ds zs os wr) (j : Nat) (d : D) (hj : j < os.length) : Box w ds zs (os.set j d) (wr.setCell ⟨w.heap.size + 1 + 1, j, none⟩ (val d)) :=
  ⟨h.below.setCell (by show w.heap.size ≤ w.heap.size + 1 + 1; omega) _, by simpa using h.size, cells_other h.a _ (by omega), cells_other h.b _ (by omega), h.c.set j d hj (h.fc j),
    fun o => by have := h.fb o; go_simp, fun o => by have := h.fc o; go_simp⟩
theorem box_new (w : World) (ds zs os : List D) (t1 t2 t3 : TypeId) : Box w ds zs os (((w.alloc (Obj.cells (vals ds).toArray t1)).alloc (Obj.cells (vals zs).toArray t2)).alloc (Obj.cells (vals os).toArray t3)) := by
  have h1 := (Below.refl w.heap.size w).alloc (Nat.le_refl _) (Obj.cells (vals ds).toArray t1)
  have h2 := (Below.refl (w.alloc (Obj.cells (vals ds).toArray t1)).heap.size (w.alloc (Obj.cells (vals ds).toArray t1))).alloc (Nat.le_refl _) (Obj.cells (vals zs).toArray t2)
  have h3 := (Below.refl ((w.alloc (Obj.cells (vals ds).toArray t1)).alloc (Obj.cells (vals zs).toArray t2)).heap.size ((w.alloc (Obj.cells (vals ds).toArray t1)).alloc (Obj.cells (vals zs).toArray t2))).alloc (Nat.le_refl _) (Obj.cells (vals os).toArray t3)
  have c1 := cells_new w ds t1
  have c2 := cells_new (w.alloc (Obj.cells (vals ds).toArray t1)) zs t2
  have c3 := cells_new ((w.alloc (Obj.cells (vals ds).toArray t1)).alloc (Obj.cells (vals zs).toArray t2)) os t3
  have e1 : (w.alloc (Obj.cells (vals ds).toArray t1)).heap.size = w.heap.size + 1 := by simp
  have e2 : ((w.alloc (Obj.cells (vals ds).toArray t1)).alloc (Obj.cells (vals zs).toArray t2)).heap.size = w.heap.size + 1 + 1 := by simp
  have c2' := c2.step h3
  have c1' := (c1.step h2).step h3
  rw [e1] at c2'
  rw [e2] at c3
  refine ⟨(((Below.refl _ _).alloc (Nat.le_refl _) _).alloc (by simp) _).alloc (by simp; omega) _, by simp, c1', c2', c3, ?_, ?_⟩
  all_goals (intro o; go_simp)
theorem row_slice {w : World} {t k : Nat} {v : Value} {ds : List D} (h : Good w (.row t k v ds)) : ∃ a n c, v = .slice a n c := by
  rw [Good] at h
  obtain ⟨⟨n, -, -, ho⟩, -⟩ := h
  obtain ⟨_, ⟨rfl, hn⟩ | ⟨g, cap, cur, rfl, _⟩⟩ := ho
  · exact ⟨none, 0, 0, rfl⟩
  · exact ⟨_, _, _, rfl⟩
end Go.Proofs.YtkmclgofghaeoaaGreat.Data
