/-
  The program's types of data, each by its cells in order, and which data are of a type.
-/
import Derived.Test.YtkmclgofghaeoaaBData
namespace Go.Proofs.Ytkmclgofghaeoaa.Data
open Go.RowKit
open Strs
inductive Ty where
  | int
  | str
  | bool
  | row (i : Nat)
def tMethod : List Ty := [.str, .bool, .row 0, .row 0, .row 2]
def tCore : List Ty := [.int, .str, .int, .int, .row 7]
def tRoutine : List Ty := [.str, .int, .bool, .int, .int] ++ tCore
def tValue : List Ty := [.int, .int, .str]
def env : Nat → List Ty
  | 0 => [.str]
  | 1 => [.int]
  | 2 => [.int, .str, .int, .row 0, .row 2]
  | 3 => tMethod
  | 4 => [.str, .str, .row 0, .row 3]
  | 5 => .row 4 :: tMethod
  | 6 => [.str, .int, .row 0]
  | 7 => tCore
  | 8 => tRoutine
  | 9 => [.row 6, .row 8] ++ tRoutine
  | 10 => tValue
  | 11 => [.int, .int, .row 10, .row 1]
  | 12 => [.row 6, .row 11, .row 0, .int, .int, .int]
  | 13 => [.int, .str, .str, .row 0, .int]
  | 14 => [.int, .int, .int, .str]
  | 15 => [.bool, .int, .int, .row 14]
  | 16 => [.int, .bool, .str, .int]
  | 17 => [.row 6, .row 15, .row 16, .int]
  | 18 => [.int, .str, .int]
  | _ => []
mutual
inductive Fit : Ty → P → Prop
  | int (n : Int) : Fit .int (.int n)
  | str (s : ByteArray) : Fit .str (.str s)
  | bool (b : Bool) : Fit .bool (.bool b)
  | row (i k : Nat) (ps : List P) (hk : k = (env i).length) (h : FitRow i ps) : Fit (.row i) (.row k ps)
inductive FitRow : Nat → List P → Prop
  | nil (i : Nat) : FitRow i []
  | cons (i : Nat) (ps item rest : List P) (e : ps = item ++ rest) (h : FitL (env i) item) (h2 : FitRow i rest) : FitRow i ps
inductive FitL : List Ty → List P → Prop
  | nil : FitL [] []
  | cons (t : Ty) (ts : List Ty) (p : P) (ps : List P) (h : Fit t p) (h2 : FitL ts ps) : FitL (t :: ts) (p :: ps)
end
theorem fitL_nil {ds : List D} (h : FitL [] (erases ds)) : ds = [] := by
  cases ds with
  | nil => rfl
  | cons d ds => rw [erases] at h; cases h
theorem fitL_cons {t : Ty} {ts : List Ty} {ds : List D} (h : FitL (t :: ts) (erases ds)) : ∃ d es, ds = d :: es ∧ Fit t (erase d) ∧ FitL ts (erases es) := by
  cases ds with
  | nil => rw [erases] at h; cases h
  | cons d ds =>
    rw [erases] at h
    cases h with
    | cons _ _ _ _ h1 h2 => exact ⟨d, ds, rfl, h1, h2⟩
theorem fit_int {d : D} (h : Fit .int (erase d)) : ∃ n, d = .int n := by
  cases d with
  | int n => exact ⟨n, rfl⟩
  | str s => rw [erase] at h; cases h
  | bool b => rw [erase] at h; cases h
  | row t k v ds => rw [erase] at h; cases h
theorem fit_str {d : D} (h : Fit .str (erase d)) : ∃ s, d = .str s := by
  cases d with
  | int n => rw [erase] at h; cases h
  | str s => exact ⟨s, rfl⟩
  | bool b => rw [erase] at h; cases h
  | row t k v ds => rw [erase] at h; cases h
theorem fit_bool {d : D} (h : Fit .bool (erase d)) : ∃ b, d = .bool b := by
  cases d with
  | int n => rw [erase] at h; cases h
  | str s => rw [erase] at h; cases h
  | bool b => exact ⟨b, rfl⟩
  | row t k v ds => rw [erase] at h; cases h
theorem fit_row {i : Nat} {d : D} (h : Fit (.row i) (erase d)) : ∃ t v ds, d = .row t (env i).length v ds ∧ FitRow i (erases ds) := by
  cases d with
  | int n => rw [erase] at h; cases h
  | str s => rw [erase] at h; cases h
  | bool b => rw [erase] at h; cases h
  | row t k v ds =>
    rw [erase] at h
    cases h with
    | row _ _ _ hk h => subst hk; exact ⟨t, v, ds, rfl, h⟩
theorem fitL_int {ts : List Ty} {ds : List D} (h : FitL (.int :: ts) (erases ds)) : ∃ n es, ds = .int n :: es ∧ FitL ts (erases es) := by
  obtain ⟨d, es, rfl, h1, h2⟩ := fitL_cons h
  obtain ⟨n, rfl⟩ := fit_int h1
  exact ⟨n, es, rfl, h2⟩
theorem fitL_str {ts : List Ty} {ds : List D} (h : FitL (.str :: ts) (erases ds)) : ∃ n es, ds = .str n :: es ∧ FitL ts (erases es) := by
  obtain ⟨d, es, rfl, h1, h2⟩ := fitL_cons h
  obtain ⟨n, rfl⟩ := fit_str h1
  exact ⟨n, es, rfl, h2⟩
theorem fitL_bool {ts : List Ty} {ds : List D} (h : FitL (.bool :: ts) (erases ds)) : ∃ n es, ds = .bool n :: es ∧ FitL ts (erases es) := by
  obtain ⟨d, es, rfl, h1, h2⟩ := fitL_cons h
  obtain ⟨n, rfl⟩ := fit_bool h1
  exact ⟨n, es, rfl, h2⟩
theorem fitL_row {i k : Nat} (hk : (env i).length = k) {ts : List Ty} {ds : List D} (h : FitL (.row i :: ts) (erases ds)) : ∃ t v fs es, ds = .row t k v fs :: es ∧ FitRow i (erases fs) ∧ FitL ts (erases es) := by
  subst hk
  obtain ⟨d, es, rfl, h1, h2⟩ := fitL_cons h
  obtain ⟨t, v, fs, rfl, h3⟩ := fit_row h1
  exact ⟨t, v, fs, es, rfl, h3, h2⟩
theorem fitL_len {ts : List Ty} {ps : List P} (h : FitL ts ps) : ps.length = ts.length := by
  induction ts generalizing ps with
  | nil => cases h; rfl
  | cons t ts ih =>
    cases h with
    | cons _ _ _ _ h1 h2 => simp [ih h2]
theorem fitRow_cases' {i : Nat} {ps : List P} (h : FitRow i ps) : ps = [] ∨ ∃ item rest, ps = item ++ rest ∧ FitL (env i) item ∧ FitRow i rest := by
  cases h with
  | nil => exact .inl rfl
  | cons _ _ item rest e h1 h2 => exact .inr ⟨item, rest, e, h1, h2⟩
theorem fitRow_cases {i : Nat} {ds : List D} (h : FitRow i (erases ds)) : ds = [] ∨ ∃ item rest, ds = item ++ rest ∧ FitL (env i) (erases item) ∧ FitRow i (erases rest) := by
  rcases fitRow_cases' h with e | ⟨item, rest, e, h1, h2⟩
  · left
    have := congrArg List.length e
    rw [erases_len] at this
    exact List.eq_nil_of_length_eq_zero this
  · obtain ⟨x, y, rfl, rfl, rfl⟩ := erases_split e
    exact .inr ⟨x, y, rfl, h1, h2⟩
theorem fitRow_len {i : Nat} : ∀ (n : Nat) (ps : List P), ps.length ≤ n → 0 < (env i).length → FitRow i ps → ∃ m, ps.length = m * (env i).length := by
  intro n
  induction n with
  | zero => intro ps hl _ _; exact ⟨0, by omega⟩
  | succ n ih =>
    intro ps hl hp h
    rcases fitRow_cases' h with e | ⟨item, rest, e, h1, h2⟩
    · exact ⟨0, by rw [e]; simp⟩
    · have h3 := fitL_len h1
      have h4 : ps.length = item.length + rest.length := by rw [e, List.length_append]
      obtain ⟨m, hm⟩ := ih rest (by omega) hp h2
      exact ⟨m + 1, by rw [h4, h3, hm, Nat.succ_mul, Nat.add_comm]⟩
theorem fitRow_append {i : Nat} {b : List P} (hp : 0 < (env i).length) (hb : FitRow i b) : ∀ (n : Nat) (a : List P), a.length ≤ n → FitRow i a → FitRow i (a ++ b) := by
  intro n
  induction n with
  | zero =>
    intro a hl _
    rw [List.eq_nil_of_length_eq_zero (Nat.le_zero.1 hl)]
    exact hb
  | succ n ih =>
    intro a hl h
    rcases fitRow_cases' h with e | ⟨item, rest, e, h1, h2⟩
    · rw [e]; exact hb
    · have h3 := fitL_len h1
      have h4 : a.length = item.length + rest.length := by rw [e, List.length_append]
      have h5 := ih rest (by omega) h2
      exact FitRow.cons i _ item (rest ++ b) (by rw [e, List.append_assoc]) h1 h5
theorem fitRow_snoc {i : Nat} {a item : List P} (hp : 0 < (env i).length) (ha : FitRow i a) (h : FitL (env i) item) : FitRow i (a ++ item) :=
  fitRow_append hp (FitRow.cons i _ item [] (by simp) h (FitRow.nil i)) _ a (Nat.le_refl _) ha
theorem fitL_append {a b : List Ty} {ds : List D} (h : FitL (a ++ b) (erases ds)) : ∃ x y, ds = x ++ y ∧ FitL a (erases x) ∧ FitL b (erases y) := by
  induction a generalizing ds with
  | nil => exact ⟨[], ds, rfl, by rw [erases]; exact FitL.nil, h⟩
  | cons t a ih =>
    obtain ⟨d, es, rfl, h1, h2⟩ := fitL_cons (ts := a ++ b) h
    obtain ⟨x, y, rfl, h3, h4⟩ := ih h2
    exact ⟨d :: x, y, rfl, by rw [erases]; exact FitL.cons _ _ _ _ h1 h3, h4⟩
def Cells (B : Nat) (ds : List D) (wr : World) : Prop := B < wr.heap.size ∧ ∀ j (h : j < ds.length), wr.cell? ⟨B, j, none⟩ = some (val ds[j])
theorem Cells.step {B : Nat} {ds : List D} {wr w' : World} (h : Cells B ds wr) (hb : Below wr.heap.size wr w') : Cells B ds w' :=
  ⟨Nat.lt_of_lt_of_le h.1 hb.size, fun j hj => cell_keep hb (h.2 j hj)⟩
theorem Cells.at {B : Nat} {ds : List D} {wr : World} (h : Cells B ds wr) (j : Nat) (d : D) (hd : ds[j]? = some d) : wr.cell? ⟨B, j, none⟩ = some (val d) := by
  obtain ⟨hj, rfl⟩ := List.getElem?_eq_some_iff.1 hd
  exact h.2 j hj
theorem cells_new (w : World) (ds : List D) (T : TypeId) : Cells w.heap.size ds (w.alloc (Obj.cells (vals ds).toArray T)) := by
  refine ⟨by simp, fun j hj => ?_⟩
  have : (vals ds)[j]? = some (val ds[j]) := vals_get ds j hj
  simp [this]
theorem row_at {w : World} {b o m : Nat} {ds A R : List D} (hc : ∀ j (h : j < ds.length), w.cell? ⟨b, o + j, none⟩ = some (val ds[j])) (e : ds = A ++ R) (hl : A.length = m) (q : Nat) (d : D) (hq : R[q]? = some d) : w.cell? ⟨b, o + m + q, none⟩ = some (val d) := by
  subst e
  subst hl
  obtain ⟨hj, rfl⟩ := List.getElem?_eq_some_iff.1 hq
  have h1 := hc (A.length + q) (by simp; omega)
  rw [Nat.add_assoc, h1, List.getElem_append_right (by omega)]
  simp
theorem row_at0 {w : World} {b o m : Nat} {ds A R : List D} (hc : ∀ j (h : j < ds.length), w.cell? ⟨b, o + j, none⟩ = some (val ds[j])) (e : ds = A ++ R) (hl : A.length = m) (d : D) (hq : R[0]? = some d) : w.cell? ⟨b, o + m, none⟩ = some (val d) :=
  row_at hc e hl 0 d hq
end Go.Proofs.Ytkmclgofghaeoaa.Data
