/-
  The program's types of data, each by its cells in order, and which data are of a type.
  Rows of texts as data: laws.szStringS, toStringS and eqStringS over them.
-/
import Derived.Test.YtekeondbbikkpaaGreatBData
import Derived.Test.YtekeondbbikkpaaGreatBTexts
namespace Go.Proofs.YtekeondbbikkpaaGreat.Data
open Go.RowKit
open Strs
inductive Ty where
  | int
  | str
  | bool
  | row (i : Nat)
def tMethod : List Ty := [.str, .bool, .row 0, .row 0, .row 2]
def tCore : List Ty := [.int, .str, .int, .int, .row 7]
def tRoutine : List Ty := [.str, .int, .bool, .int, .int] ++ tCore
def tValue : List Ty := [.int, .int, .str]
def env : Nat → List Ty
  | 0 => [.str]
  | 1 => [.int]
  | 2 => [.int, .str, .int, .row 0, .row 2]
  | 3 => tMethod
  | 4 => [.str, .str, .row 0, .row 3]
  | 5 => .row 4 :: tMethod
  | 6 => [.str, .int, .row 0]
  | 7 => tCore
  | 8 => tRoutine
  | 9 => [.row 6, .row 8] ++ tRoutine
  | 10 => tValue
  | 11 => [.int, .int, .row 10, .row 1]
  | 12 => [.row 6, .row 11, .row 0, .int, .int, .int]
  | 13 => [.int, .str, .str, .row 0, .int]
  | 14 => [.int, .int, .int, .str]
  | 15 => [.bool, .int, .int, .row 14]
  | 16 => [.int, .bool, .str, .int]
  | 17 => [.row 6, .row 15, .row 16, .int]
  | 18 => [.int, .str, .int]
  | _ => []
mutual
inductive Fit : Ty → P → Prop
  | int (n : Int) : Fit .int (.int n)
  | str (s : ByteArray) : Fit .str (.str s)
  | bool (b : Bool) : Fit .bool (.bool b)
  | row (i k : Nat) (ps : List P) (hk : k = (env i).length) (h : FitRow i ps) : Fit (.row i) (.row k ps)
inductive FitRow : Nat → List P → Prop
  | nil (i : Nat) : FitRow i []
  | cons (i : Nat) (ps item rest : List P) (e : ps = item ++ rest) (h : FitL (env i) item) (h2 : FitRow i rest) : FitRow i ps
inductive FitL : List Ty → List P → Prop
  | nil : FitL [] []
  | cons (t : Ty) (ts : List Ty) (p : P) (ps : List P) (h : Fit t p) (h2 : FitL ts ps) : FitL (t :: ts) (p :: ps)
end
theorem fitL_nil {ds : List D} (h : FitL [] (erases ds)) : ds = [] := by
  cases ds with
  | nil => rfl
  | cons d ds => rw [erases] at h; cases h
theorem fitL_cons {t : Ty} {ts : List Ty} {ds : List D} (h : FitL (t :: ts) (erases ds)) : ∃ d es, ds = d :: es ∧ Fit t (erase d) ∧ FitL ts (erases es) := by
  cases ds with
  | nil => rw [erases] at h; cases h
  | cons d ds =>
    rw [erases] at h
    cases h with
    | cons _ _ _ _ h1 h2 => exact ⟨d, ds, rfl, h1, h2⟩
theorem fit_int {d : D} (h : Fit .int (erase d)) : ∃ n, d = .int n := by
  cases d with
  | int n => exact ⟨n, rfl⟩
  | str s => rw [erase] at h; cases h
  | bool b => rw [erase] at h; cases h
  | row t k v ds => rw [erase] at h; cases h
theorem fit_str {d : D} (h : Fit .str (erase d)) : ∃ s, d = .str s := by
  cases d with
  | int n => rw [erase] at h; cases h
  | str s => exact ⟨s, rfl⟩
  | bool b => rw [erase] at h; cases h
  | row t k v ds => rw [erase] at h; cases h
theorem fit_bool {d : D} (h : Fit .bool (erase d)) : ∃ b, d = .bool b := by
  cases d with
  | int n => rw [erase] at h; cases h
  | str s => rw [erase] at h; cases h
  | bool b => exact ⟨b, rfl⟩
  | row t k v ds => rw [erase] at h; cases h
theorem fit_row {i : Nat} {d : D} (h : Fit (.row i) (erase d)) : ∃ t v ds, d = .row t (env i).length v ds ∧ FitRow i (erases ds) := by
  cases d with
  | int n => rw [erase] at h; cases h
  | str s => rw [erase] at h; cases h
  | bool b => rw [erase] at h; cases h
  | row t k v ds =>
    rw [erase] at h
    cases h with
    | row _ _ _ hk h => subst hk; exact ⟨t, v, ds, rfl, h⟩
theorem fitL_int {ts : List Ty} {ds : List D} (h : FitL (.int :: ts) (erases ds)) : ∃ n es, ds = .int n :: es ∧ FitL ts (erases es) := by
  obtain ⟨d, es, rfl, h1, h2⟩ := fitL_cons h
  obtain ⟨n, rfl⟩ := fit_int h1
  exact ⟨n, es, rfl, h2⟩
theorem fitL_str {ts : List Ty} {ds : List D} (h : FitL (.str :: ts) (erases ds)) : ∃ n es, ds = .str n :: es ∧ FitL ts (erases es) := by
  obtain ⟨d, es, rfl, h1, h2⟩ := fitL_cons h
  obtain ⟨n, rfl⟩ := fit_str h1
  exact ⟨n, es, rfl, h2⟩
theorem fitL_bool {ts : List Ty} {ds : List D} (h : FitL (.bool :: ts) (erases ds)) : ∃ n es, ds = .bool n :: es ∧ FitL ts (erases es) := by
  obtain ⟨d, es, rfl, h1, h2⟩ := fitL_cons h
  obtain ⟨n, rfl⟩ := fit_bool h1
  exact ⟨n, es, rfl, h2⟩
theorem fitL_row {i k : Nat} (hk : (env i).length = k) {ts : List Ty} {ds : List D} (h : FitL (.row i :: ts) (erases ds)) : ∃ t v fs es, ds = .row t k v fs :: es ∧ FitRow i (erases fs) ∧ FitL ts (erases es) := by
  subst hk
  obtain ⟨d, es, rfl, h1, h2⟩ := fitL_cons h
  obtain ⟨t, v, fs, rfl, h3⟩ := fit_row h1
  exact ⟨t, v, fs, es, rfl, h3, h2⟩
theorem fitL_len {ts : List Ty} {ps : List P} (h : FitL ts ps) : ps.length = ts.length := by
  induction ts generalizing ps with
  | nil => cases h; rfl
  | cons t ts ih =>
    cases h with
    | cons _ _ _ _ h1 h2 => simp [ih h2]
theorem fitRow_cases' {i : Nat} {ps : List P} (h : FitRow i ps) : ps = [] ∨ ∃ item rest, ps = item ++ rest ∧ FitL (env i) item ∧ FitRow i rest := by
  cases h with
  | nil => exact .inl rfl
  | cons _ _ item rest e h1 h2 => exact .inr ⟨item, rest, e, h1, h2⟩
theorem fitRow_cases {i : Nat} {ds : List D} (h : FitRow i (erases ds)) : ds = [] ∨ ∃ item rest, ds = item ++ rest ∧ FitL (env i) (erases item) ∧ FitRow i (erases rest) := by
  rcases fitRow_cases' h with e | ⟨item, rest, e, h1, h2⟩
  · left
    have := congrArg List.length e
    rw [erases_len] at this
    exact List.eq_nil_of_length_eq_zero this
  · obtain ⟨x, y, rfl, rfl, rfl⟩ := erases_split e
    exact .inr ⟨x, y, rfl, h1, h2⟩
theorem fitRow_len {i : Nat} : ∀ (n : Nat) (ps : List P), ps.length ≤ n → 0 < (env i).length → FitRow i ps → ∃ m, ps.length = m * (env i).length := by
  intro n
  induction n with
  | zero => intro ps hl _ _; exact ⟨0, by omega⟩
  | succ n ih =>
    intro ps hl hp h
    rcases fitRow_cases' h with e | ⟨item, rest, e, h1, h2⟩
    · exact ⟨0, by rw [e]; simp⟩
    · have h3 := fitL_len h1
      have h4 : ps.length = item.length + rest.length := by rw [e, List.length_append]
      obtain ⟨m, hm⟩ := ih rest (by omega) hp h2
      exact ⟨m + 1, by rw [h4, h3, hm, Nat.succ_mul, Nat.add_comm]⟩
theorem fitRow_append {i : Nat} {b : List P} (hp : 0 < (env i).length) (hb : FitRow i b) : ∀ (n : Nat) (a : List P), a.length ≤ n → FitRow i a → FitRow i (a ++ b) := by
  intro n
  induction n with
  | zero =>
    intro a hl _
    rw [List.eq_nil_of_length_eq_zero (Nat.le_zero.1 hl)]
    exact hb
  | succ n ih =>
    intro a hl h
    rcases fitRow_cases' h with e | ⟨item, rest, e, h1, h2⟩
    · rw [e]; exact hb
    · have h3 := fitL_len h1
      have h4 : a.length = item.length + rest.length := by rw [e, List.length_append]
      have h5 := ih rest (by omega) h2
      exact FitRow.cons i _ item (rest ++ b) (by rw [e, List.append_assoc]) h1 h5
theorem fitRow_snoc {i : Nat} {a item : List P} (hp : 0 < (env i).length) (ha : FitRow i a) (h : FitL (env i) item) : FitRow i (a ++ item) :=
  fitRow_append hp (FitRow.cons i _ item [] (by simp) h (FitRow.nil i)) _ a (Nat.le_refl _) ha
theorem fitL_append {a b : List Ty} {ds : List D} (h : FitL (a ++ b) (erases ds)) : ∃ x y, ds = x ++ y ∧ FitL a (erases x) ∧ FitL b (erases y) := by
  induction a generalizing ds with
  | nil => exact ⟨[], ds, rfl, by rw [erases]; exact FitL.nil, h⟩
  | cons t a ih =>
    obtain ⟨d, es, rfl, h1, h2⟩ := fitL_cons (ts := a ++ b) h
    obtain ⟨x, y, rfl, h3, h4⟩ := ih h2
    exact ⟨d :: x, y, rfl, by rw [erases]; exact FitL.cons _ _ _ _ h1 h3, h4⟩
def Cells (B : Nat) (ds : List D) (wr : World) : Prop := B < wr.heap.size ∧ ∀ j (h : j < ds.length), wr.cell? ⟨B, j, none⟩ = some (val ds[j])
theorem Cells.step {B : Nat} {ds : List D} {wr w' : World} (h : Cells B ds wr) (hb : Below wr.heap.size wr w') : Cells B ds w' :=
  ⟨Nat.lt_of_lt_of_le h.1 hb.size, fun j hj => cell_keep hb (h.2 j hj)⟩
theorem Cells.at {B : Nat} {ds : List D} {wr : World} (h : Cells B ds wr) (j : Nat) (d : D) (hd : ds[j]? = some d) : wr.cell? ⟨B, j, none⟩ = some (val d) := by
  obtain ⟨hj, rfl⟩ := List.getElem?_eq_some_iff.1 hd
  exact h.2 j hj
theorem cells_new (w : World) (ds : List D) (T : TypeId) : Cells w.heap.size ds (w.alloc (Obj.cells (vals ds).toArray T)) := by
  refine ⟨by simp, fun j hj => ?_⟩
  have : (vals ds)[j]? = some (val ds[j]) := vals_get ds j hj
  simp [this]
theorem row_at {w : World} {b o m : Nat} {ds A R : List D} (hc : ∀ j (h : j < ds.length), w.cell? ⟨b, o + j, none⟩ = some (val ds[j])) (e : ds = A ++ R) (hl : A.length = m) (q : Nat) (d : D) (hq : R[q]? = some d) : w.cell? ⟨b, o + m + q, none⟩ = some (val d) := by
  subst e
  subst hl
  obtain ⟨hj, rfl⟩ := List.getElem?_eq_some_iff.1 hq
  have h1 := hc (A.length + q) (by simp; omega)
  rw [Nat.add_assoc, h1, List.getElem_append_right (by omega)]
  simp
theorem row_at0 {w : World} {b o m : Nat} {ds A R : List D} (hc : ∀ j (h : j < ds.length), w.cell? ⟨b, o + j, none⟩ = some (val ds[j])) (e : ds = A ++ R) (hl : A.length = m) (d : D) (hq : R[0]? = some d) : w.cell? ⟨b, o + m, none⟩ = some (val d) :=
  row_at hc e hl 0 d hq
end Go.Proofs.YtekeondbbikkpaaGreat.Data

namespace Go.Proofs.YtekeondbbikkpaaGreat.Data
open Go.RowKit
open Strs Tree Texts
def strs (xs : List ByteArray) : List D := xs.map D.str
theorem strs_vals (xs : List ByteArray) : vals (strs xs) = xs.map Value.string := by simp [vals, strs, val, Function.comp_def]
theorem strs_len (xs : List ByteArray) : (strs xs).length = xs.length := by simp [strs]
theorem strs_erases (xs : List ByteArray) : erases (strs xs) = xs.map P.str := by
  induction xs with
  | nil => rfl
  | cons x xs ih => rw [strs, List.map_cons, erases]; show _ :: erases (strs xs) = _; rw [ih]; rfl
theorem strs_foots (xs : List ByteArray) : foots (strs xs) = [] := by
  induction xs with
  | nil => rfl
  | cons x xs ih => rw [strs, List.map_cons, foots]; show foot (.str x) ++ foots (strs xs) = _; rw [ih]; rfl
theorem strs_fit (xs : List ByteArray) : FitRow 0 (xs.map P.str) := by
  induction xs with
  | nil => exact FitRow.nil 0
  | cons x xs ih => exact FitRow.cons 0 _ [.str x] _ rfl (FitL.cons _ _ _ _ (Fit.str x) FitL.nil) ih
theorem strs_weights (xs : List ByteArray) : weights (xs.map P.str) = lens xs := by
  induction xs with
  | nil => rfl
  | cons x xs ih => rw [List.map_cons, weights, weight, lens, ih]
theorem strs_cnts (xs : List ByteArray) : cnts (xs.map P.str) = xs.length := by
  induction xs with
  | nil => rfl
  | cons x xs ih => rw [List.map_cons, cnts, cnt, ih, List.length_cons]; omega
theorem strs_of : ∀ (n : Nat) (ds : List D), ds.length ≤ n → FitRow 0 (erases ds) → ∃ xs, ds = strs xs := by
  intro n
  induction n with
  | zero => intro ds hl _; exact ⟨[], List.eq_nil_of_length_eq_zero (Nat.le_zero.1 hl)⟩
  | succ n ih =>
    intro ds hl h
    rcases fitRow_cases h with rfl | ⟨item, rest, rfl, h1, h2⟩
    · exact ⟨[], rfl⟩
    · obtain ⟨s, es, rfl, h3⟩ := fitL_str h1
      obtain rfl := fitL_nil h3
      obtain ⟨xs, rfl⟩ := ih rest (by simp at hl; omega) h2
      exact ⟨s :: xs, rfl⟩
theorem strs_get {ds : List D} (h : FitRow 0 (erases ds)) : ∃ xs, ds = strs xs := strs_of _ ds (Nat.le_refl _) h
theorem strs_goods {w : World} {xs : List ByteArray} : Goods w (strs xs) ↔ ∀ x, x ∈ xs → x.size ≤ maxLen := by
  rw [goods_iff]
  constructor
  · intro h x hx
    have := h (.str x) (by simp [strs, hx])
    rw [Good] at this
    exact this
  · intro h d hd
    simp only [strs, List.mem_map] at hd
    obtain ⟨x, hx, rfl⟩ := hd
    rw [Good]
    exact h x hx
theorem strs_texts {lo t : Nat} {w : World} {v : Value} {xs : List ByteArray} (h : Holds lo w (.row t 1 v (strs xs))) : Texts lo w xs v := by
  rw [Holds] at h
  obtain ⟨⟨a, n, cap, rfl, -, h1, h2, h3, h4⟩, h5⟩ := h
  rw [strs_len, Nat.mul_one] at h1
  subst h1
  refine ⟨a, cap, rfl, ⟨h2, h3⟩, fun x hx => ?_, fun hp => ?_⟩
  · have := holdss_iff.1 h5 (.str x) (by simp [strs, hx])
    rw [Holds] at this
    exact this
  · obtain ⟨b, o, rfl, hb, hc⟩ := h4 hp
    refine ⟨b, o, rfl, hb, fun j hj => ?_⟩
    rw [hc j (by rw [strs_len]; exact hj)]
    simp [strs, val]
theorem strs_row {T base : Nat} {w : World} {v : Value} {xs : List ByteArray} (h : w.ownsRow base T 1 v xs.length (xs.map Value.string)) (hx : ∀ x, x ∈ xs → x.size ≤ maxLen) : Row base w T 1 v (strs xs) :=
  ⟨⟨xs.length, by decide, by rw [strs_len, Nat.mul_one], by rw [strs_vals]; exact h⟩, ⟨strs_goods.2 hx, by rw [strs_foots]; exact List.nodup_nil, fun b hb => by rw [strs_foots] at hb; cases hb⟩, fun b _ hb => by rw [strs_foots] at hb; cases hb⟩
theorem szS_String (lo left t : Nat) (w : World) (v : Value) (ds : List D) (hl : left ≤ 1048576) (hf : FitRow 0 (erases ds)) (hh : Holds lo w (.row t 1 v ds)) :
    Calls Tryz.prog 52 #[v, .int .i64 left] w fun r w' => r = .returned (.int .i64 (after left (weight (.row 1 (erases ds))))) ∧ Below w.heap.size w w' := by
  obtain ⟨xs, rfl⟩ := strs_get hf
  refine (sz_any (strs_texts hh) hl).mono ?_
  rintro e w' ⟨rfl, rfl⟩
  refine ⟨?_, Below.refl _ _⟩
  rw [strs_erases, weight, strs_weights, List.length_map, Nat.div_one]
theorem toS_String (lo t : Nat) (w : World) (v : Value) (ds : List D) (hw : weight (.row 1 (erases ds)) ≤ 1048576) (hf : FitRow 0 (erases ds)) (hh : Holds lo w (.row t 1 v ds)) :
    Calls Tryz.prog 63 #[v] w fun r w' => ∃ a n c ds', r = .returned (.slice a n c) ∧ erases ds' = erases ds ∧ Row w.heap.size w' 9 1 (.slice a n c) ds' ∧ Below w.heap.size w w' := by
  obtain ⟨xs, rfl⟩ := strs_get hf
  have hn : xs.length ≤ 1048576 := by rw [strs_erases, weight, List.length_map, Nat.div_one] at hw; omega
  have ht := strs_texts hh
  have hx := ht.choose_spec.choose_spec.2.2.1
  have H : Calls Tryz.prog 63 #[v] w (Copied xs xs.length w) := by
    obtain ⟨a, cap, rfl, hm, hs, hc⟩ := ht
    by_cases hp : 0 < xs.length
    · obtain ⟨b, off, rfl, hb, hd⟩ := hc hp
      exact to_cons b off cap _ xs w rfl hn hd
    · have : xs = [] := List.eq_nil_of_length_eq_zero (by omega)
      subst this
      exact to_nil a cap w
  refine H.mono ?_
  rintro e w' ⟨rfl, ho, hb⟩
  exact ⟨_, _, _, strs xs, rfl, rfl, strs_row ho hx, hb⟩
theorem eqS_String (lo1 lo2 t1 t2 : Nat) (w : World) (v1 v2 : Value) (ds1 ds2 : List D) (he : erases ds1 = erases ds2) (hf : FitRow 0 (erases ds1)) (h1 : Holds lo1 w (.row t1 1 v1 ds1)) (h2 : Holds lo2 w (.row t2 1 v2 ds2)) :
    Calls Tryz.prog 78 #[v1, v2] w fun r w' => r = .returned (.bool true) ∧ Below w.heap.size w w' := by
  obtain ⟨xs, rfl⟩ := strs_get hf
  obtain ⟨ys, rfl⟩ := strs_get (he ▸ hf)
  rw [strs_erases, strs_erases] at he
  have : xs = ys := by
    have inj : ∀ a b : ByteArray, P.str a = P.str b → a = b := fun a b h => by cases h; rfl
    exact (List.map_inj_right inj).1 he
  subst this
  exact Texts.eq_same (strs_texts h1) (strs_texts h2)
end Go.Proofs.YtekeondbbikkpaaGreat.Data
