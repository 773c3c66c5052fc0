/-
  Rows of values in memory.
  Values as data: what reads as one reads as the other; rows of values.
-/
import Derived.Test.YtkmclgofghaeoaaGreatBDataCore
import Derived.Test.YtkmclgofghaeoaaGreatBMark
import Derived.Test.YtkmclgofghaeoaaGreatBStoAll
import Derived.Test.YtkmclgofghaeoaaGreatBTreeOk
namespace Go.Proofs.YtkmclgofghaeoaaGreat.Data
open Go.RowKit
open Strs Tree Core Sto
def RowOf {α : Type} (k : Nat) (Q : World → Nat → Nat → α → Prop) (lo : Nat) (w : World) (v : Value) (xs : List α) : Prop :=
  ∃ a c, v = .slice a xs.length c ∧ (xs.length ≤ c ∧ c ≤ maxLen) ∧ (0 < xs.length → ∃ b o, a = some ⟨b, o, none⟩ ∧ lo ≤ b ∧ ∀ i x, xs[i]? = some x → Q w b (o + i * k) x)
theorem RowOf.keep {α : Type} {k : Nat} {Q : World → Nat → Nat → α → Prop} {lo : Nat} {w w' : World} {v : Value} {xs : List α} (h : RowOf k Q lo w v xs) (hb : ∀ b o x, x ∈ xs → Q w b o x → Q w' b o x) : RowOf k Q lo w' v xs := by
  obtain ⟨a, c, rfl, hc, h⟩ := h
  refine ⟨a, c, rfl, hc, fun hp => ?_⟩
  obtain ⟨b, o, rfl, hl, h'⟩ := h hp
  exact ⟨b, o, rfl, hl, fun i x hi => hb _ _ _ (List.mem_of_getElem? hi) (h' i x hi)⟩
theorem RowOf.at {α : Type} {k : Nat} {Q : World → Nat → Nat → α → Prop} {lo : Nat} {w : World} {a : Option Addr} {n c : Nat} {xs : List α} (h : RowOf k Q lo w (.slice a n c) xs) {i : Nat} {x : α} (hi : xs[i]? = some x) : ∃ b o, a = some ⟨b, o, none⟩ ∧ lo ≤ b ∧ Q w b (o + i * k) x := by
  obtain ⟨a', c', e, hc, h⟩ := h
  cases e
  have := (List.getElem?_eq_some_iff.1 hi).1
  obtain ⟨b, o, rfl, hl, h'⟩ := h (by omega)
  exact ⟨b, o, rfl, hl, h' i x hi⟩
def VAt (w : World) (b o : Nat) (v : V) : Prop :=
  w.cell? ⟨b, o, none⟩ = some (.int .i64 v.kind) ∧ w.cell? ⟨b, o + 1, none⟩ = some (.int .i64 v.num) ∧ w.cell? ⟨b, o + 2, none⟩ = some (.string v.text) ∧ (Lit.int .i64 v.kind).wf = true ∧ (Lit.int .i64 v.num).wf = true ∧ v.text.size ≤ maxLen
theorem VAt.below {w w' : World} {b o : Nat} {v : V} (h : VAt w b o v) (hb : Below w.heap.size w w') : VAt w' b o v :=
  ⟨cell_keep hb h.1, cell_keep hb h.2.1, cell_keep hb h.2.2.1, h.2.2.2⟩
def VsAt (lo : Nat) (w : World) (v : Value) (xs : List V) : Prop := RowOf 3 VAt lo w v xs
theorem VsAt.below {lo : Nat} {w w' : World} {v : Value} {xs : List V} (h : VsAt lo w v xs) (hb : Below w.heap.size w w') : VsAt lo w' v xs := RowOf.keep h fun _ _ _ _ q => q.below hb
end Go.Proofs.YtkmclgofghaeoaaGreat.Data

namespace Go.Proofs.YtkmclgofghaeoaaGreat.Data
open Go.RowKit
open Strs Tree Core Sto
def plainV (v : V) : List P := [.int v.kind, .int v.num, .str v.text]
def plainVs : List V → List P
  | [] => []
  | v :: vs => plainV v ++ plainVs vs
theorem plainVs_len (cs : List V) : (plainVs cs).length = cs.length * 3 := by
  induction cs with
  | nil => rfl
  | cons m ms ih => rw [plainVs, List.length_append, ih, List.length_cons, Nat.succ_mul]; show 3 + _ = _; omega
theorem plainV_fit (c : V) : FitL (env 10) (plainV c) := FitL.cons _ _ _ _ (Fit.int _) (FitL.cons _ _ _ _ (Fit.int _) (FitL.cons _ _ _ _ (Fit.str _) FitL.nil))
theorem plainVs_fit (cs : List V) : FitRow 10 (plainVs cs) := by
  induction cs with
  | nil => exact FitRow.nil 10
  | cons c cs ih => rw [plainVs]; exact FitRow.cons 10 _ _ _ rfl (plainV_fit c) ih
theorem value_get {ds : List D} (h : FitL (env 10) (erases ds)) : ∃ v : V, ds = [.int v.kind, .int v.num, .str v.text] ∧ erases ds = plainV v := by
  obtain ⟨n0, e0, rfl, h0⟩ := fitL_int h
  obtain ⟨n1, e1, rfl, h1⟩ := fitL_int h0
  obtain ⟨s2, e2, rfl, h2⟩ := fitL_str h1
  obtain rfl := fitL_nil h2
  exact ⟨⟨n0, n1, s2⟩, rfl, rfl⟩
theorem values_get : ∀ (n : Nat) (ds : List D), ds.length ≤ n → FitRow 10 (erases ds) → ∃ cs, erases ds = plainVs cs := by
  intro n
  induction n with
  | zero => intro ds hl _; exact ⟨[], by rw [List.eq_nil_of_length_eq_zero (Nat.le_zero.1 hl)]; rfl⟩
  | succ n ih =>
    intro ds hl h
    rcases fitRow_cases h with rfl | ⟨item, rest, rfl, h1, h2⟩
    · exact ⟨[], rfl⟩
    · have hil := fitL_len h1
      have h5 : (env 10).length = 3 := rfl
      rw [erases_len] at hil
      rw [List.length_append] at hl
      obtain ⟨c, _, hm⟩ := value_get h1
      obtain ⟨ms, hms⟩ := ih rest (by omega) h2
      exact ⟨c :: ms, by rw [erases_append, hm, hms, plainVs]⟩
theorem values_at : ∀ (cs : List V) (ds : List D), erases ds = plainVs cs → ∀ i (h : i < cs.length), ∃ A x B, ds = A ++ (x ++ B) ∧ A.length = i * 3 ∧ erases x = plainV cs[i] := by
  intro cs
  induction cs with
  | nil => intro ds _ i h; simp at h
  | cons m ms ih =>
    intro ds h i hi
    rw [plainVs] at h
    obtain ⟨x, y, rfl, h1, h2⟩ := erases_split h
    cases i with
    | zero => exact ⟨[], x, y, rfl, by simp, h1⟩
    | succ i =>
      obtain ⟨A, x', B, rfl, h3, h4⟩ := ih y h2 i (by simpa using hi)
      refine ⟨x ++ A, x', B, by rw [List.append_assoc], ?_, h4⟩
      have : x.length = 3 := by
        have := congrArg List.length h1
        rw [erases_len] at this
        exact this
      rw [List.length_append, this, h3, Nat.succ_mul]
      omega
theorem value_form {ds : List D} {v : V} (h : erases ds = plainV v) : ds = [.int v.kind, .int v.num, .str v.text] := by
  obtain ⟨v', rfl, h5⟩ := value_get (ds := ds) (h ▸ plainV_fit v)
  have e := h5.symm.trans h
  obtain ⟨a1, a2, a3⟩ := v'
  obtain ⟨b1, b2, b3⟩ := v
  simp only [plainV, List.cons.injEq, P.str.injEq, P.int.injEq, and_true] at e
  obtain ⟨rfl, rfl, rfl⟩ := e
  rfl
theorem value_open {lo b o : Nat} {w : World} {x : List D} {v : V} (hc : ∀ j d, x[j]? = some d → w.cell? ⟨b, o + j, none⟩ = some (val d)) (hh : Holdss lo w x) (he : erases x = plainV v) : VAt w b o v := by
  obtain rfl := value_form he
  simp only [Holdss, and_true] at hh
  exact ⟨hc 0 _ rfl, hc 1 _ rfl, hc 2 _ rfl, by simpa only [Holds] using hh.1, by simpa only [Holds] using hh.2.1, by simpa only [Holds] using hh.2.2⟩
theorem values_open {lo t : Nat} {w : World} {v : Value} {ds : List D} {cs : List V} (hh : Holds lo w (.row t 3 v ds)) (he : erases ds = plainVs cs) : VsAt lo w v cs := by
  rw [Holds] at hh
  obtain ⟨⟨a, n, c, rfl, -, hl, hn, hc, hcell⟩, hd⟩ := hh
  have hlen := congrArg List.length he
  rw [erases_len, plainVs_len] at hlen
  obtain rfl : n = cs.length := by omega
  refine ⟨a, c, rfl, ⟨hn, hc⟩, fun hp => ?_⟩
  obtain ⟨b, o, rfl, hb, hcell⟩ := hcell hp
  refine ⟨b, o, rfl, hb, fun i m hi => ?_⟩
  obtain ⟨hj, rfl⟩ := List.getElem?_eq_some_iff.1 hi
  obtain ⟨A, x, B, e, hal, hx⟩ := values_at cs ds he i hj
  have hxh : Holdss lo w x := (Holdss.append.1 (Holdss.append.1 (e ▸ hd)).2).1
  refine value_open (lo := lo) (fun j d hj => ?_) hxh hx
  have hj' : (x ++ B)[j]? = some d := by
    rw [List.getElem?_append_left (List.getElem?_eq_some_iff.1 hj).1]; exact hj
  exact row_at hcell e hal j d hj'
theorem plainV_weight (v : V) : Data.weights (plainV v) = v.text.size := by
  simp only [plainV, Data.weights, Data.weight]; omega
theorem plainVs_mem : ∀ (cs : List V) (c : V), c ∈ cs → c.text.size ≤ Data.weights (plainVs cs) := by
  intro cs
  induction cs with
  | nil => intro c h; cases h
  | cons m ms ih =>
    intro c h
    rw [plainVs, Data.weights_append, plainV_weight]
    rcases List.mem_cons.1 h with rfl | h
    · omega
    · have := ih c h; omega
end Go.Proofs.YtkmclgofghaeoaaGreat.Data
