/-
  Rows of values in memory.
-/
import Derived.Test.YtkmclgofghaeoaaBMark
import Derived.Test.YtkmclgofghaeoaaBStoAll
import Derived.Test.YtkmclgofghaeoaaBTreeOk
namespace Go.Proofs.Ytkmclgofghaeoaa.Data
open Go.RowKit
open Strs Tree Core Sto
def RowOf {α : Type} (k : Nat) (Q : World → Nat → Nat → α → Prop) (lo : Nat) (w : World) (v : Value) (xs : List α) : Prop :=
  ∃ a c, v = .slice a xs.length c ∧ (xs.length ≤ c ∧ c ≤ maxLen) ∧ (0 < xs.length → ∃ b o, a = some ⟨b, o, none⟩ ∧ lo ≤ b ∧ ∀ i x, xs[i]? = some x → Q w b (o + i * k) x)
theorem RowOf.keep {α : Type} {k : Nat} {Q : World → Nat → Nat → α → Prop} {lo : Nat} {w w' : World} {v : Value} {xs : List α} (h : RowOf k Q lo w v xs) (hb : ∀ b o x, x ∈ xs → Q w b o x → Q w' b o x) : RowOf k Q lo w' v xs := by
  obtain ⟨a, c, rfl, hc, h⟩ := h
  refine ⟨a, c, rfl, hc, fun hp => ?_⟩
  obtain ⟨b, o, rfl, hl, h'⟩ := h hp
  exact ⟨b, o, rfl, hl, fun i x hi => hb _ _ _ (List.mem_of_getElem? hi) (h' i x hi)⟩
theorem RowOf.at {α : Type} {k : Nat} {Q : World → Nat → Nat → α → Prop} {lo : Nat} {w : World} {a : Option Addr} {n c : Nat} {xs : List α} (h : RowOf k Q lo w (.slice a n c) xs) {i : Nat} {x : α} (hi : xs[i]? = some x) : ∃ b o, a = some ⟨b, o, none⟩ ∧ lo ≤ b ∧ Q w b (o + i * k) x := by
  obtain ⟨a', c', e, hc, h⟩ := h
  cases e
  have := (List.getElem?_eq_some_iff.1 hi).1
  obtain ⟨b, o, rfl, hl, h'⟩ := h (by omega)
  exact ⟨b, o, rfl, hl, h' i x hi⟩
def VAt (w : World) (b o : Nat) (v : V) : Prop :=
  w.cell? ⟨b, o, none⟩ = some (.int .i64 v.kind) ∧ w.cell? ⟨b, o + 1, none⟩ = some (.int .i64 v.num) ∧ w.cell? ⟨b, o + 2, none⟩ = some (.string v.text) ∧ (Lit.int .i64 v.kind).wf = true ∧ (Lit.int .i64 v.num).wf = true ∧ v.text.size ≤ maxLen
theorem VAt.below {w w' : World} {b o : Nat} {v : V} (h : VAt w b o v) (hb : Below w.heap.size w w') : VAt w' b o v :=
  ⟨cell_keep hb h.1, cell_keep hb h.2.1, cell_keep hb h.2.2.1, h.2.2.2⟩
def VsAt (lo : Nat) (w : World) (v : Value) (xs : List V) : Prop := RowOf 3 VAt lo w v xs
theorem VsAt.below {lo : Nat} {w w' : World} {v : Value} {xs : List V} (h : VsAt lo w v xs) (hb : Below w.heap.size w w') : VsAt lo w' v xs := RowOf.keep h fun _ _ _ _ q => q.below hb
end Go.Proofs.Ytkmclgofghaeoaa.Data
