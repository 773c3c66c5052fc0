/-
  A world in which of what was there only one block may have changed.
-/
import Derived.Test.YtkmclgofghaeoaaBMark
import Derived.Test.YtkmclgofghaeoaaBTreeOk
namespace Go.Proofs.Ytkmclgofghaeoaa.Chk
open Go.RowKit
open Strs Tree
structure But (X : Nat) (w w' : World) : Prop where
  os : w'.os = w.os
  tape : w'.tape = w.tape
  output : w'.output = w.output
  size : w.heap.size ≤ w'.heap.size
  block : ∀ k, k < w.heap.size → k ≠ X → w'.heap[k]? = w.heap[k]?
theorem But.refl (X : Nat) (w : World) : But X w w := ⟨rfl, rfl, rfl, Nat.le_refl _, fun _ _ _ => rfl⟩
theorem But.trans {X : Nat} {a b c : World} (h : But X a b) (k : But X b c) : But X a c :=
  ⟨k.os.trans h.os, k.tape.trans h.tape, k.output.trans h.output, Nat.le_trans h.size k.size, fun i hi hx => (k.block i (Nat.lt_of_lt_of_le hi h.size) hx).trans (h.block i hi hx)⟩
theorem but_below {X : Nat} {w w' : World} (h : Below w.heap.size w w') : But X w w' := ⟨h.os, h.tape, h.output, h.size, fun k hk _ => h.block k hk⟩
theorem But.below {X : Nat} {w w' : World} (h : But X w w') {B : Nat} (hB : B ≤ X) (hw : B ≤ w.heap.size) : Below B w w' := ⟨h.os, h.tape, h.output, h.size, fun k hk => h.block k (by omega) (by omega)⟩
theorem but_set (w : World) (X o : Nat) (v : Value) : But X w (w.setCell ⟨X, o, none⟩ v) :=
  ⟨rfl, rfl, rfl, by simp [World.setCell], fun k _ hx => Below.heap_setCell w ⟨X, o, none⟩ v k hx⟩
theorem But.cell {X : Nat} {w w' : World} (h : But X w w') {b o : Nat} {v : Value} (hb : b ≠ X) (hc : w.cell? ⟨b, o, none⟩ = some v) : w'.cell? ⟨b, o, none⟩ = some v := by
  have hlt := cell_lt hc
  have he := h.block b hlt hb
  unfold World.cell? at hc ⊢
  simp only at hc ⊢
  rw [he]
  exact hc
theorem But.frozen {X : Nat} {w w' : World} (h : But X w w') {b o : Nat} (hb : b ≠ X) (hl : b < w.heap.size) : w'.frozen? ⟨b, o, none⟩ = w.frozen? ⟨b, o, none⟩ := by
  have he := h.block b hl hb
  unfold World.frozen?
  simp only
  rw [he]
end Go.Proofs.Ytkmclgofghaeoaa.Chk
