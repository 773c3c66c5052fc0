/-
  Slices of tokens that can be read: what that means, and what Tokens hands back, in one form.
-/
import Derived.Test.YtamjfbjkdicmcaaGreatDoorBSpecTokens
namespace Go.Proofs.YtamjfbjkdicmcaaGreatDoor.RowsT
open Go.RowKit
open Strs SpecTokens
theorem row_len (ts : _root_.List Tok.T) : (row ts).length = 3 * ts.length := by
  induction ts with
  | nil => rfl
  | cons t ts ih => rw [row, _root_.List.flatMap_cons, _root_.List.length_append, show (ts.flatMap cells).length = (row ts).length from rfl, ih, _root_.List.length_cons]; simp [cells]; omega
theorem row_at (ts : _root_.List Tok.T) (i : Nat) (h : i < ts.length) : (row ts)[3 * i]? = some (.int .i64 ts[i].kind) ∧ (row ts)[3 * i + 1]? = some (.string ts[i].text) ∧ (row ts)[3 * i + 2]? = some (.int .i64 ts[i].num) := by
  induction ts generalizing i with
  | nil => simp at h
  | cons t ts ih =>
    have e : row (t :: ts) = .int .i64 t.kind :: .string t.text :: .int .i64 t.num :: row ts := rfl
    rw [e]
    cases i with
    | zero => exact ⟨rfl, rfl, rfl⟩
    | succ i =>
      have := ih i (by simpa using h)
      rw [show 3 * (i + 1) = 3 * i + 1 + 1 + 1 by omega]
      simpa using this
def AtT (w : World) (v : Value) (ts : _root_.List Tok.T) : Prop :=
  ∃ a cap, v = .slice a ts.length cap ∧ (0 < ts.length → ∃ b, a = some ⟨b, 0, none⟩ ∧ ∀ i (h : i < ts.length), w.cell? ⟨b, i * 3, none⟩ = some (.int .i64 ts[i].kind) ∧ w.cell? ⟨b, i * 3 + 1, none⟩ = some (.string ts[i].text) ∧ w.cell? ⟨b, i * 3 + 2, none⟩ = some (.int .i64 ts[i].num))
theorem at_own {w : World} {base : Nat} {v : Value} {ts : _root_.List Tok.T} (h : w.ownsRow base 31 3 v ts.length (row ts)) : AtT w v ts := by
  have h' := h
  obtain ⟨_, ⟨rfl, hn⟩ | ⟨g, cap, cur, rfl, _⟩⟩ := h
  · exact ⟨none, 0, by rw [hn], fun hp => by omega⟩
  · refine ⟨_, cap, rfl, fun hp => ⟨g, rfl, fun i hi => ?_⟩⟩
    have hr := row_at ts i hi
    refine ⟨?_, ?_, ?_⟩
    · rw [h'.cellAt _ (by omega), ← hr.1, Nat.mul_comm]
    · rw [h'.cellAt _ (by omega), ← hr.2.1, Nat.mul_comm]
    · rw [h'.cellAt _ (by omega), ← hr.2.2, Nat.mul_comm]
theorem AtT.keep {w w' : World} {v : Value} {ts : _root_.List Tok.T} (h : AtT w v ts) (hb : Below w.heap.size w w') : AtT w' v ts := by
  obtain ⟨a, cap, rfl, hc⟩ := h
  refine ⟨a, cap, rfl, fun hp => ?_⟩
  obtain ⟨b, rfl, hd⟩ := hc hp
  exact ⟨b, rfl, fun i hi => ⟨cell_keep hb (hd i hi).1, cell_keep hb (hd i hi).2.1, cell_keep hb (hd i hi).2.2⟩⟩
theorem read_form {r : Option (_root_.List Tok.T)} {w w' : World} {e : Ending} (h : SpecTokens.Read r w e w') : ∃ v, e = .returned (.tuple #[v, .bool r.isSome]) ∧ w'.ownsRow w.heap.size 31 3 v (r.getD []).length (row (r.getD [])) ∧ Below w.heap.size w w' := by
  cases r with
  | none =>
    obtain ⟨rfl, hb⟩ := h
    exact ⟨_, rfl, World.ownsRow_nil _ _ _ _, hb⟩
  | some ts => exact h
end Go.Proofs.YtamjfbjkdicmcaaGreatDoor.RowsT
