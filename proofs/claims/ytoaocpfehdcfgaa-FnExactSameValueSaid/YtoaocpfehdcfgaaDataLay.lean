/-
  How the laws' own types of data lie in this program's table of types.
-/
import Derived.Test.YtoaocpfehdcfgaaDataOpen
namespace Go.Proofs.Ytoaocpfehdcfgaa.Data
open Go.RowKit
open Strs

def tid : Nat → TypeId
  | 0 => 9
  | 1 => 3
  | 10 => 23
  | _ => 0
def ok : Nat → Bool
  | 0 => true
  | 1 => true
  | 10 => true
  | _ => false
theorem lay_int : Lay Try.prog tid ok 3 [.int] := Lay.int _ Try.underlying3
theorem lay_str : Lay Try.prog tid ok 9 [.str] := Lay.str _ Try.underlying9
theorem lay_bool : Lay Try.prog tid ok 4 [.bool] := Lay.bool _ Try.underlying4
theorem lay_sString : Lay Try.prog tid ok 34 [.row 0] := Lay.slice _ 0 rfl Try.underlying34
theorem lay_Value : Lay Try.prog tid ok 23 (env 10) := by
  refine Lay.struct _ _ [[.int], [.int], [.str]] _ Try.underlying23 rfl (by kernel_rfl) rfl ?_ ?_
  · intro k f us hf hu
    have hk : k < 3 := (List.getElem?_eq_some_iff.1 hu).1
    match k, hk, hf, hu with
    | 0, _, hf, hu => obtain rfl := Option.some.inj hf; obtain rfl := Option.some.inj hu; exact lay_int
    | 1, _, hf, hu => obtain rfl := Option.some.inj hf; obtain rfl := Option.some.inj hu; exact lay_int
    | 2, _, hf, hu => obtain rfl := Option.some.inj hf; obtain rfl := Option.some.inj hu; exact lay_str
  · intro k f us hf hu
    have hk : k < 3 := (List.getElem?_eq_some_iff.1 hu).1
    match k, hk, hf, hu with
    | 0, _, hf, hu => obtain rfl := Option.some.inj hf; obtain rfl := Option.some.inj hu; exact ⟨rfl, by kernel_rfl⟩
    | 1, _, hf, hu => obtain rfl := Option.some.inj hf; obtain rfl := Option.some.inj hu; exact ⟨rfl, by kernel_rfl⟩
    | 2, _, hf, hu => obtain rfl := Option.some.inj hf; obtain rfl := Option.some.inj hu; exact ⟨rfl, by kernel_rfl⟩
theorem lays : ∀ i, ok i = true → Lay Try.prog tid ok (tid i) (env i) ∧ Try.prog.cellsOf (tid i) = (env i).length ∧ 0 < (env i).length := by
  intro i h
  unfold ok at h
  split at h
  · exact ⟨lay_str, by kernel_rfl, by decide⟩
  · exact ⟨lay_int, by kernel_rfl, by decide⟩
  · exact ⟨lay_Value, by kernel_rfl, by decide⟩
  · cases h
end Go.Proofs.Ytoaocpfehdcfgaa.Data
