/-
  How the laws' own types of data lie in this program's table of types.
-/
import Derived.Test.YtlmhgeanknhcfaaDataOpen
namespace Go.Proofs.Ytlmhgeanknhcfaa.Data
open Go.RowKit
open Strs

def tid : Nat → TypeId
  | 0 => 9
  | 1 => 3
  | 2 => 64
  | 3 => 25
  | 4 => 78
  | 5 => 35
  | _ => 0
def ok : Nat → Bool
  | 0 => true
  | 1 => true
  | 2 => true
  | 3 => true
  | 4 => true
  | 5 => true
  | _ => false
theorem lay_int : Lay Try.prog tid ok 3 [.int] := Lay.int _ Try.underlying3
theorem lay_str : Lay Try.prog tid ok 9 [.str] := Lay.str _ Try.underlying9
theorem lay_bool : Lay Try.prog tid ok 4 [.bool] := Lay.bool _ Try.underlying4
theorem lay_sString : Lay Try.prog tid ok 22 [.row 0] := Lay.slice _ 0 rfl Try.underlying22
theorem lay_sExpr : Lay Try.prog tid ok 23 [.row 2] := Lay.slice _ 2 rfl Try.underlying23
theorem lay_sMethod : Lay Try.prog tid ok 76 [.row 3] := Lay.slice _ 3 rfl Try.underlying76
theorem lay_sClassDef : Lay Try.prog tid ok 33 [.row 4] := Lay.slice _ 4 rfl Try.underlying33
theorem lay_Expr : Lay Try.prog tid ok 64 (env 2) := by
  refine Lay.struct _ _ [[.int], [.str], [.int], [.row 0], [.row 2]] _ Try.underlying64 rfl (by kernel_rfl) rfl ?_ ?_
  · intro k f us hf hu
    have hk : k < 5 := (List.getElem?_eq_some_iff.1 hu).1
    match k, hk, hf, hu with
    | 0, _, hf, hu => obtain rfl := Option.some.inj hf; obtain rfl := Option.some.inj hu; exact lay_int
    | 1, _, hf, hu => obtain rfl := Option.some.inj hf; obtain rfl := Option.some.inj hu; exact lay_str
    | 2, _, hf, hu => obtain rfl := Option.some.inj hf; obtain rfl := Option.some.inj hu; exact lay_int
    | 3, _, hf, hu => obtain rfl := Option.some.inj hf; obtain rfl := Option.some.inj hu; exact lay_sString
    | 4, _, hf, hu => obtain rfl := Option.some.inj hf; obtain rfl := Option.some.inj hu; exact lay_sExpr
  · intro k f us hf hu
    have hk : k < 5 := (List.getElem?_eq_some_iff.1 hu).1
    match k, hk, hf, hu with
    | 0, _, hf, hu => obtain rfl := Option.some.inj hf; obtain rfl := Option.some.inj hu; exact ⟨rfl, by kernel_rfl⟩
    | 1, _, hf, hu => obtain rfl := Option.some.inj hf; obtain rfl := Option.some.inj hu; exact ⟨rfl, by kernel_rfl⟩
    | 2, _, hf, hu => obtain rfl := Option.some.inj hf; obtain rfl := Option.some.inj hu; exact ⟨rfl, by kernel_rfl⟩
    | 3, _, hf, hu => obtain rfl := Option.some.inj hf; obtain rfl := Option.some.inj hu; exact ⟨rfl, by kernel_rfl⟩
    | 4, _, hf, hu => obtain rfl := Option.some.inj hf; obtain rfl := Option.some.inj hu; exact ⟨rfl, by kernel_rfl⟩
theorem lay_Method : Lay Try.prog tid ok 25 (env 3) := by
  refine Lay.struct _ _ [[.str], [.bool], [.row 0], [.row 0], [.row 2]] _ Try.underlying25 rfl (by kernel_rfl) rfl ?_ ?_
  · intro k f us hf hu
    have hk : k < 5 := (List.getElem?_eq_some_iff.1 hu).1
    match k, hk, hf, hu with
    | 0, _, hf, hu => obtain rfl := Option.some.inj hf; obtain rfl := Option.some.inj hu; exact lay_str
    | 1, _, hf, hu => obtain rfl := Option.some.inj hf; obtain rfl := Option.some.inj hu; exact lay_bool
    | 2, _, hf, hu => obtain rfl := Option.some.inj hf; obtain rfl := Option.some.inj hu; exact lay_sString
    | 3, _, hf, hu => obtain rfl := Option.some.inj hf; obtain rfl := Option.some.inj hu; exact lay_sString
    | 4, _, hf, hu => obtain rfl := Option.some.inj hf; obtain rfl := Option.some.inj hu; exact lay_sExpr
  · intro k f us hf hu
    have hk : k < 5 := (List.getElem?_eq_some_iff.1 hu).1
    match k, hk, hf, hu with
    | 0, _, hf, hu => obtain rfl := Option.some.inj hf; obtain rfl := Option.some.inj hu; exact ⟨rfl, by kernel_rfl⟩
    | 1, _, hf, hu => obtain rfl := Option.some.inj hf; obtain rfl := Option.some.inj hu; exact ⟨rfl, by kernel_rfl⟩
    | 2, _, hf, hu => obtain rfl := Option.some.inj hf; obtain rfl := Option.some.inj hu; exact ⟨rfl, by kernel_rfl⟩
    | 3, _, hf, hu => obtain rfl := Option.some.inj hf; obtain rfl := Option.some.inj hu; exact ⟨rfl, by kernel_rfl⟩
    | 4, _, hf, hu => obtain rfl := Option.some.inj hf; obtain rfl := Option.some.inj hu; exact ⟨rfl, by kernel_rfl⟩
theorem lay_ClassDef : Lay Try.prog tid ok 78 (env 4) := by
  refine Lay.struct _ _ [[.str], [.str], [.row 0], [.row 3]] _ Try.underlying78 rfl (by kernel_rfl) rfl ?_ ?_
  · intro k f us hf hu
    have hk : k < 4 := (List.getElem?_eq_some_iff.1 hu).1
    match k, hk, hf, hu with
    | 0, _, hf, hu => obtain rfl := Option.some.inj hf; obtain rfl := Option.some.inj hu; exact lay_str
    | 1, _, hf, hu => obtain rfl := Option.some.inj hf; obtain rfl := Option.some.inj hu; exact lay_str
    | 2, _, hf, hu => obtain rfl := Option.some.inj hf; obtain rfl := Option.some.inj hu; exact lay_sString
    | 3, _, hf, hu => obtain rfl := Option.some.inj hf; obtain rfl := Option.some.inj hu; exact lay_sMethod
  · intro k f us hf hu
    have hk : k < 4 := (List.getElem?_eq_some_iff.1 hu).1
    match k, hk, hf, hu with
    | 0, _, hf, hu => obtain rfl := Option.some.inj hf; obtain rfl := Option.some.inj hu; exact ⟨rfl, by kernel_rfl⟩
    | 1, _, hf, hu => obtain rfl := Option.some.inj hf; obtain rfl := Option.some.inj hu; exact ⟨rfl, by kernel_rfl⟩
    | 2, _, hf, hu => obtain rfl := Option.some.inj hf; obtain rfl := Option.some.inj hu; exact ⟨rfl, by kernel_rfl⟩
    | 3, _, hf, hu => obtain rfl := Option.some.inj hf; obtain rfl := Option.some.inj hu; exact ⟨rfl, by kernel_rfl⟩
theorem lay_Unit : Lay Try.prog tid ok 35 (env 5) := by
  refine Lay.struct _ _ [[.row 4], env 3] _ Try.underlying35 rfl (by kernel_rfl) rfl ?_ ?_
  · intro k f us hf hu
    have hk : k < 2 := (List.getElem?_eq_some_iff.1 hu).1
    match k, hk, hf, hu with
    | 0, _, hf, hu => obtain rfl := Option.some.inj hf; obtain rfl := Option.some.inj hu; exact lay_sClassDef
    | 1, _, hf, hu => obtain rfl := Option.some.inj hf; obtain rfl := Option.some.inj hu; exact lay_Method
  · intro k f us hf hu
    have hk : k < 2 := (List.getElem?_eq_some_iff.1 hu).1
    match k, hk, hf, hu with
    | 0, _, hf, hu => obtain rfl := Option.some.inj hf; obtain rfl := Option.some.inj hu; exact ⟨rfl, by kernel_rfl⟩
    | 1, _, hf, hu => obtain rfl := Option.some.inj hf; obtain rfl := Option.some.inj hu; exact ⟨rfl, by kernel_rfl⟩
theorem lays : ∀ i, ok i = true → Lay Try.prog tid ok (tid i) (env i) ∧ Try.prog.cellsOf (tid i) = (env i).length ∧ 0 < (env i).length := by
  intro i h
  unfold ok at h
  split at h
  · exact ⟨lay_str, by kernel_rfl, by decide⟩
  · exact ⟨lay_int, by kernel_rfl, by decide⟩
  · exact ⟨lay_Expr, by kernel_rfl, by decide⟩
  · exact ⟨lay_Method, by kernel_rfl, by decide⟩
  · exact ⟨lay_ClassDef, by kernel_rfl, by decide⟩
  · exact ⟨lay_Unit, by kernel_rfl, by decide⟩
  · cases h
end Go.Proofs.Ytlmhgeanknhcfaa.Data
