/-
  NARROWER THAN 'FOR EVERY INPUT', by the rows' own cells (each row's printed sentence says how): FnExactSizeOfExpr: loops · FnExactDepthOfExpr: loops · FnExactEqualExprs: loops · FnExactIsExpr: loops.
  DERIVED. THE GIVEN ROWS OF THIS SEAT. 4 by the template 'for every input the law returns true; each argument reads behind the call as it read before'; 0 by the template 'total and deterministic' (their statements: YtikeokfdiikomaaTotals.lean).
  GIVEN WITH THE SEED: the statements are not yours to turn. If you find one false, say at which input.
  Laid BY PROGRAM, IN A SANDBOX (cutbox-rows.mjs): the forced cells as the released guide's own fill.sh prints them over the translation 375736c6fd2ec251… (all of the seat's roots in one cut). By AI agents, Wed Nov 11 2026. No macro, syntax, notation, axiom, sorry.
-/
import Derived.Test.YtikeokfdiikomaaChecked
import GoSem.Claim
import GoSem.ClaimJoined
import GoSem.ClaimMapViews
import Derived.JoinedTies
import Derived.KernelRfl
namespace Go.Proofs.Ytikeokfdiikomaa
/- THE CELL 'sum', in the pinned program and in every row, IS THE sha256 OF THE DUMP (.gsa) THAT YtikeokfdiikomaaProg.lean LOADS. Nothing in Lean hashes anything: it is a label: what it is worth is what the hold of that sum in a sandbox is worth. -/
noncomputable def Try.pinned : Pinned := { name := "ytikeokfdiikomaa", sum := "375736c6fd2ec251bfe4e6138de66e30707bc53739a09d8aac98ff4e65f4e0bf", checked := Try.checked }
namespace Rows
def none {H : Type} : Left H := { results := [], args := [] }

/-- 'laws.FnExactSizeOfExpr': WHATEVER THE INPUT: true; the input reads as it did. -/
def fnExactSizeOfExprSpec : ChangeSpec := { name := "fnExactSizeOfExpr", fn := fun _ => fun
  | [d] => { results := [.lit (.bool true)], args := [d] }
  | _ => none }
def fnExactSizeOfExprRow : OpenClaim := { program := "ytikeokfdiikomaa", sum := "375736c6fd2ec251bfe4e6138de66e30707bc53739a09d8aac98ff4e65f4e0bf", func := "loop.example/g03108/laws.FnExactSizeOfExpr", spec := "fnExactSizeOfExpr", recurses := true, loops := true, plainKeys := false, apart := false }
def FnExactSizeOfExprSaid : Prop := fnExactSizeOfExprRow.holds Try.pinned (OpenSpec.ofChange fnExactSizeOfExprSpec)

/-- ITS FALSE NEIGHBOUR: 'it returns false'. Refute it at one input. -/
def fnExactSizeOfExprWrong : ChangeSpec := { name := "fnExactSizeOfExpr", fn := fun _ => fun
  | [d] => { results := [.lit (.bool false)], args := [d] }
  | _ => none }
def FnExactSizeOfExprWrongFalsely : Prop := fnExactSizeOfExprRow.holds Try.pinned (OpenSpec.ofChange fnExactSizeOfExprWrong)

/-- 'laws.FnExactDepthOfExpr': WHATEVER THE INPUT: true; the input reads as it did. -/
def fnExactDepthOfExprSpec : ChangeSpec := { name := "fnExactDepthOfExpr", fn := fun _ => fun
  | [d] => { results := [.lit (.bool true)], args := [d] }
  | _ => none }
def fnExactDepthOfExprRow : OpenClaim := { program := "ytikeokfdiikomaa", sum := "375736c6fd2ec251bfe4e6138de66e30707bc53739a09d8aac98ff4e65f4e0bf", func := "loop.example/g03108/laws.FnExactDepthOfExpr", spec := "fnExactDepthOfExpr", recurses := true, loops := true, plainKeys := false, apart := false }
def FnExactDepthOfExprSaid : Prop := fnExactDepthOfExprRow.holds Try.pinned (OpenSpec.ofChange fnExactDepthOfExprSpec)

/-- ITS FALSE NEIGHBOUR: 'it returns false'. Refute it at one input. -/
def fnExactDepthOfExprWrong : ChangeSpec := { name := "fnExactDepthOfExpr", fn := fun _ => fun
  | [d] => { results := [.lit (.bool false)], args := [d] }
  | _ => none }
def FnExactDepthOfExprWrongFalsely : Prop := fnExactDepthOfExprRow.holds Try.pinned (OpenSpec.ofChange fnExactDepthOfExprWrong)

/-- 'laws.FnExactEqualExprs': WHATEVER THE INPUT: true; the input reads as it did. -/
def fnExactEqualExprsSpec : ChangeSpec := { name := "fnExactEqualExprs", fn := fun _ => fun
  | [d1, d2] => { results := [.lit (.bool true)], args := [d1, d2] }
  | _ => none }
def fnExactEqualExprsRow : OpenClaim := { program := "ytikeokfdiikomaa", sum := "375736c6fd2ec251bfe4e6138de66e30707bc53739a09d8aac98ff4e65f4e0bf", func := "loop.example/g03108/laws.FnExactEqualExprs", spec := "fnExactEqualExprs", recurses := true, loops := true, plainKeys := false, apart := false }
def FnExactEqualExprsSaid : Prop := fnExactEqualExprsRow.holds Try.pinned (OpenSpec.ofChange fnExactEqualExprsSpec)

/-- ITS FALSE NEIGHBOUR: 'it returns false'. Refute it at one input. -/
def fnExactEqualExprsWrong : ChangeSpec := { name := "fnExactEqualExprs", fn := fun _ => fun
  | [d1, d2] => { results := [.lit (.bool false)], args := [d1, d2] }
  | _ => none }
def FnExactEqualExprsWrongFalsely : Prop := fnExactEqualExprsRow.holds Try.pinned (OpenSpec.ofChange fnExactEqualExprsWrong)

/-- 'laws.FnExactIsExpr': WHATEVER THE INPUT: true; the input reads as it did. -/
def fnExactIsExprSpec : ChangeSpec := { name := "fnExactIsExpr", fn := fun _ => fun
  | [d] => { results := [.lit (.bool true)], args := [d] }
  | _ => none }
def fnExactIsExprRow : OpenClaim := { program := "ytikeokfdiikomaa", sum := "375736c6fd2ec251bfe4e6138de66e30707bc53739a09d8aac98ff4e65f4e0bf", func := "loop.example/g03108/laws.FnExactIsExpr", spec := "fnExactIsExpr", inPlace := ["internal/bytealg.CountString", "internal/bytealg.IndexByteString", "internal/bytealg.IndexString"], recurses := true, named := ["internal/bytealg.MaxLen"], loops := true, plainKeys := false, apart := false }
def FnExactIsExprSaid : Prop := fnExactIsExprRow.holds Try.pinned (OpenSpec.ofChange fnExactIsExprSpec)

/-- ITS FALSE NEIGHBOUR: 'it returns false'. Refute it at one input. -/
def fnExactIsExprWrong : ChangeSpec := { name := "fnExactIsExpr", fn := fun _ => fun
  | [d] => { results := [.lit (.bool false)], args := [d] }
  | _ => none }
def FnExactIsExprWrongFalsely : Prop := fnExactIsExprRow.holds Try.pinned (OpenSpec.ofChange fnExactIsExprWrong)

/- THE SECOND FORM. 'bulk': how many values and letters a reading holds, each counted each time it is reached (what is shared counts as often as it is met; a slice's spare places count too). A statement '..UptoSaid' is the law's where the arguments, and the package variables that the reading takes, are together of bulk at most 1048576: NARROWER than '..Said'. Prove '..Said' where nothing that the law and all that it calls make is longer than what came in: it says more and counts as full. Else prove '..UptoSaid'. A law counts once. -/
mutual
def uptoBulk {H : Type} : DataW H → Nat
  | .lit (.string bytes) => bytes.length + 1
  | .lit _ => 1
  | .nil => 1
  | .ptr d => uptoBulk d + 1
  | .slice elems spare => uptoBulkAll elems + uptoBulkAll spare + 1
  | .agg parts => uptoBulkAll parts + 1
  | .iface _ d => uptoBulk d + 1
  | .map entries => uptoBulkEntries entries + 1
  | .held _ => 1
def uptoBulkAll {H : Type} : List (DataW H) → Nat
  | [] => 0
  | d :: r => uptoBulk d + uptoBulkAll r
def uptoBulkEntries {H : Type} : List (Lit × DataW H) → Nat
  | [] => 0
  | x :: r => uptoBulkEntry x + uptoBulkEntries r
def uptoBulkEntry {H : Type} : Lit × DataW H → Nat
  | (.string bytes, d) => bytes.length + uptoBulk d + 1
  | (_, d) => uptoBulk d + 1
 end
def uptoSmall : (H : Type) → List (DataW H) → Bool := fun _ ds => decide (uptoBulkAll ds ≤ 1048576)
def OpenSpec.upto (s : _root_.Go.ChangeSpec) : _root_.Go.OpenSpec := { _root_.Go.OpenSpec.ofChange s with cond := some uptoSmall }

/-- 'laws.FnExactSizeOfExpr', WHERE WHAT IT READS IS OF BULK AT MOST 1048576: true; the input reads as it did. -/
def fnExactSizeOfExprUptoRow : OpenClaim := { program := "ytikeokfdiikomaa", sum := "375736c6fd2ec251bfe4e6138de66e30707bc53739a09d8aac98ff4e65f4e0bf", func := "loop.example/g03108/laws.FnExactSizeOfExpr", spec := "fnExactSizeOfExpr", recurses := true, loops := true, plainKeys := false, apart := false, narrowed := true }
def FnExactSizeOfExprUptoSaid : Prop := fnExactSizeOfExprUptoRow.holds Try.pinned (OpenSpec.upto fnExactSizeOfExprSpec)

/-- 'laws.FnExactDepthOfExpr', WHERE WHAT IT READS IS OF BULK AT MOST 1048576: true; the input reads as it did. -/
def fnExactDepthOfExprUptoRow : OpenClaim := { program := "ytikeokfdiikomaa", sum := "375736c6fd2ec251bfe4e6138de66e30707bc53739a09d8aac98ff4e65f4e0bf", func := "loop.example/g03108/laws.FnExactDepthOfExpr", spec := "fnExactDepthOfExpr", recurses := true, loops := true, plainKeys := false, apart := false, narrowed := true }
def FnExactDepthOfExprUptoSaid : Prop := fnExactDepthOfExprUptoRow.holds Try.pinned (OpenSpec.upto fnExactDepthOfExprSpec)

/-- 'laws.FnExactEqualExprs', WHERE WHAT IT READS IS OF BULK AT MOST 1048576: true; the input reads as it did. -/
def fnExactEqualExprsUptoRow : OpenClaim := { program := "ytikeokfdiikomaa", sum := "375736c6fd2ec251bfe4e6138de66e30707bc53739a09d8aac98ff4e65f4e0bf", func := "loop.example/g03108/laws.FnExactEqualExprs", spec := "fnExactEqualExprs", recurses := true, loops := true, plainKeys := false, apart := false, narrowed := true }
def FnExactEqualExprsUptoSaid : Prop := fnExactEqualExprsUptoRow.holds Try.pinned (OpenSpec.upto fnExactEqualExprsSpec)

/-- 'laws.FnExactIsExpr', WHERE WHAT IT READS IS OF BULK AT MOST 1048576: true; the input reads as it did. -/
def fnExactIsExprUptoRow : OpenClaim := { program := "ytikeokfdiikomaa", sum := "375736c6fd2ec251bfe4e6138de66e30707bc53739a09d8aac98ff4e65f4e0bf", func := "loop.example/g03108/laws.FnExactIsExpr", spec := "fnExactIsExpr", inPlace := ["internal/bytealg.CountString", "internal/bytealg.IndexByteString", "internal/bytealg.IndexString"], recurses := true, named := ["internal/bytealg.MaxLen"], loops := true, plainKeys := false, apart := false, narrowed := true }
def FnExactIsExprUptoSaid : Prop := fnExactIsExprUptoRow.holds Try.pinned (OpenSpec.upto fnExactIsExprSpec)

end Rows
end Go.Proofs.Ytikeokfdiikomaa
