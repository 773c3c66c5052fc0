/-
  No cell of these rows narrows 'for every input' (looked for: loops, veiled, ifaces, maps, wideKeys, modest, calm, conditions, laid).
  DERIVED. THE GIVEN ROWS OF THIS SEAT. 4 by the template 'for every input the law returns true; each argument reads behind the call as it read before'; 0 by the template 'total and deterministic' (their statements: YtfhjkicfnehjiaaTotals.lean).
  GIVEN WITH THE SEED: the statements are not yours to turn. If you find one false, say at which input.
  Laid BY PROGRAM, IN A SANDBOX (cutbox-rows.mjs): the forced cells as the released guide's own fill.sh prints them over the translation 44cfd2c744d1a4c1… (all of the seat's roots in one cut). By AI agents, Wed Nov 11 2026. No macro, syntax, notation, axiom, sorry.
-/
import Derived.Test.YtfhjkicfnehjiaaChecked
import GoSem.Claim
import GoSem.ClaimJoined
import GoSem.ClaimMapViews
import Derived.JoinedTies
import Derived.KernelRfl
namespace Go.Proofs.Ytfhjkicfnehjiaa
/- THE CELL 'sum', in the pinned program and in every row, IS THE sha256 OF THE DUMP (.gsa) THAT YtfhjkicfnehjiaaProg.lean LOADS. Nothing in Lean hashes anything: it is a label: what it is worth is what the hold of that sum in a sandbox is worth. -/
noncomputable def Try.pinned : Pinned := { name := "ytfhjkicfnehjiaa", sum := "44cfd2c744d1a4c170cf0b60a284489e680ba1c471b17ddbb15450e8d32fbcb0", checked := Try.checked }
namespace Rows
def none {H : Type} : Left H := { results := [], args := [] }

/-- 'laws.FnSelectors': WHATEVER THE INPUT: true; the input reads as it did. -/
def fnSelectorsSpec : ChangeSpec := { name := "fnSelectors", fn := fun _ => fun
  | [d] => { results := [.lit (.bool true)], args := [d] }
  | _ => none }
def fnSelectorsRow : OpenClaim := { program := "ytfhjkicfnehjiaa", sum := "44cfd2c744d1a4c170cf0b60a284489e680ba1c471b17ddbb15450e8d32fbcb0", func := "loop.example/g03108/laws.FnSelectors", spec := "fnSelectors", inPlace := ["internal/bytealg.CountString", "internal/bytealg.IndexByteString", "internal/bytealg.IndexString"], named := ["internal/bytealg.MaxLen"], apart := false }
def FnSelectorsSaid : Prop := fnSelectorsRow.holds Try.pinned (OpenSpec.ofChange fnSelectorsSpec)

/-- ITS FALSE NEIGHBOUR: 'it returns false'. Refute it at one input. -/
def fnSelectorsWrong : ChangeSpec := { name := "fnSelectors", fn := fun _ => fun
  | [d] => { results := [.lit (.bool false)], args := [d] }
  | _ => none }
def FnSelectorsWrongFalsely : Prop := fnSelectorsRow.holds Try.pinned (OpenSpec.ofChange fnSelectorsWrong)

/-- 'laws.FnExactIsSelector': WHATEVER THE INPUT: true; the input reads as it did. -/
def fnExactIsSelectorSpec : ChangeSpec := { name := "fnExactIsSelector", fn := fun _ => fun
  | [d] => { results := [.lit (.bool true)], args := [d] }
  | _ => none }
def fnExactIsSelectorRow : OpenClaim := { program := "ytfhjkicfnehjiaa", sum := "44cfd2c744d1a4c170cf0b60a284489e680ba1c471b17ddbb15450e8d32fbcb0", func := "loop.example/g03108/laws.FnExactIsSelector", spec := "fnExactIsSelector", inPlace := ["internal/bytealg.CountString", "internal/bytealg.IndexByteString", "internal/bytealg.IndexString"], named := ["internal/bytealg.MaxLen"], apart := false }
def FnExactIsSelectorSaid : Prop := fnExactIsSelectorRow.holds Try.pinned (OpenSpec.ofChange fnExactIsSelectorSpec)

/-- ITS FALSE NEIGHBOUR: 'it returns false'. Refute it at one input. -/
def fnExactIsSelectorWrong : ChangeSpec := { name := "fnExactIsSelector", fn := fun _ => fun
  | [d] => { results := [.lit (.bool false)], args := [d] }
  | _ => none }
def FnExactIsSelectorWrongFalsely : Prop := fnExactIsSelectorRow.holds Try.pinned (OpenSpec.ofChange fnExactIsSelectorWrong)

/-- 'laws.FnExactIsName': WHATEVER THE INPUT: true; the input reads as it did. -/
def fnExactIsNameSpec : ChangeSpec := { name := "fnExactIsName", fn := fun _ => fun
  | [d] => { results := [.lit (.bool true)], args := [d] }
  | _ => none }
def fnExactIsNameRow : OpenClaim := { program := "ytfhjkicfnehjiaa", sum := "44cfd2c744d1a4c170cf0b60a284489e680ba1c471b17ddbb15450e8d32fbcb0", func := "loop.example/g03108/laws.FnExactIsName", spec := "fnExactIsName", apart := false }
def FnExactIsNameSaid : Prop := fnExactIsNameRow.holds Try.pinned (OpenSpec.ofChange fnExactIsNameSpec)

/-- ITS FALSE NEIGHBOUR: 'it returns false'. Refute it at one input. -/
def fnExactIsNameWrong : ChangeSpec := { name := "fnExactIsName", fn := fun _ => fun
  | [d] => { results := [.lit (.bool false)], args := [d] }
  | _ => none }
def FnExactIsNameWrongFalsely : Prop := fnExactIsNameRow.holds Try.pinned (OpenSpec.ofChange fnExactIsNameWrong)

/-- 'laws.FnExactCountArgs': WHATEVER THE INPUT: true; the input reads as it did. -/
def fnExactCountArgsSpec : ChangeSpec := { name := "fnExactCountArgs", fn := fun _ => fun
  | [d] => { results := [.lit (.bool true)], args := [d] }
  | _ => none }
def fnExactCountArgsRow : OpenClaim := { program := "ytfhjkicfnehjiaa", sum := "44cfd2c744d1a4c170cf0b60a284489e680ba1c471b17ddbb15450e8d32fbcb0", func := "loop.example/g03108/laws.FnExactCountArgs", spec := "fnExactCountArgs", inPlace := ["internal/bytealg.CountString", "internal/bytealg.IndexByteString", "internal/bytealg.IndexString"], named := ["internal/bytealg.MaxLen"], apart := false }
def FnExactCountArgsSaid : Prop := fnExactCountArgsRow.holds Try.pinned (OpenSpec.ofChange fnExactCountArgsSpec)

/-- ITS FALSE NEIGHBOUR: 'it returns false'. Refute it at one input. -/
def fnExactCountArgsWrong : ChangeSpec := { name := "fnExactCountArgs", fn := fun _ => fun
  | [d] => { results := [.lit (.bool false)], args := [d] }
  | _ => none }
def FnExactCountArgsWrongFalsely : Prop := fnExactCountArgsRow.holds Try.pinned (OpenSpec.ofChange fnExactCountArgsWrong)

/- THE SECOND FORM. 'bulk': how many values and letters a reading holds, each counted each time it is reached (what is shared counts as often as it is met; a slice's spare places count too). A statement '..UptoSaid' is the law's where the arguments, and the package variables that the reading takes, are together of bulk at most 1048576: NARROWER than '..Said'. Prove '..Said' where nothing that the law and all that it calls make is longer than what came in: it says more and counts as full. Else prove '..UptoSaid'. A law counts once. -/
mutual
def uptoBulk {H : Type} : DataW H → Nat
  | .lit (.string bytes) => bytes.length + 1
  | .lit _ => 1
  | .nil => 1
  | .ptr d => uptoBulk d + 1
  | .slice elems spare => uptoBulkAll elems + uptoBulkAll spare + 1
  | .agg parts => uptoBulkAll parts + 1
  | .iface _ d => uptoBulk d + 1
  | .map entries => uptoBulkEntries entries + 1
  | .held _ => 1
def uptoBulkAll {H : Type} : List (DataW H) → Nat
  | [] => 0
  | d :: r => uptoBulk d + uptoBulkAll r
def uptoBulkEntries {H : Type} : List (Lit × DataW H) → Nat
  | [] => 0
  | x :: r => uptoBulkEntry x + uptoBulkEntries r
def uptoBulkEntry {H : Type} : Lit × DataW H → Nat
  | (.string bytes, d) => bytes.length + uptoBulk d + 1
  | (_, d) => uptoBulk d + 1
 end
def uptoSmall : (H : Type) → List (DataW H) → Bool := fun _ ds => decide (uptoBulkAll ds ≤ 1048576)
def OpenSpec.upto (s : _root_.Go.ChangeSpec) : _root_.Go.OpenSpec := { _root_.Go.OpenSpec.ofChange s with cond := some uptoSmall }

/-- 'laws.FnSelectors', WHERE WHAT IT READS IS OF BULK AT MOST 1048576: true; the input reads as it did. -/
def fnSelectorsUptoRow : OpenClaim := { program := "ytfhjkicfnehjiaa", sum := "44cfd2c744d1a4c170cf0b60a284489e680ba1c471b17ddbb15450e8d32fbcb0", func := "loop.example/g03108/laws.FnSelectors", spec := "fnSelectors", inPlace := ["internal/bytealg.CountString", "internal/bytealg.IndexByteString", "internal/bytealg.IndexString"], named := ["internal/bytealg.MaxLen"], apart := false, narrowed := true }
def FnSelectorsUptoSaid : Prop := fnSelectorsUptoRow.holds Try.pinned (OpenSpec.upto fnSelectorsSpec)

/-- 'laws.FnExactIsSelector', WHERE WHAT IT READS IS OF BULK AT MOST 1048576: true; the input reads as it did. -/
def fnExactIsSelectorUptoRow : OpenClaim := { program := "ytfhjkicfnehjiaa", sum := "44cfd2c744d1a4c170cf0b60a284489e680ba1c471b17ddbb15450e8d32fbcb0", func := "loop.example/g03108/laws.FnExactIsSelector", spec := "fnExactIsSelector", inPlace := ["internal/bytealg.CountString", "internal/bytealg.IndexByteString", "internal/bytealg.IndexString"], named := ["internal/bytealg.MaxLen"], apart := false, narrowed := true }
def FnExactIsSelectorUptoSaid : Prop := fnExactIsSelectorUptoRow.holds Try.pinned (OpenSpec.upto fnExactIsSelectorSpec)

/-- 'laws.FnExactIsName', WHERE WHAT IT READS IS OF BULK AT MOST 1048576: true; the input reads as it did. -/
def fnExactIsNameUptoRow : OpenClaim := { program := "ytfhjkicfnehjiaa", sum := "44cfd2c744d1a4c170cf0b60a284489e680ba1c471b17ddbb15450e8d32fbcb0", func := "loop.example/g03108/laws.FnExactIsName", spec := "fnExactIsName", apart := false, narrowed := true }
def FnExactIsNameUptoSaid : Prop := fnExactIsNameUptoRow.holds Try.pinned (OpenSpec.upto fnExactIsNameSpec)

/-- 'laws.FnExactCountArgs', WHERE WHAT IT READS IS OF BULK AT MOST 1048576: true; the input reads as it did. -/
def fnExactCountArgsUptoRow : OpenClaim := { program := "ytfhjkicfnehjiaa", sum := "44cfd2c744d1a4c170cf0b60a284489e680ba1c471b17ddbb15450e8d32fbcb0", func := "loop.example/g03108/laws.FnExactCountArgs", spec := "fnExactCountArgs", inPlace := ["internal/bytealg.CountString", "internal/bytealg.IndexByteString", "internal/bytealg.IndexString"], named := ["internal/bytealg.MaxLen"], apart := false, narrowed := true }
def FnExactCountArgsUptoSaid : Prop := fnExactCountArgsUptoRow.holds Try.pinned (OpenSpec.upto fnExactCountArgsSpec)

end Rows
end Go.Proofs.Ytfhjkicfnehjiaa
