/-
  NARROWER THAN 'FOR EVERY INPUT', by the rows' own cells (each row's printed sentence says how): FnUnitText: ifaces, laid · FnExactCheckUnit: loops, ifaces, laid.
  DERIVED. THE GIVEN ROWS OF THIS SEAT. 2 by the template 'for every input the law returns true; each argument reads behind the call as it read before'; 0 by the template 'total and deterministic' (their statements: YtnlgdkfenipmfaaGreatDoorTotals.lean).
  GIVEN WITH THE SEED: the statements are not yours to turn. If you find one false, say at which input.
  Laid BY PROGRAM, IN A SANDBOX (cutbox-rows.mjs): the forced cells as the released guide's own fill.sh prints them over the translation 03a44df3a3c9c598… (all of the seat's roots in one cut). By AI agents, Wed Nov 11 2026. No macro, syntax, notation, axiom, sorry.
-/
import Derived.Test.YtnlgdkfenipmfaaGreatDoorChecked
import GoSem.PinnedTables
import GoSem.Claim
import GoSem.ClaimJoined
import GoSem.ClaimMapViews
import Derived.JoinedTies
import Derived.KernelRfl
namespace Go.Proofs.YtnlgdkfenipmfaaGreatDoor
/- THE CELL 'sum', in the pinned program and in every row, IS THE sha256 OF THE DUMP (.gsa) THAT YtnlgdkfenipmfaaGreatDoorProg.lean LOADS. Nothing in Lean hashes anything: it is a label: what it is worth is what the hold of that sum in a sandbox is worth. -/
noncomputable def Tryz.pinned : Pinned := { name := "ytnlgdkfenipmfaagreatdoor", sum := "03a44df3a3c9c5983995f42d2e77b9a96f2f92c6f6a399b060428b34dc463631", checked := Tryz.checked }
namespace Rows
def none {H : Type} : Left H := { results := [], args := [] }

/- WHAT THE LISTED PACKAGE-LEVEL VARIABLES READ AS WHEN THE CALL BEGINS. Each datum BY PROGRAM (the guide's laid-datum.mjs) off the statement by which the dump's own 'gosem.cut.vars' lays the variable. In a bare row this is a premise. The card (YtnlgdkfenipmfaaGreatDoorCards.lean) ties it to the program's text. -/
def laid_unicode_utf8_acceptRanges {H : Type} : DataW H := .agg [.agg [.lit (.int .u8 128), .lit (.int .u8 191)], .agg [.lit (.int .u8 160), .lit (.int .u8 191)], .agg [.lit (.int .u8 128), .lit (.int .u8 159)], .agg [.lit (.int .u8 144), .lit (.int .u8 191)], .agg [.lit (.int .u8 128), .lit (.int .u8 143)], .agg [.lit (.int .u8 0), .lit (.int .u8 0)], .agg [.lit (.int .u8 0), .lit (.int .u8 0)], .agg [.lit (.int .u8 0), .lit (.int .u8 0)], .agg [.lit (.int .u8 0), .lit (.int .u8 0)], .agg [.lit (.int .u8 0), .lit (.int .u8 0)], .agg [.lit (.int .u8 0), .lit (.int .u8 0)], .agg [.lit (.int .u8 0), .lit (.int .u8 0)], .agg [.lit (.int .u8 0), .lit (.int .u8 0)], .agg [.lit (.int .u8 0), .lit (.int .u8 0)], .agg [.lit (.int .u8 0), .lit (.int .u8 0)], .agg [.lit (.int .u8 0), .lit (.int .u8 0)]]
def laid_loop_example_g03108_impl_errInvalid {H : Type} : DataW H := .iface "*errors.errorString" (.ptr (.agg [.lit (.string [116, 104, 101, 32, 112, 97, 114, 116, 32, 111, 102, 32, 116, 104, 101, 32, 117, 110, 105, 116, 32, 105, 115, 32, 110, 111, 116, 32, 118, 97, 108, 105, 100])]))
/-- One of Go's own tables, pinned by name: the form's constant. -/
def laid_unicode_utf8_first : DataW Unit := Go.Pinned.utf8First

/-- 'laws.FnUnitText': WHATEVER THE INPUT: true; the input reads as it did. -/
def fnUnitTextSpec : ChangeSpec := { name := "fnUnitText", vars := ["loop.example/g03108/impl.errInvalid"], fn := fun _ => fun
  | [d, g1] => { results := [.lit (.bool true)], args := [d], vars := [g1] }
  | _ => none }
def fnUnitTextRow : OpenClaim := { program := "ytnlgdkfenipmfaagreatdoor", sum := "03a44df3a3c9c5983995f42d2e77b9a96f2f92c6f6a399b060428b34dc463631", func := "loop.example/g03108/laws.FnUnitText", spec := "fnUnitText", inPlace := ["internal/bytealg.CountString", "internal/bytealg.IndexByteString", "internal/bytealg.IndexString", "internal/reflectlite.TypeOf", "internal/abi.NoEscape", "internal/bytealg.MakeNoZero"], unfollowed := true, recurses := true, named := ["loop.example/g03108/impl.errInvalid", "internal/bytealg.MaxLen", "unicode/utf8.first", "unicode/utf8.acceptRanges"], ifaces := true, plainKeys := false, apart := false, laid := [("unicode/utf8.acceptRanges", laid_unicode_utf8_acceptRanges), ("loop.example/g03108/impl.errInvalid", laid_loop_example_g03108_impl_errInvalid), ("unicode/utf8.first", laid_unicode_utf8_first)] }
def FnUnitTextSaid : Prop := fnUnitTextRow.holds Tryz.pinned (OpenSpec.ofChange fnUnitTextSpec)

/-- ITS FALSE NEIGHBOUR: 'it returns false'. Refute it at one input. -/
def fnUnitTextWrong : ChangeSpec := { name := "fnUnitText", vars := ["loop.example/g03108/impl.errInvalid"], fn := fun _ => fun
  | [d, g1] => { results := [.lit (.bool false)], args := [d], vars := [g1] }
  | _ => none }
def FnUnitTextWrongFalsely : Prop := fnUnitTextRow.holds Tryz.pinned (OpenSpec.ofChange fnUnitTextWrong)

/-- 'laws.FnExactCheckUnit': WHATEVER THE INPUT: true; the input reads as it did. -/
def fnExactCheckUnitSpec : ChangeSpec := { name := "fnExactCheckUnit", vars := ["loop.example/g03108/impl.errInvalid"], fn := fun _ => fun
  | [d, g1] => { results := [.lit (.bool true)], args := [d], vars := [g1] }
  | _ => none }
def fnExactCheckUnitRow : OpenClaim := { program := "ytnlgdkfenipmfaagreatdoor", sum := "03a44df3a3c9c5983995f42d2e77b9a96f2f92c6f6a399b060428b34dc463631", func := "loop.example/g03108/laws.FnExactCheckUnit", spec := "fnExactCheckUnit", inPlace := ["internal/bytealg.CountString", "internal/bytealg.IndexByteString", "internal/bytealg.IndexString", "internal/reflectlite.TypeOf", "maps.clone"], unfollowed := true, recurses := true, named := ["loop.example/g03108/impl.errInvalid", "internal/bytealg.MaxLen"], ifaces := true, loops := true, plainKeys := false, apart := false, laid := [("loop.example/g03108/impl.errInvalid", laid_loop_example_g03108_impl_errInvalid)] }
def FnExactCheckUnitSaid : Prop := fnExactCheckUnitRow.holds Tryz.pinned (OpenSpec.ofChange fnExactCheckUnitSpec)

/-- ITS FALSE NEIGHBOUR: 'it returns false'. Refute it at one input. -/
def fnExactCheckUnitWrong : ChangeSpec := { name := "fnExactCheckUnit", vars := ["loop.example/g03108/impl.errInvalid"], fn := fun _ => fun
  | [d, g1] => { results := [.lit (.bool false)], args := [d], vars := [g1] }
  | _ => none }
def FnExactCheckUnitWrongFalsely : Prop := fnExactCheckUnitRow.holds Tryz.pinned (OpenSpec.ofChange fnExactCheckUnitWrong)

/- THE SECOND FORM. 'bulk': how many values and letters a reading holds, each counted each time it is reached (what is shared counts as often as it is met; a slice's spare places count too). A statement '..UptoSaid' is the law's where the arguments, and the package variables that the reading takes, are together of bulk at most 1048576: NARROWER than '..Said'. Prove '..Said' where nothing that the law and all that it calls make is longer than what came in: it says more and counts as full. Else prove '..UptoSaid'. A law counts once. -/
mutual
def uptoBulk {H : Type} : DataW H → Nat
  | .lit (.string bytes) => bytes.length + 1
  | .lit _ => 1
  | .nil => 1
  | .ptr d => uptoBulk d + 1
  | .slice elems spare => uptoBulkAll elems + uptoBulkAll spare + 1
  | .agg parts => uptoBulkAll parts + 1
  | .iface _ d => uptoBulk d + 1
  | .map entries => uptoBulkEntries entries + 1
  | .held _ => 1
def uptoBulkAll {H : Type} : List (DataW H) → Nat
  | [] => 0
  | d :: r => uptoBulk d + uptoBulkAll r
def uptoBulkEntries {H : Type} : List (Lit × DataW H) → Nat
  | [] => 0
  | x :: r => uptoBulkEntry x + uptoBulkEntries r
def uptoBulkEntry {H : Type} : Lit × DataW H → Nat
  | (.string bytes, d) => bytes.length + uptoBulk d + 1
  | (_, d) => uptoBulk d + 1
 end
def uptoSmall : (H : Type) → List (DataW H) → Bool := fun _ ds => decide (uptoBulkAll ds ≤ 1048576)
def OpenSpec.upto (s : _root_.Go.ChangeSpec) : _root_.Go.OpenSpec := { _root_.Go.OpenSpec.ofChange s with cond := some uptoSmall }

/-- 'laws.FnUnitText', WHERE WHAT IT READS IS OF BULK AT MOST 1048576: true; the input reads as it did. -/
def fnUnitTextUptoRow : OpenClaim := { program := "ytnlgdkfenipmfaagreatdoor", sum := "03a44df3a3c9c5983995f42d2e77b9a96f2f92c6f6a399b060428b34dc463631", func := "loop.example/g03108/laws.FnUnitText", spec := "fnUnitText", inPlace := ["internal/bytealg.CountString", "internal/bytealg.IndexByteString", "internal/bytealg.IndexString", "internal/reflectlite.TypeOf", "internal/abi.NoEscape", "internal/bytealg.MakeNoZero"], unfollowed := true, recurses := true, named := ["loop.example/g03108/impl.errInvalid", "internal/bytealg.MaxLen", "unicode/utf8.first", "unicode/utf8.acceptRanges"], ifaces := true, plainKeys := false, apart := false, laid := [("unicode/utf8.acceptRanges", laid_unicode_utf8_acceptRanges), ("loop.example/g03108/impl.errInvalid", laid_loop_example_g03108_impl_errInvalid), ("unicode/utf8.first", laid_unicode_utf8_first)], narrowed := true }
def FnUnitTextUptoSaid : Prop := fnUnitTextUptoRow.holds Tryz.pinned (OpenSpec.upto fnUnitTextSpec)

/-- 'laws.FnExactCheckUnit', WHERE WHAT IT READS IS OF BULK AT MOST 1048576: true; the input reads as it did. -/
def fnExactCheckUnitUptoRow : OpenClaim := { program := "ytnlgdkfenipmfaagreatdoor", sum := "03a44df3a3c9c5983995f42d2e77b9a96f2f92c6f6a399b060428b34dc463631", func := "loop.example/g03108/laws.FnExactCheckUnit", spec := "fnExactCheckUnit", inPlace := ["internal/bytealg.CountString", "internal/bytealg.IndexByteString", "internal/bytealg.IndexString", "internal/reflectlite.TypeOf", "maps.clone"], unfollowed := true, recurses := true, named := ["loop.example/g03108/impl.errInvalid", "internal/bytealg.MaxLen"], ifaces := true, loops := true, plainKeys := false, apart := false, laid := [("loop.example/g03108/impl.errInvalid", laid_loop_example_g03108_impl_errInvalid)], narrowed := true }
def FnExactCheckUnitUptoSaid : Prop := fnExactCheckUnitUptoRow.holds Tryz.pinned (OpenSpec.upto fnExactCheckUnitSpec)

end Rows
end Go.Proofs.YtnlgdkfenipmfaaGreatDoor
