/-
  NARROWER THAN 'FOR EVERY INPUT', by the rows' own cells (each row's printed sentence says how): FnExprText: laid · FnUnitText: ifaces, laid · FnExactFormatMethod: loops, ifaces, laid · FnExactFormatUnit: loops, ifaces, laid.
  DERIVED. THE GIVEN ROWS OF THIS SEAT. 4 by the template 'for every input the law returns true; each argument reads behind the call as it read before'; 0 by the template 'total and deterministic' (their statements: YtbigfeblomfflaaGreatDoorTotals.lean).
  GIVEN WITH THE SEED: the statements are not yours to turn. If you find one false, say at which input.
  Laid BY PROGRAM, IN A SANDBOX (cutbox-rows.mjs): the forced cells as the released guide's own fill.sh prints them over the translation eeb19d581a14c0cf… (all of the seat's roots in one cut). By AI agents, Wed Nov 11 2026. No macro, syntax, notation, axiom, sorry.
-/
import Derived.Test.YtbigfeblomfflaaGreatDoorChecked
import GoSem.PinnedTables
import GoSem.Claim
import GoSem.ClaimJoined
import GoSem.ClaimMapViews
import Derived.JoinedTies
import Derived.KernelRfl
namespace Go.Proofs.YtbigfeblomfflaaGreatDoor
/- THE CELL 'sum', in the pinned program and in every row, IS THE sha256 OF THE DUMP (.gsa) THAT YtbigfeblomfflaaGreatDoorProg.lean LOADS. Nothing in Lean hashes anything: it is a label: what it is worth is what the hold of that sum in a sandbox is worth. -/
noncomputable def Tryz.pinned : Pinned := { name := "ytbigfeblomfflaagreatdoor", sum := "eeb19d581a14c0cf84f6ebb576872d349a5557483d1dce4b8f7f178da5499d9e", checked := Tryz.checked }
namespace Rows
def none {H : Type} : Left H := { results := [], args := [] }

/- WHAT THE LISTED PACKAGE-LEVEL VARIABLES READ AS WHEN THE CALL BEGINS. Each datum BY PROGRAM (the guide's laid-datum.mjs) off the statement by which the dump's own 'gosem.cut.vars' lays the variable. In a bare row this is a premise. The card (YtbigfeblomfflaaGreatDoorCards.lean) ties it to the program's text. -/
def laid_unicode_utf8_acceptRanges {H : Type} : DataW H := .agg [.agg [.lit (.int .u8 128), .lit (.int .u8 191)], .agg [.lit (.int .u8 160), .lit (.int .u8 191)], .agg [.lit (.int .u8 128), .lit (.int .u8 159)], .agg [.lit (.int .u8 144), .lit (.int .u8 191)], .agg [.lit (.int .u8 128), .lit (.int .u8 143)], .agg [.lit (.int .u8 0), .lit (.int .u8 0)], .agg [.lit (.int .u8 0), .lit (.int .u8 0)], .agg [.lit (.int .u8 0), .lit (.int .u8 0)], .agg [.lit (.int .u8 0), .lit (.int .u8 0)], .agg [.lit (.int .u8 0), .lit (.int .u8 0)], .agg [.lit (.int .u8 0), .lit (.int .u8 0)], .agg [.lit (.int .u8 0), .lit (.int .u8 0)], .agg [.lit (.int .u8 0), .lit (.int .u8 0)], .agg [.lit (.int .u8 0), .lit (.int .u8 0)], .agg [.lit (.int .u8 0), .lit (.int .u8 0)], .agg [.lit (.int .u8 0), .lit (.int .u8 0)]]
/-- One of Go's own tables, pinned by name: the form's constant. -/
def laid_unicode_utf8_first : DataW Unit := Go.Pinned.utf8First
def laid_loop_example_g03108_impl_errInvalid {H : Type} : DataW H := .iface "*errors.errorString" (.ptr (.agg [.lit (.string [116, 104, 101, 32, 112, 97, 114, 116, 32, 111, 102, 32, 116, 104, 101, 32, 117, 110, 105, 116, 32, 105, 115, 32, 110, 111, 116, 32, 118, 97, 108, 105, 100])]))

/-- 'laws.FnExprText': WHATEVER THE INPUT: true; the input reads as it did. -/
def fnExprTextSpec : ChangeSpec := { name := "fnExprText", fn := fun _ => fun
  | [d] => { results := [.lit (.bool true)], args := [d] }
  | _ => none }
def fnExprTextRow : OpenClaim := { program := "ytbigfeblomfflaagreatdoor", sum := "eeb19d581a14c0cf84f6ebb576872d349a5557483d1dce4b8f7f178da5499d9e", func := "loop.example/g03108/laws.FnExprText", spec := "fnExprText", inPlace := ["internal/bytealg.CountString", "internal/bytealg.IndexByteString", "internal/bytealg.IndexString", "internal/abi.NoEscape", "internal/bytealg.MakeNoZero"], unfollowed := true, recurses := true, named := ["internal/bytealg.MaxLen", "unicode/utf8.first", "unicode/utf8.acceptRanges"], plainKeys := false, apart := false, laid := [("unicode/utf8.acceptRanges", laid_unicode_utf8_acceptRanges), ("unicode/utf8.first", laid_unicode_utf8_first)] }
def FnExprTextSaid : Prop := fnExprTextRow.holds Tryz.pinned (OpenSpec.ofChange fnExprTextSpec)

/-- ITS FALSE NEIGHBOUR: 'it returns false'. Refute it at one input. -/
def fnExprTextWrong : ChangeSpec := { name := "fnExprText", fn := fun _ => fun
  | [d] => { results := [.lit (.bool false)], args := [d] }
  | _ => none }
def FnExprTextWrongFalsely : Prop := fnExprTextRow.holds Tryz.pinned (OpenSpec.ofChange fnExprTextWrong)

/-- 'laws.FnUnitText': WHATEVER THE INPUT: true; the input reads as it did. -/
def fnUnitTextSpec : ChangeSpec := { name := "fnUnitText", vars := ["loop.example/g03108/impl.errInvalid"], fn := fun _ => fun
  | [d, g1] => { results := [.lit (.bool true)], args := [d], vars := [g1] }
  | _ => none }
def fnUnitTextRow : OpenClaim := { program := "ytbigfeblomfflaagreatdoor", sum := "eeb19d581a14c0cf84f6ebb576872d349a5557483d1dce4b8f7f178da5499d9e", func := "loop.example/g03108/laws.FnUnitText", spec := "fnUnitText", inPlace := ["internal/bytealg.CountString", "internal/bytealg.IndexByteString", "internal/bytealg.IndexString", "internal/reflectlite.TypeOf", "internal/abi.NoEscape", "internal/bytealg.MakeNoZero"], unfollowed := true, recurses := true, named := ["loop.example/g03108/impl.errInvalid", "internal/bytealg.MaxLen", "unicode/utf8.first", "unicode/utf8.acceptRanges"], ifaces := true, plainKeys := false, apart := false, laid := [("unicode/utf8.acceptRanges", laid_unicode_utf8_acceptRanges), ("loop.example/g03108/impl.errInvalid", laid_loop_example_g03108_impl_errInvalid), ("unicode/utf8.first", laid_unicode_utf8_first)] }
def FnUnitTextSaid : Prop := fnUnitTextRow.holds Tryz.pinned (OpenSpec.ofChange fnUnitTextSpec)

/-- ITS FALSE NEIGHBOUR: 'it returns false'. Refute it at one input. -/
def fnUnitTextWrong : ChangeSpec := { name := "fnUnitText", vars := ["loop.example/g03108/impl.errInvalid"], fn := fun _ => fun
  | [d, g1] => { results := [.lit (.bool false)], args := [d], vars := [g1] }
  | _ => none }
def FnUnitTextWrongFalsely : Prop := fnUnitTextRow.holds Tryz.pinned (OpenSpec.ofChange fnUnitTextWrong)

/-- 'laws.FnExactFormatMethod': WHATEVER THE INPUT: true; the input reads as it did. -/
def fnExactFormatMethodSpec : ChangeSpec := { name := "fnExactFormatMethod", vars := ["loop.example/g03108/impl.errInvalid"], fn := fun _ => fun
  | [d, g1] => { results := [.lit (.bool true)], args := [d], vars := [g1] }
  | _ => none }
def fnExactFormatMethodRow : OpenClaim := { program := "ytbigfeblomfflaagreatdoor", sum := "eeb19d581a14c0cf84f6ebb576872d349a5557483d1dce4b8f7f178da5499d9e", func := "loop.example/g03108/laws.FnExactFormatMethod", spec := "fnExactFormatMethod", inPlace := ["internal/bytealg.CountString", "internal/bytealg.IndexByteString", "internal/bytealg.IndexString", "internal/reflectlite.TypeOf", "internal/abi.NoEscape", "internal/bytealg.MakeNoZero"], unfollowed := true, recurses := true, named := ["loop.example/g03108/impl.errInvalid", "internal/bytealg.MaxLen", "unicode/utf8.first", "unicode/utf8.acceptRanges"], ifaces := true, loops := true, plainKeys := false, apart := false, laid := [("unicode/utf8.acceptRanges", laid_unicode_utf8_acceptRanges), ("loop.example/g03108/impl.errInvalid", laid_loop_example_g03108_impl_errInvalid), ("unicode/utf8.first", laid_unicode_utf8_first)] }
def FnExactFormatMethodSaid : Prop := fnExactFormatMethodRow.holds Tryz.pinned (OpenSpec.ofChange fnExactFormatMethodSpec)

/-- ITS FALSE NEIGHBOUR: 'it returns false'. Refute it at one input. -/
def fnExactFormatMethodWrong : ChangeSpec := { name := "fnExactFormatMethod", vars := ["loop.example/g03108/impl.errInvalid"], fn := fun _ => fun
  | [d, g1] => { results := [.lit (.bool false)], args := [d], vars := [g1] }
  | _ => none }
def FnExactFormatMethodWrongFalsely : Prop := fnExactFormatMethodRow.holds Tryz.pinned (OpenSpec.ofChange fnExactFormatMethodWrong)

/-- 'laws.FnExactFormatUnit': WHATEVER THE INPUT: true; the input reads as it did. -/
def fnExactFormatUnitSpec : ChangeSpec := { name := "fnExactFormatUnit", vars := ["loop.example/g03108/impl.errInvalid"], fn := fun _ => fun
  | [d, g1] => { results := [.lit (.bool true)], args := [d], vars := [g1] }
  | _ => none }
def fnExactFormatUnitRow : OpenClaim := { program := "ytbigfeblomfflaagreatdoor", sum := "eeb19d581a14c0cf84f6ebb576872d349a5557483d1dce4b8f7f178da5499d9e", func := "loop.example/g03108/laws.FnExactFormatUnit", spec := "fnExactFormatUnit", inPlace := ["internal/bytealg.CountString", "internal/bytealg.IndexByteString", "internal/bytealg.IndexString", "internal/reflectlite.TypeOf", "internal/abi.NoEscape", "internal/bytealg.MakeNoZero"], unfollowed := true, recurses := true, named := ["loop.example/g03108/impl.errInvalid", "internal/bytealg.MaxLen", "unicode/utf8.first", "unicode/utf8.acceptRanges"], ifaces := true, loops := true, plainKeys := false, apart := false, laid := [("unicode/utf8.acceptRanges", laid_unicode_utf8_acceptRanges), ("loop.example/g03108/impl.errInvalid", laid_loop_example_g03108_impl_errInvalid), ("unicode/utf8.first", laid_unicode_utf8_first)] }
def FnExactFormatUnitSaid : Prop := fnExactFormatUnitRow.holds Tryz.pinned (OpenSpec.ofChange fnExactFormatUnitSpec)

/-- ITS FALSE NEIGHBOUR: 'it returns false'. Refute it at one input. -/
def fnExactFormatUnitWrong : ChangeSpec := { name := "fnExactFormatUnit", vars := ["loop.example/g03108/impl.errInvalid"], fn := fun _ => fun
  | [d, g1] => { results := [.lit (.bool false)], args := [d], vars := [g1] }
  | _ => none }
def FnExactFormatUnitWrongFalsely : Prop := fnExactFormatUnitRow.holds Tryz.pinned (OpenSpec.ofChange fnExactFormatUnitWrong)

/- THE SECOND FORM. 'bulk': how many values and letters a reading holds, each counted each time it is reached (what is shared counts as often as it is met; a slice's spare places count too). A statement '..UptoSaid' is the law's where the arguments, and the package variables that the reading takes, are together of bulk at most 1048576: NARROWER than '..Said'. Prove '..Said' where nothing that the law and all that it calls make is longer than what came in: it says more and counts as full. Else prove '..UptoSaid'. A law counts once. -/
mutual
def uptoBulk {H : Type} : DataW H → Nat
  | .lit (.string bytes) => bytes.length + 1
  | .lit _ => 1
  | .nil => 1
  | .ptr d => uptoBulk d + 1
  | .slice elems spare => uptoBulkAll elems + uptoBulkAll spare + 1
  | .agg parts => uptoBulkAll parts + 1
  | .iface _ d => uptoBulk d + 1
  | .map entries => uptoBulkEntries entries + 1
  | .held _ => 1
def uptoBulkAll {H : Type} : List (DataW H) → Nat
  | [] => 0
  | d :: r => uptoBulk d + uptoBulkAll r
def uptoBulkEntries {H : Type} : List (Lit × DataW H) → Nat
  | [] => 0
  | x :: r => uptoBulkEntry x + uptoBulkEntries r
def uptoBulkEntry {H : Type} : Lit × DataW H → Nat
  | (.string bytes, d) => bytes.length + uptoBulk d + 1
  | (_, d) => uptoBulk d + 1
 end
def uptoSmall : (H : Type) → List (DataW H) → Bool := fun _ ds => decide (uptoBulkAll ds ≤ 1048576)
def OpenSpec.upto (s : _root_.Go.ChangeSpec) : _root_.Go.OpenSpec := { _root_.Go.OpenSpec.ofChange s with cond := some uptoSmall }

/-- 'laws.FnExprText', WHERE WHAT IT READS IS OF BULK AT MOST 1048576: true; the input reads as it did. -/
def fnExprTextUptoRow : OpenClaim := { program := "ytbigfeblomfflaagreatdoor", sum := "eeb19d581a14c0cf84f6ebb576872d349a5557483d1dce4b8f7f178da5499d9e", func := "loop.example/g03108/laws.FnExprText", spec := "fnExprText", inPlace := ["internal/bytealg.CountString", "internal/bytealg.IndexByteString", "internal/bytealg.IndexString", "internal/abi.NoEscape", "internal/bytealg.MakeNoZero"], unfollowed := true, recurses := true, named := ["internal/bytealg.MaxLen", "unicode/utf8.first", "unicode/utf8.acceptRanges"], plainKeys := false, apart := false, laid := [("unicode/utf8.acceptRanges", laid_unicode_utf8_acceptRanges), ("unicode/utf8.first", laid_unicode_utf8_first)], narrowed := true }
def FnExprTextUptoSaid : Prop := fnExprTextUptoRow.holds Tryz.pinned (OpenSpec.upto fnExprTextSpec)

/-- 'laws.FnUnitText', WHERE WHAT IT READS IS OF BULK AT MOST 1048576: true; the input reads as it did. -/
def fnUnitTextUptoRow : OpenClaim := { program := "ytbigfeblomfflaagreatdoor", sum := "eeb19d581a14c0cf84f6ebb576872d349a5557483d1dce4b8f7f178da5499d9e", func := "loop.example/g03108/laws.FnUnitText", spec := "fnUnitText", inPlace := ["internal/bytealg.CountString", "internal/bytealg.IndexByteString", "internal/bytealg.IndexString", "internal/reflectlite.TypeOf", "internal/abi.NoEscape", "internal/bytealg.MakeNoZero"], unfollowed := true, recurses := true, named := ["loop.example/g03108/impl.errInvalid", "internal/bytealg.MaxLen", "unicode/utf8.first", "unicode/utf8.acceptRanges"], ifaces := true, plainKeys := false, apart := false, laid := [("unicode/utf8.acceptRanges", laid_unicode_utf8_acceptRanges), ("loop.example/g03108/impl.errInvalid", laid_loop_example_g03108_impl_errInvalid), ("unicode/utf8.first", laid_unicode_utf8_first)], narrowed := true }
def FnUnitTextUptoSaid : Prop := fnUnitTextUptoRow.holds Tryz.pinned (OpenSpec.upto fnUnitTextSpec)

/-- 'laws.FnExactFormatMethod', WHERE WHAT IT READS IS OF BULK AT MOST 1048576: true; the input reads as it did. -/
def fnExactFormatMethodUptoRow : OpenClaim := { program := "ytbigfeblomfflaagreatdoor", sum := "eeb19d581a14c0cf84f6ebb576872d349a5557483d1dce4b8f7f178da5499d9e", func := "loop.example/g03108/laws.FnExactFormatMethod", spec := "fnExactFormatMethod", inPlace := ["internal/bytealg.CountString", "internal/bytealg.IndexByteString", "internal/bytealg.IndexString", "internal/reflectlite.TypeOf", "internal/abi.NoEscape", "internal/bytealg.MakeNoZero"], unfollowed := true, recurses := true, named := ["loop.example/g03108/impl.errInvalid", "internal/bytealg.MaxLen", "unicode/utf8.first", "unicode/utf8.acceptRanges"], ifaces := true, loops := true, plainKeys := false, apart := false, laid := [("unicode/utf8.acceptRanges", laid_unicode_utf8_acceptRanges), ("loop.example/g03108/impl.errInvalid", laid_loop_example_g03108_impl_errInvalid), ("unicode/utf8.first", laid_unicode_utf8_first)], narrowed := true }
def FnExactFormatMethodUptoSaid : Prop := fnExactFormatMethodUptoRow.holds Tryz.pinned (OpenSpec.upto fnExactFormatMethodSpec)

/-- 'laws.FnExactFormatUnit', WHERE WHAT IT READS IS OF BULK AT MOST 1048576: true; the input reads as it did. -/
def fnExactFormatUnitUptoRow : OpenClaim := { program := "ytbigfeblomfflaagreatdoor", sum := "eeb19d581a14c0cf84f6ebb576872d349a5557483d1dce4b8f7f178da5499d9e", func := "loop.example/g03108/laws.FnExactFormatUnit", spec := "fnExactFormatUnit", inPlace := ["internal/bytealg.CountString", "internal/bytealg.IndexByteString", "internal/bytealg.IndexString", "internal/reflectlite.TypeOf", "internal/abi.NoEscape", "internal/bytealg.MakeNoZero"], unfollowed := true, recurses := true, named := ["loop.example/g03108/impl.errInvalid", "internal/bytealg.MaxLen", "unicode/utf8.first", "unicode/utf8.acceptRanges"], ifaces := true, loops := true, plainKeys := false, apart := false, laid := [("unicode/utf8.acceptRanges", laid_unicode_utf8_acceptRanges), ("loop.example/g03108/impl.errInvalid", laid_loop_example_g03108_impl_errInvalid), ("unicode/utf8.first", laid_unicode_utf8_first)], narrowed := true }
def FnExactFormatUnitUptoSaid : Prop := fnExactFormatUnitUptoRow.holds Tryz.pinned (OpenSpec.upto fnExactFormatUnitSpec)

end Rows
end Go.Proofs.YtbigfeblomfflaaGreatDoor
