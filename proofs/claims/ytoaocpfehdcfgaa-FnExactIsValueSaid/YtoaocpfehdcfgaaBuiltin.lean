/-
  impl's and spec's BuiltinClasses answer the sixteen names, in a row of their own.
-/
import Derived.Test.YtoaocpfehdcfgaaAt
import Derived.Test.YtoaocpfehdcfgaaKit
import Derived.WalkKit
import Derived.WalkSmall
import Derived.Lib.Hide
namespace Go.Proofs.Ytoaocpfehdcfgaa.Builtin
open Go.RowKit
open Strs

/-- The names of the built-in classes. -/
def names : List ByteArray := [⟨#[79, 98, 106, 101, 99, 116]⟩,
  ⟨#[69, 120, 99, 101, 112, 116, 105, 111, 110]⟩,
  ⟨#[69, 114, 114, 111, 114]⟩,
  ⟨#[77, 101, 115, 115, 97, 103, 101, 78, 111, 116, 85, 110, 100, 101, 114, 115, 116, 111, 111, 100]⟩,
  ⟨#[90, 101, 114, 111, 68, 105, 118, 105, 100, 101]⟩,
  ⟨#[73, 110, 116, 101, 103, 101, 114]⟩,
  ⟨#[66, 111, 111, 108, 101, 97, 110]⟩,
  ⟨#[78, 105, 108]⟩,
  ⟨#[83, 116, 114, 105, 110, 103]⟩,
  ⟨#[83, 121, 109, 98, 111, 108]⟩,
  ⟨#[65, 114, 114, 97, 121]⟩,
  ⟨#[66, 108, 111, 99, 107]⟩,
  ⟨#[83, 101, 109, 97, 112, 104, 111, 114, 101]⟩,
  ⟨#[80, 114, 111, 99, 101, 115, 115]⟩,
  ⟨#[84, 114, 97, 110, 115, 99, 114, 105, 112, 116]⟩,
  ⟨#[67, 108, 97, 115, 115]⟩]

end Go.Proofs.Ytoaocpfehdcfgaa.Builtin
