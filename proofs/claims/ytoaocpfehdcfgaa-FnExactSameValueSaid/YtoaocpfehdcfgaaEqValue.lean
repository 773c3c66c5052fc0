/-
  laws.eqValue and eqValueS: two values that read alike are equal, and nothing that was there is written.
-/
import Derived.Test.YtoaocpfehdcfgaaDataStr
import Derived.Test.YtoaocpfehdcfgaaDataBox
namespace Go.Proofs.Ytoaocpfehdcfgaa.Data
open Go.RowKit
open Strs Tree Texts


end Go.Proofs.Ytoaocpfehdcfgaa.Data
