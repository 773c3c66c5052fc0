/-
  Two values with equal fields, plain mathematics.
-/
import Derived.Test.YtoaocpfehdcfgaaStoMath
namespace Go.Proofs.Ytoaocpfehdcfgaa.Sto
def sameB (a b : V) : Bool := decide (a.kind = b.kind) && (decide (a.num = b.num) && decide (a.text = b.text))
end Go.Proofs.Ytoaocpfehdcfgaa.Sto
