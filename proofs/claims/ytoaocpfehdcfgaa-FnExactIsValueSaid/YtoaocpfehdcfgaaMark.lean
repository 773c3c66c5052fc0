/-
  laws.markText answers the mark of a positive number, and writes nothing that was there.
-/
import Derived.Test.YtoaocpfehdcfgaaRows
import Derived.Test.YtoaocpfehdcfgaaNum
import Derived.Test.YtoaocpfehdcfgaaKit
import Derived.WalkKit
import Derived.WalkSpells
import Derived.Outline
import Derived.Lib.Hide
namespace Go.Proofs.Ytoaocpfehdcfgaa.Mark
open Go.RowKit
def mark (n : Int) : ByteArray := ⟨(109 :: Num.decN n.natAbs).toArray⟩

end Go.Proofs.Ytoaocpfehdcfgaa.Mark
