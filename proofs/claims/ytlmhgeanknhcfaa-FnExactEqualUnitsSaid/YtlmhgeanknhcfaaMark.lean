/-
  laws.markText answers the mark of a positive number, and writes nothing that was there.
-/
import Derived.Test.YtlmhgeanknhcfaaRows
import Derived.Test.YtlmhgeanknhcfaaNum
import Derived.Test.YtlmhgeanknhcfaaKit
import Derived.WalkKit
import Derived.WalkSpells
import Derived.Outline
import Derived.Lib.Hide
namespace Go.Proofs.Ytlmhgeanknhcfaa.Mark
open Go.RowKit
def mark (n : Int) : ByteArray := ⟨(109 :: Num.decN n.natAbs).toArray⟩

end Go.Proofs.Ytlmhgeanknhcfaa.Mark
