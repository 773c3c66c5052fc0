/-
  The map from pointers to nodes to extents: its laws in every world that has kept the nodes.
-/
import Derived.Test.YtlmhgeanknhcfaaSoft
import Derived.Test.YtlmhgeanknhcfaaDfs
namespace Go.Proofs.Ytlmhgeanknhcfaa.PtrMap
open Go.RowKit
open Strs Tree PMap Soft

/-- A pointer as a key. -/
def encP (a : Addr) : Value := .pointer (some a)
theorem infoE : (Try.prog.info? 47).map (fun i => i.size) = some 5 := by kernel_rfl
end Go.Proofs.Ytlmhgeanknhcfaa.PtrMap
