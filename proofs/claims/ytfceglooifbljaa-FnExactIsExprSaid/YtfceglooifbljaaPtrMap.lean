/-
  The map from pointers to nodes to extents: its laws in every world that has kept the nodes.
-/
import Derived.Test.YtfceglooifbljaaSoft
import Derived.Test.YtfceglooifbljaaDfs
namespace Go.Proofs.Ytfceglooifbljaa.PtrMap
open Go.RowKit
open Strs Tree PMap Soft

/-- A pointer as a key. -/
def encP (a : Addr) : Value := .pointer (some a)
theorem infoE : (Try.prog.info? 30).map (fun i => i.size) = some 5 := by kernel_rfl
theorem zeroX (w : World) : (zeroValue 42).run Try.prog w = .ok (.agg #[.int .i64 0, .int .i64 0]) w := by kernel_rfl
theorem law {w0 w : World} (hb : Below w0.heap.size w0 w) : Law Try.prog encP (Fine w0) 49 48 42 (.agg #[.int .i64 0, .int .i64 0]) w := by
  refine ⟨Try.underlying49, ⟨_, Try.underlying48, fun a b => rfl⟩, fun em k _ => ?_, fun k k' hk hk' => ?_, fun k _ => ?_, zeroX w⟩
  · show (Instr.checkKey em (9999 + 1) 48 (.pointer (some k))).run Try.prog w = _
    unfold Instr.checkKey
    simp only [Sem.run_bind, run_underlying Try.underlying48, Result.andThen]
    rfl
  · obtain ⟨i, hi, hz⟩ := Option.map_eq_some_iff.1 infoE
    exact equal_ptr Try.underlying48 hi (by rw [hz]; decide) (hk.keep hb) (hk'.keep hb) 9999
  · have h : Instr.sameBits 10000 (encP k) (encP k) = true := by
      show (some k == some k) = true
      simp
    simp only [Instr.keyThatStays, h, if_true]
    rfl
end Go.Proofs.Ytfceglooifbljaa.PtrMap
