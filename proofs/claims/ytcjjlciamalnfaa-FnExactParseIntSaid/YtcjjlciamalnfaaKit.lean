/-
  Small laws over this program that several walks use: one byte as a string, two strings joined. They hold in every world.
-/
import Derived.Test.YtcjjlciamalnfaaRows
import Derived.WalkKit
import Derived.WalkSpells
import Derived.Lib.Hide
import Derived.Laws.BytesArg
namespace Go.Proofs.Ytcjjlciamalnfaa.Kit
open Go.RowKit

/-- string([]byte{c}), the slice in the newest block. -/
theorem conv1 (w : World) (c : Int) :
    (convert 22 9 (.slice (some ⟨w.heap.size, 0, none⟩) 1 1)).run Try.prog (w.alloc (.cells #[.int .u8 c] 5)) =
      .ok (.string ⟨[UInt8.ofNat c.toNat].toArray⟩) (w.alloc (.cells #[.int .u8 c] 5)) := by
  have h := run_convert_bytes_arg (P := Try.prog) (w.alloc (.cells #[.int .u8 c] 5)) 22 5 Try.underlying22 Try.underlying5 w.heap.size 0 1 1 [c] rfl
    (fun i hi => by
      have : i = 0 := by omega
      subst this
      simp) 9 Try.underlying9
  simpa [strOfNums] using h

theorem add_l (w : World) (a b : List UInt8) (h : a.length + b.length ≤ 9223372036854775807) :
    (Op.stringOp .add ⟨a.toArray⟩ ⟨b.toArray⟩).run Try.prog w = .ok (.string ⟨(a ++ b).toArray⟩) w := by
  rw [run_string_add_sum w _ _ (by simpa [ByteArray.size] using h), ByteArray.mk_append_mk]

/-- string(b), b a row of the call's own that holds the bytes l. -/
theorem conv_own (w : World) (base g c cap : Nat) (l : List UInt8) (hl : l.length = c) (h : w.ownsRow base 5 1 (.slice (some ⟨g, 0, none⟩) c cap) c (l.map (fun b => Value.int .u8 b.toNat))) :
    (convert 22 9 (.slice (some ⟨g, 0, none⟩) c cap)).run Try.prog w = .ok (.string ⟨l.toArray⟩) w := by
  subst hl
  refine run_convert_bytes_back w 22 9 5 ⟨g, 0, none⟩ cap l Try.underlying22 Try.underlying5 Try.underlying9 (fun j hj => ?_)
  have := h.cellAt j (by omega)
  have e : (⟨g, 0, none⟩ : Addr).add j = ⟨g, j, none⟩ := by unfold Addr.add; split <;> simp_all
  rw [e]
  simpa [hj] using this
end Go.Proofs.Ytcjjlciamalnfaa.Kit
