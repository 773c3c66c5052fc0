/-
  The walk of laws.FnExactIsSelector: it returns true at every text.
-/
import Derived.Test.YtfhjkicfnehjiaaSpecSel
import Derived.Test.YtfhjkicfnehjiaaImplCount
import Derived.OpenShut
namespace Go.Proofs.Ytfhjkicfnehjiaa.fnExactIsSelectorW
open Go.RowKit
open Strs

set_option maxHeartbeats 1000000 in
theorem walk (s : ByteArray) (hm : s.size ≤ maxLen) (w : World) :
    Calls Try.prog 4 #[.string s] w fun e w' => e = .returned (.bool true) ∧ Below w.heap.size w w' := by
  unfold maxLen at hm
  by_cases hbig : (1048576 : Int) < (s.size : Int)
  · go_enter Try.func4, Try.ntmps4
    go_wp2_with fail
    go_ret
    exact ⟨rfl, Below.refl _ _⟩
  · have hs : s.size ≤ 1048576 := by omega
    have HS := fun w => Lib.hid (SpecSel.sel_any s w hs)
    have HI := fun w => Lib.hid (ImplCount.sel_any s w hs)
    generalize Tok.sel s = b at *
    go_enter Try.func4, Try.ntmps4
    go_wp2_with fail
    refine (HS w).out.mono ?_
    rintro e w1 ⟨rfl, hb1⟩
    go_wp2_with fail
    refine (HI w1).out.mono ?_
    rintro e w2 ⟨rfl, hb2⟩
    go_wp2_with fail
    go_ret
    exact ⟨rfl, hb1.trans (hb2.mono hb1.size)⟩
end Go.Proofs.Ytfhjkicfnehjiaa.fnExactIsSelectorW
