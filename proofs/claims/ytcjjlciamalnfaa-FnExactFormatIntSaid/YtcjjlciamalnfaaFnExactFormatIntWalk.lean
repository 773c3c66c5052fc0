/-
  The walk of laws.FnExactFormatInt: it returns true at every integer.
-/
import Derived.Test.YtcjjlciamalnfaaSpecFmt
import Derived.Test.YtcjjlciamalnfaaImplFmt
import Derived.OpenShut
namespace Go.Proofs.Ytcjjlciamalnfaa.fnExactFormatIntW
open Go.RowKit
theorem walk (n : Int) (h : (Lit.int .i64 n).wf = true) (w : World) :
    Calls Try.prog 4 #[.int .i64 n] w fun e w' => e = .returned (.bool true) ∧ Below w.heap.size w w' := by
  have hb := bounds_i64 h
  go_enter Try.func4, Try.ntmps4
  go_wp2_with fail
  refine (SpecFmt.fmt_any n w (by omega) (by omega)).mono ?_
  rintro e w1 ⟨rfl, hb1⟩
  go_wp2_with fail
  refine (ImplFmt.fmt_any n w1 (by omega) (by omega)).mono ?_
  rintro e w2 ⟨rfl, hb2⟩
  go_wp2_with fail
  go_ret
  exact ⟨rfl, hb1.trans (hb2.mono hb1.size)⟩
end Go.Proofs.Ytcjjlciamalnfaa.fnExactFormatIntW
