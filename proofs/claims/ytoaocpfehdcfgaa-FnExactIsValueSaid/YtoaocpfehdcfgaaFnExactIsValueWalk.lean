/-
  The walk of laws.FnExactIsValue: it returns true at every input.
-/
import Derived.Test.YtoaocpfehdcfgaaLwFnExactIsValue
import Derived.Test.YtoaocpfehdcfgaaDataVal
import Derived.Test.YtoaocpfehdcfgaaSpecVal
import Derived.Test.YtoaocpfehdcfgaaImplVal
namespace Go.Proofs.Ytoaocpfehdcfgaa.fnExactIsValueW
open Go.RowKit
open Strs Tree Texts Core Sto Go.Proofs.Ytoaocpfehdcfgaa.Data DVal

theorem walk (dv : List D) (hfv : FitL (env 10) (erases dv)) (w : World) (hv : Holdss 0 w dv) :
    Calls Try.prog 3 #[agg dv] w fun e w' => e = .returned (.bool true) ∧ Below w.heap.size w w' := by
  obtain ⟨v, -, hdv⟩ := value_get hfv
  refine walk_of (valB v) w dv hfv hv ?_ ?_
  · intro w' fs hfe hhf _ hwf
    obtain ⟨lo2, hhf⟩ := hhf
    have hf2 := hfe.trans hdv
    obtain ⟨hav, -, -, -⟩ := value_agg hf2 hhf
    rw [hav]
    exact SpecSto.val_any v w' (by rw [hf2, plainV_weight] at hwf; exact hwf)
  · intro w' fs hfe ho hwf
    have hf2 := hfe.trans hdv
    obtain ⟨hav, -, -, -⟩ := value_agg hf2 ho.holds
    rw [hav]
    exact ImplSto.val_any v w' (by rw [hf2, plainV_weight] at hwf; exact hwf)
end Go.Proofs.Ytoaocpfehdcfgaa.fnExactIsValueW
