/-
  The walk of laws.FnExactSameValue: it returns true at every input.
-/
import Derived.Test.YtoaocpfehdcfgaaLwFnExactSameValue
import Derived.Test.YtoaocpfehdcfgaaDataVal
import Derived.Test.YtoaocpfehdcfgaaSpecSame
import Derived.Test.YtoaocpfehdcfgaaImplSame
namespace Go.Proofs.Ytoaocpfehdcfgaa.fnExactSameValueW
open Go.RowKit
open Strs Tree Texts Core Sto Go.Proofs.Ytoaocpfehdcfgaa.Data DVal

theorem walk (da : List D) (hfa : FitL (env 10) (erases da)) (db : List D) (hfb : FitL (env 10) (erases db)) (w : World) (ha : Holdss 0 w da) (hb : Holdss 0 w db) :
    Calls Try.prog 4 #[agg da, agg db] w fun e w' => e = .returned (.bool true) ∧ Below w.heap.size w w' := by
  obtain ⟨a, -, hda⟩ := value_get hfa
  obtain ⟨b, -, hdb⟩ := value_get hfb
  refine walk_of (sameB a b) w da hfa ha db hfb hb ?_ ?_
  · intro w' es fs he hf hhe _ _ hhf _ _
    obtain ⟨lo1, hhe⟩ := hhe
    obtain ⟨lo2, hhf⟩ := hhf
    obtain ⟨hav, -, -, -⟩ := value_agg (he.trans hda) hhe
    obtain ⟨hbv, -, -, -⟩ := value_agg (hf.trans hdb) hhf
    rw [hav, hbv]
    exact SpecSame.same_any a b w'
  · intro w' es fs he hf ho _ _
    obtain ⟨hav, -, -, -⟩ := value_agg (he.trans hda) ho.left.holds
    obtain ⟨hbv, -, -, -⟩ := value_agg (hf.trans hdb) ho.right.holds
    rw [hav, hbv]
    exact ImplSame.same_any a b w'
end Go.Proofs.Ytoaocpfehdcfgaa.fnExactSameValueW
