/-
  impl.isQuotable: whether a text can stand between single quotes.
-/
import Derived.Test.YtfceglooifbljaaDoorImplPrintable
namespace Go.Proofs.YtfceglooifbljaaDoor.ImplQuot
open Go.RowKit
open Strs ImplPrintable

theorem quotable_is (s : ByteArray) (b : Bool) (w : World) (hb : (s.data.toList.all Tok.plain && decide (s.size ≤ 40)) = b) :
    Calls Tryd.prog 49 #[.string s] w (ImplTok.Part b w) := by
  have KP := Lib.hid (printable_any s w)
  by_cases h : s.size ≤ 40
  · have g : (s.size : Int) ≤ 40 := by omega
    rw [decide_eq_true h, Bool.and_true] at hb
    rw [hb] at KP
    clear hb h
    go_enter Tryd.func49, Tryd.ntmps49
    go_wp2_with fail
    refine KP.out.mono ?_
    rintro e w1 ⟨rfl, hb1⟩
    have H1 := Lib.hid hb1; clear hb1
    go_wp2_with fail
    go_ret
    exact ⟨rfl, H1.out⟩
  · have g : ¬ (s.size : Int) ≤ 40 := by omega
    rw [decide_eq_false h, Bool.and_false] at hb
    subst hb
    clear h KP
    go_enter Tryd.func49, Tryd.ntmps49
    go_wp2_with fail
    go_ret
    exact ⟨rfl, Below.refl _ _⟩

/-- impl.isQuotable says whether a text can stand between quotes. -/
theorem quotable_any (s : ByteArray) (w : World) : Calls Tryd.prog 49 #[.string s] w (ImplTok.Part (Tree.isText s) w) := quotable_is s _ w rfl
end Go.Proofs.YtfceglooifbljaaDoor.ImplQuot
