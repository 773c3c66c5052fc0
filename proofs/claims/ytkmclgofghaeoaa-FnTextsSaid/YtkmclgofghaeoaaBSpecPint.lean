/-
  spec.ParseInt and impl.ParseInt: the integer that a text is.
-/
import Derived.Test.YtkmclgofghaeoaaBBasMath
import Derived.Test.YtkmclgofghaeoaaBParse
namespace Go.Proofs.Ytkmclgofghaeoaa.Pint
open Go.RowKit
open Parse Bas
theorem pint_neg {s : ByteArray} (h : 0 < s.size) (h45 : ((s[0]'h).toNat : Int) = 45) : pint s = (-(((Parse.pos (Num.rdNat 999999999999 (s.extract 1 s.size).data.toList)).getD 0 : Nat) : Int), (Parse.pos (Num.rdNat 999999999999 (s.extract 1 s.size).data.toList)).isSome) := by
  unfold pint; exact if_pos ⟨h, h45⟩
theorem pint_plain {s : ByteArray} (h : ∀ h : 0 < s.size, ¬ ((s[0]'h).toNat : Int) = 45) : pint s = ((((Num.rdNat 999999999999 s.data.toList).getD 0 : Nat) : Int), (Num.rdNat 999999999999 s.data.toList).isSome) := by
  unfold pint; exact if_neg (by rintro ⟨h1, h2⟩; exact h h1 h2)
theorem impl_int (s : ByteArray) (w : World) (hs : s.size ≤ 1048576) :
    Calls Try.prog 93 #[.string s] w fun e w' => e = .returned (.tuple #[.int .i64 (pint s).1, .bool (pint s).2]) ∧ w = w' := by
  by_cases h45 : ∃ h : 0 < s.size, ((s[0]'h).toNat : Int) = 45
  · obtain ⟨h, h45⟩ := h45
    rw [pint_neg h h45]
    exact int_neg s _ w hs h h45 rfl
  · rw [pint_plain fun h e => h45 ⟨h, e⟩]
    exact int_plain s _ w hs (fun h e => h45 ⟨h, e⟩) rfl
end Go.Proofs.Ytkmclgofghaeoaa.Pint
