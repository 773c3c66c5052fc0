/-
  spec.ParseInt and impl.ParseInt: the integer that a text is.
-/
import Derived.Test.YtkmclgofghaeoaaGreatBBasMath
import Derived.Test.YtkmclgofghaeoaaGreatBParse
import Derived.Test.YtkmclgofghaeoaaGreatBSpecRead
namespace Go.Proofs.YtkmclgofghaeoaaGreat.Pint
open Go.RowKit
open Parse Bas
open SpecRead
set_option maxHeartbeats 400000 in
theorem spec_plain (s : ByteArray) (r : Option Nat) (w : World) (hs : s.size ≤ 1048576) (h45 : ∀ h : 0 < s.size, ¬ ((s[0]'h).toNat : Int) = 45) (hr : Num.rdNat 999999999999 s.data.toList = r) :
    Calls Tryz.prog 53 #[.string s] w fun e w' => e = .returned (.tuple #[.int .i64 ((r.getD 0 : Nat) : Int), .bool r.isSome]) ∧ Below w.heap.size w w' := by
  have HC := Lib.hid (read_plain s 12 12 r w hs rfl (by omega) (by omega) h45 hr)
  clear h45 hr
  go_enter Tryz.func53, Tryz.ntmps53
  go_wp2_with fail
  refine HC.out.mono ?_
  rintro e w1 ⟨rfl, hb1⟩
  go_wp2_with fail
  go_ret2
  exact ⟨rfl, hb1⟩
set_option maxHeartbeats 400000 in
theorem spec_neg (s : ByteArray) (r : Option Nat) (w : World) (hs : s.size ≤ 1048576) (hp : 0 < s.size) (h45 : ((s[0]'hp).toNat : Int) = 45) (hr : Num.rdNat 999999999999 (s.extract 1 s.size).data.toList = r) :
    Calls Tryz.prog 53 #[.string s] w fun e w' => e = .returned (.tuple #[.int .i64 (-(((pos r).getD 0 : Nat) : Int)), .bool (pos r).isSome]) ∧ Below w.heap.size w w' := by
  have HC := Lib.hid (read_neg s 12 12 _ w hp hs rfl (by omega) (by omega) h45 hr)
  clear h45 hr
  generalize -(((pos r).getD 0 : Nat) : Int) = x at *
  generalize (pos r).isSome = b at *
  go_enter Tryz.func53, Tryz.ntmps53
  go_wp2_with fail
  refine HC.out.mono ?_
  rintro e w1 ⟨rfl, hb1⟩
  go_wp2_with fail
  go_ret2
  exact ⟨rfl, hb1⟩
theorem pint_neg {s : ByteArray} (h : 0 < s.size) (h45 : ((s[0]'h).toNat : Int) = 45) : pint s = (-(((Parse.pos (Num.rdNat 999999999999 (s.extract 1 s.size).data.toList)).getD 0 : Nat) : Int), (Parse.pos (Num.rdNat 999999999999 (s.extract 1 s.size).data.toList)).isSome) := by
  unfold pint; exact if_pos ⟨h, h45⟩
theorem pint_plain {s : ByteArray} (h : ∀ h : 0 < s.size, ¬ ((s[0]'h).toNat : Int) = 45) : pint s = ((((Num.rdNat 999999999999 s.data.toList).getD 0 : Nat) : Int), (Num.rdNat 999999999999 s.data.toList).isSome) := by
  unfold pint; exact if_neg (by rintro ⟨h1, h2⟩; exact h h1 h2)
theorem impl_int (s : ByteArray) (w : World) (hs : s.size ≤ 1048576) :
    Calls Tryz.prog 104 #[.string s] w fun e w' => e = .returned (.tuple #[.int .i64 (pint s).1, .bool (pint s).2]) ∧ w = w' := by
  by_cases h45 : ∃ h : 0 < s.size, ((s[0]'h).toNat : Int) = 45
  · obtain ⟨h, h45⟩ := h45
    rw [pint_neg h h45]
    exact int_neg s _ w hs h h45 rfl
  · rw [pint_plain fun h e => h45 ⟨h, e⟩]
    exact int_plain s _ w hs (fun h e => h45 ⟨h, e⟩) rfl
theorem spec_int (s : ByteArray) (w : World) (hs : s.size ≤ 1048576) :
    Calls Tryz.prog 53 #[.string s] w fun e w' => e = .returned (.tuple #[.int .i64 (pint s).1, .bool (pint s).2]) ∧ Below w.heap.size w w' := by
  by_cases h45 : ∃ h : 0 < s.size, ((s[0]'h).toNat : Int) = 45
  · obtain ⟨h, h45⟩ := h45
    rw [pint_neg h h45]
    exact spec_neg s _ w hs h h45 rfl
  · rw [pint_plain fun h e => h45 ⟨h, e⟩]
    exact spec_plain s _ w hs (fun h e => h45 ⟨h, e⟩) rfl
end Go.Proofs.YtkmclgofghaeoaaGreat.Pint
