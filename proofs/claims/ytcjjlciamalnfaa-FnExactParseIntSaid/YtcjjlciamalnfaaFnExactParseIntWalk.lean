/-
  The walk of laws.FnExactParseInt: it returns true at every text.
-/
import Derived.Test.YtcjjlciamalnfaaSpecRead
namespace Go.Proofs.Ytcjjlciamalnfaa.fnExactParseIntW
open Go.RowKit
open Parse SpecRead

set_option maxHeartbeats 400000 in
theorem spec_plain (s : ByteArray) (r : Option Nat) (w : World) (hs : s.size ≤ 1048576) (h45 : ∀ h : 0 < s.size, ¬ ((s[0]'h).toNat : Int) = 45) (hr : Num.rdNat 999999999999 s.data.toList = r) :
    Calls Try.prog 19 #[.string s] w fun e w' => e = .returned (.tuple #[.int .i64 ((r.getD 0 : Nat) : Int), .bool r.isSome]) ∧ Below w.heap.size w w' := by
  have HC := Lib.hid (read_plain s 12 12 r w hs rfl (by omega) (by omega) h45 hr)
  clear h45 hr
  go_enter Try.func19, Try.ntmps19
  go_wp2_with fail
  refine HC.out.mono ?_
  rintro e w1 ⟨rfl, hb1⟩
  go_wp2_with fail
  go_ret2
  exact ⟨rfl, hb1⟩

set_option maxHeartbeats 400000 in
theorem spec_neg (s : ByteArray) (r : Option Nat) (w : World) (hs : s.size ≤ 1048576) (hp : 0 < s.size) (h45 : ((s[0]'hp).toNat : Int) = 45) (hr : Num.rdNat 999999999999 (s.extract 1 s.size).data.toList = r) :
    Calls Try.prog 19 #[.string s] w fun e w' => e = .returned (.tuple #[.int .i64 (-(((pos r).getD 0 : Nat) : Int)), .bool (pos r).isSome]) ∧ Below w.heap.size w w' := by
  have HC := Lib.hid (read_neg s 12 12 _ w hp hs rfl (by omega) (by omega) h45 hr)
  clear h45 hr
  generalize -(((pos r).getD 0 : Nat) : Int) = x at *
  generalize (pos r).isSome = b at *
  go_enter Try.func19, Try.ntmps19
  go_wp2_with fail
  refine HC.out.mono ?_
  rintro e w1 ⟨rfl, hb1⟩
  go_wp2_with fail
  go_ret2
  exact ⟨rfl, hb1⟩

set_option maxHeartbeats 400000 in
theorem walk (s : ByteArray) (hm : s.size ≤ maxLen) (w : World) :
    Calls Try.prog 6 #[.string s] w fun e w' => e = .returned (.bool true) ∧ Below w.heap.size w w' := by
  unfold maxLen at hm
  by_cases hbig : (1048576 : Int) < (s.size : Int)
  · go_enter Try.func6, Try.ntmps6
    go_wp2_with fail
    go_ret
    exact ⟨rfl, Below.refl _ _⟩
  · have hs : s.size ≤ 1048576 := by omega
    have HB : ∃ (x : Int) (b : Bool), Hid (∀ w, Calls Try.prog 11 #[.string s] w fun e w' => e = .returned (.tuple #[.int .i64 x, .bool b]) ∧ w = w') ∧
        Hid (Calls Try.prog 19 #[.string s] w fun e w' => e = .returned (.tuple #[.int .i64 x, .bool b]) ∧ Below w.heap.size w w') := by
      by_cases h45 : ∃ h : 0 < s.size, ((s[0]'h).toNat : Int) = 45
      · obtain ⟨h, h45⟩ := h45
        exact ⟨_, _, fun w => int_neg s _ w hs h h45 rfl, spec_neg s _ w hs h h45 rfl⟩
      · exact ⟨_, _, fun w => int_plain s _ w hs (fun h e => h45 ⟨h, e⟩) rfl, spec_plain s _ w hs (fun h e => h45 ⟨h, e⟩) rfl⟩
    obtain ⟨x, b, HI, HC⟩ := HB
    go_enter Try.func6, Try.ntmps6
    go_wp2_with fail
    refine HC.out.mono ?_
    rintro e w1 ⟨rfl, hb1⟩
    go_wp2_with fail
    refine (HI.out w1).mono ?_
    rintro e w2 ⟨rfl, rfl⟩
    go_wp2_with fail
    go_ret
    exact ⟨rfl, hb1⟩
end Go.Proofs.Ytcjjlciamalnfaa.fnExactParseIntW
