/-
  The walk of laws.FnExactParseNumber: it returns true at every text.
-/
import Derived.Test.YtcjjlciamalnfaaSpecRead
namespace Go.Proofs.Ytcjjlciamalnfaa.fnExactParseNumberW
open Go.RowKit
open Parse SpecRead

set_option maxHeartbeats 400000 in
theorem spec_plain (s : ByteArray) (r : Option Nat) (w : World) (hs : s.size ≤ 1048576) (h45 : ∀ h : 0 < s.size, ¬ ((s[0]'h).toNat : Int) = 45) (hr : Num.rdNat 999999 s.data.toList = r) :
    Calls Try.prog 17 #[.string s] w fun e w' => e = .returned (.tuple #[.int .i64 ((r.getD 0 : Nat) : Int), .bool r.isSome]) ∧ Below w.heap.size w w' := by
  have HC := Lib.hid (read_plain s 6 6 r w hs rfl (by omega) (by omega) h45 hr)
  clear h45 hr
  match r with
  | none =>
    go_enter Try.func17, Try.ntmps17
    go_wp2_with fail
    refine HC.out.mono ?_
    rintro e w1 ⟨rfl, hb1⟩
    go_wp2_with fail
    go_ret2
    exact ⟨rfl, hb1⟩
  | some n =>
    have hn : ¬ (n : Int) < 0 := by omega
    go_enter Try.func17, Try.ntmps17
    go_wp2_with fail
    refine HC.out.mono ?_
    rintro e w1 ⟨rfl, hb1⟩
    go_wp2_with fail
    go_ret2
    exact ⟨rfl, hb1⟩

set_option maxHeartbeats 400000 in
theorem spec_neg (s : ByteArray) (w : World) (hs : s.size ≤ 1048576) (hp : 0 < s.size) (h45 : ((s[0]'hp).toNat : Int) = 45) :
    Calls Try.prog 17 #[.string s] w fun e w' => e = .returned (.tuple #[.int .i64 0, .bool false]) ∧ Below w.heap.size w w' := by
  have HC := Lib.hid (read_neg s 6 6 _ w hp hs rfl (by omega) (by omega) h45 rfl)
  clear h45
  generalize Num.rdNat (10 ^ 6 - 1) (s.extract 1 s.size).data.toList = r at *
  match r with
  | none =>
    go_enter Try.func17, Try.ntmps17
    go_wp2_with fail
    refine HC.out.mono ?_
    rintro e w1 ⟨rfl, hb1⟩
    go_wp2_with fail
    go_ret2
    exact ⟨rfl, hb1⟩
  | some 0 =>
    go_enter Try.func17, Try.ntmps17
    go_wp2_with fail
    refine HC.out.mono ?_
    rintro e w1 ⟨rfl, hb1⟩
    go_wp2_with fail
    go_ret2
    exact ⟨rfl, hb1⟩
  | some (n + 1) =>
    have hn : -(((n + 1 : Nat) : Int)) < 0 := by omega
    go_enter Try.func17, Try.ntmps17
    go_wp2_with fail
    refine HC.out.mono ?_
    rintro e w1 ⟨rfl, hb1⟩
    simp only [pos, Option.getD, Option.isSome]
    go_wp2_with fail
    go_ret2
    exact ⟨rfl, hb1⟩

theorem rd_minus (m : Nat) (s : ByteArray) (hp : 0 < s.size) (h45 : ((s[0]'hp).toNat : Int) = 45) : Num.rdNat m s.data.toList = none := by
  have h' : 0 < s.data.toList.length := by rw [len_list]; exact hp
  refine Num.rd_bad m _ 0 h' ?_
  rw [getElem_list s 0 hp h', byte_eq _ 45 h45]; rfl

set_option maxHeartbeats 400000 in
theorem walk (s : ByteArray) (hm : s.size ≤ maxLen) (w : World) :
    Calls Try.prog 5 #[.string s] w fun e w' => e = .returned (.bool true) ∧ Below w.heap.size w w' := by
  unfold maxLen at hm
  by_cases hbig : (1048576 : Int) < (s.size : Int)
  · go_enter Try.func5, Try.ntmps5
    go_wp2_with fail
    go_ret
    exact ⟨rfl, Below.refl _ _⟩
  · have hs : s.size ≤ 1048576 := by omega
    have HI := fun w => Lib.hid (number_any s _ w hs rfl)
    have HC : Hid (Calls Try.prog 17 #[.string s] w fun e w' => e = .returned (.tuple #[.int .i64 (((Num.rdNat 999999 s.data.toList).getD 0 : Nat) : Int), .bool (Num.rdNat 999999 s.data.toList).isSome]) ∧ Below w.heap.size w w') := by
      by_cases h45 : ∃ h : 0 < s.size, ((s[0]'h).toNat : Int) = 45
      · obtain ⟨h, h45⟩ := h45
        rw [rd_minus 999999 s h h45]
        exact spec_neg s w hs h h45
      · exact spec_plain s _ w hs (fun h e => h45 ⟨h, e⟩) rfl
    generalize Num.rdNat 999999 s.data.toList = r at *
    have hid : ((((r.getD 0 : Nat) : Int)) != (((r.getD 0 : Nat) : Int))) = false := by simp
    generalize ((r.getD 0 : Nat) : Int) = x at *
    generalize r.isSome = b at *
    go_enter Try.func5, Try.ntmps5
    go_wp2_with fail
    refine HC.out.mono ?_
    rintro e w1 ⟨rfl, hb1⟩
    go_wp2_with fail
    refine (HI w1).out.mono ?_
    rintro e w2 ⟨rfl, rfl⟩
    go_wp2_with fail
    go_ret
    exact ⟨rfl, hb1⟩
end Go.Proofs.Ytcjjlciamalnfaa.fnExactParseNumberW
