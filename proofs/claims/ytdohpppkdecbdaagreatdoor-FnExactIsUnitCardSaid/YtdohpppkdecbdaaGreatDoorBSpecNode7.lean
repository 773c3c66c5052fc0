/-
  spec.l3Node by kinds: what it answers of a node that holds nothing but a text, a number and kids.
  spec.l3Node at cascades and at blocks.
-/
import Derived.Test.YtdohpppkdecbdaaGreatDoorBImplLike
import Derived.Test.YtdohpppkdecbdaaGreatDoorBSpecSel
import Derived.Test.YtdohpppkdecbdaaGreatDoorBSpecTree2
import Derived.Deep.RegionHeld3
namespace Go.Proofs.YtdohpppkdecbdaaGreatDoor.SpecNode
open Go.RowKit
open Strs Tree Texts TreeBox
theorem beq_no {s t : ByteArray} (h : ¬ s = t) : (s.toList == t.toList) = false := by
  refine Bool.eq_false_iff.2 fun e => h ?_
  have e1 := eq_of_beq e
  rw [ByteArray.toList_eq, ByteArray.toList_eq] at e1
  exact ByteArray.ext (Array.ext' e1)
theorem no_text {t : ByteArray} (h : ¬ t.size = 0) : t.toList.isEmpty = false := by
  rw [ByteArray.toList_eq, ← Bool.not_eq_true, List.isEmpty_iff]
  intro e
  have := congrArg List.length e
  rw [Array.length_toList] at this
  exact h this
theorem eq0 (N : Nat) : ((N : Int) == 0) = decide (N = 0) := by
  by_cases h : N = 0
  · subst h; rfl
  · rw [decide_eq_false h]; simp; omega
theorem eq1 (N : Nat) : ((N : Int) == 1) = decide (N = 1) := by
  by_cases h : N = 1
  · subst h; rfl
  · rw [decide_eq_false h]; simp; omega
theorem ne_of {a c : Int} (h : ¬ a = c) : (a != c) = true := by simpa using h
theorem is_text {t : ByteArray} (h : t.size = 0) : t = ⟨#[]⟩ := ByteArray.ext (Array.eq_empty_of_size_eq_zero h)
theorem bad1 (k n : Int) (t : ByteArray) (M : Nat) (a3 a1 : Option Addr) (cap3 N cap1 : Nat) (w : World) (h8 : ¬ k = 8) (hM : 0 < M) :
    Calls Tryz.prog 45 #[.agg #[.int .i64 k, .string t, .int .i64 n, .slice a3 M cap3, .slice a1 N cap1]] w fun r w' => r = .returned (.bool false) ∧ Below w.heap.size w w' := by
  have hM2 : (0 : Int) < (M : Int) := by omega
  have B0 : Hid (Below w.heap.size w (w.alloc (Obj.cells #[Value.int IntKind.i64 k, Value.string t, Value.int IntKind.i64 n, .slice a3 M cap3, .slice a1 N cap1] 44))) := (Below.refl _ _).alloc (Nat.le_refl _) _
  have C0 := Lib.hid (cells_new w k t n (.slice a3 M cap3) (.slice a1 N cap1) 44)
  clear C0
  go_enter Tryz.func45, Tryz.ntmps45
  go_wp2_with fail
  go_ret
  exact ⟨rfl, B0.out⟩
theorem bad2 (k n : Int) (t : ByteArray) (a3 a1 : Option Addr) (cap3 N cap1 : Nat) (w : World) (h8 : (k != 8) = true) (h1 : (k != 1) = true) (hn : (n != 0) = true) :
    Calls Tryz.prog 45 #[.agg #[.int .i64 k, .string t, .int .i64 n, .slice a3 0 cap3, .slice a1 N cap1]] w fun r w' => r = .returned (.bool false) ∧ Below w.heap.size w w' := by
  have B0 : Hid (Below w.heap.size w (w.alloc (Obj.cells #[Value.int IntKind.i64 k, Value.string t, Value.int IntKind.i64 n, .slice a3 0 cap3, .slice a1 N cap1] 44))) := (Below.refl _ _).alloc (Nat.le_refl _) _
  have C0 := Lib.hid (cells_new w k t n (.slice a3 0 cap3) (.slice a1 N cap1) 44)
  clear C0
  go_enter Tryz.func45, Tryz.ntmps45
  go_wp2_with fail
  go_ret
  exact ⟨rfl, B0.out⟩
theorem other (k : Int) (t : ByteArray) (a3 a1 : Option Addr) (cap3 N cap1 : Nat) (w : World) (h1 : ¬ k = 1) (h2 : ¬ k = 2) (h3 : ¬ k = 3) (h4 : ¬ k = 4) (h5 : ¬ k = 5) (h6 : ¬ k = 6) (h7 : ¬ k = 7) (h8 : ¬ k = 8) (h9 : ¬ k = 9) :
    Calls Tryz.prog 45 #[.agg #[.int .i64 k, .string t, .int .i64 0, .slice a3 0 cap3, .slice a1 N cap1]] w fun r w' => r = .returned (.bool false) ∧ Below w.heap.size w w' := by
  have B0 : Hid (Below w.heap.size w (w.alloc (Obj.cells #[Value.int IntKind.i64 k, Value.string t, Value.int IntKind.i64 0, .slice a3 0 cap3, .slice a1 N cap1] 44))) := (Below.refl _ _).alloc (Nat.le_refl _) _
  have C0 := Lib.hid (cells_new w k t 0 (.slice a3 0 cap3) (.slice a1 N cap1) 44)
  clear C0
  go_enter Tryz.func45, Tryz.ntmps45
  go_wp2_with fail
  go_ret
  exact ⟨rfl, B0.out⟩
theorem kind2 (t : ByteArray) (a3 a1 : Option Addr) (cap3 N cap1 : Nat) (w : World) (ht : t.size ≤ 1048576) :
    Calls Tryz.prog 45 #[.agg #[.int .i64 2, .string t, .int .i64 0, .slice a3 0 cap3, .slice a1 N cap1]] w fun r w' => r = .returned (.bool (isText t && decide (N = 0))) ∧ Below w.heap.size w w' := by
  have B0 : Hid (Below w.heap.size w (w.alloc (Obj.cells #[Value.int IntKind.i64 2, Value.string t, Value.int IntKind.i64 0, .slice a3 0 cap3, .slice a1 N cap1] 44))) := (Below.refl _ _).alloc (Nat.le_refl _) _
  have C0 := Lib.hid (cells_new w 2 t 0 (.slice a3 0 cap3) (.slice a1 N cap1) 44)
  have KF := fun w1 => Lib.hid (SpecTree.istext_any t w1 (by unfold maxLen; omega))
  generalize isText t = b at *
  by_cases hb : b = false
  ·
    subst hb
    go_enter Tryz.func45, Tryz.ntmps45
    go_wp2_with fail
    refine (KF _).out.mono ?_
    rintro e w1 ⟨rfl, rfl⟩
    go_wp2_with fail
    go_ret
    exact ⟨rfl, B0.out⟩
  · rw [Bool.not_eq_false] at hb
    subst hb
    go_enter Tryz.func45, Tryz.ntmps45
    go_wp2_with fail
    refine (KF _).out.mono ?_
    rintro e w1 ⟨rfl, rfl⟩
    go_wp2_with fail
    go_ret
    exact ⟨(by rw [Bool.true_and, ← eq0 N] : Ending.returned (.bool ((N : Int) == 0)) = _), B0.out⟩
theorem kind3 (t : ByteArray) (a3 a1 : Option Addr) (cap3 N cap1 : Nat) (w : World) (ht : t.size ≤ 1048576) :
    Calls Tryz.prog 45 #[.agg #[.int .i64 3, .string t, .int .i64 0, .slice a3 0 cap3, .slice a1 N cap1]] w fun r w' => r = .returned (.bool (Tok.sel t && decide (N = 0))) ∧ Below w.heap.size w w' := by
  have B0 : Hid (Below w.heap.size w (w.alloc (Obj.cells #[Value.int IntKind.i64 3, Value.string t, Value.int IntKind.i64 0, .slice a3 0 cap3, .slice a1 N cap1] 44))) := (Below.refl _ _).alloc (Nat.le_refl _) _
  have C0 := Lib.hid (cells_new w 3 t 0 (.slice a3 0 cap3) (.slice a1 N cap1) 44)
  have KF := fun w1 => Lib.hid (SpecSel.sel_any t w1 ht)
  generalize Tok.sel t = b at *
  by_cases hb : b = false
  ·
    subst hb
    go_enter Tryz.func45, Tryz.ntmps45
    go_wp2_with fail
    refine (KF _).out.mono ?_
    rintro e w1 ⟨rfl, hb1⟩
    replace B0 := Lib.hid (B0.out.trans (hb1.mono B0.out.size))
    clear hb1
    go_wp2_with fail
    go_ret
    exact ⟨rfl, B0.out⟩
  · rw [Bool.not_eq_false] at hb
    subst hb
    go_enter Tryz.func45, Tryz.ntmps45
    go_wp2_with fail
    refine (KF _).out.mono ?_
    rintro e w1 ⟨rfl, hb1⟩
    replace B0 := Lib.hid (B0.out.trans (hb1.mono B0.out.size))
    clear hb1
    go_wp2_with fail
    go_ret
    exact ⟨(by rw [Bool.true_and, ← eq0 N] : Ending.returned (.bool ((N : Int) == 0)) = _), B0.out⟩
theorem kind4 (t : ByteArray) (a3 a1 : Option Addr) (cap3 N cap1 : Nat) (w : World) (ht : t.size ≤ 1048576) :
    Calls Tryz.prog 45 #[.agg #[.int .i64 4, .string t, .int .i64 0, .slice a3 0 cap3, .slice a1 N cap1]] w fun r w' => r = .returned (.bool (Tok.isName t && decide (N = 0))) ∧ Below w.heap.size w w' := by
  have B0 : Hid (Below w.heap.size w (w.alloc (Obj.cells #[Value.int IntKind.i64 4, Value.string t, Value.int IntKind.i64 0, .slice a3 0 cap3, .slice a1 N cap1] 44))) := (Below.refl _ _).alloc (Nat.le_refl _) _
  have C0 := Lib.hid (cells_new w 4 t 0 (.slice a3 0 cap3) (.slice a1 N cap1) 44)
  have KF := fun w1 => Lib.hid (SpecName.isname_any t w1 ht)
  generalize Tok.isName t = b at *
  by_cases hb : b = false
  ·
    subst hb
    go_enter Tryz.func45, Tryz.ntmps45
    go_wp2_with fail
    refine (KF _).out.mono ?_
    rintro e w1 ⟨rfl, hb1⟩
    replace B0 := Lib.hid (B0.out.trans (hb1.mono B0.out.size))
    clear hb1
    go_wp2_with fail
    go_ret
    exact ⟨rfl, B0.out⟩
  · rw [Bool.not_eq_false] at hb
    subst hb
    go_enter Tryz.func45, Tryz.ntmps45
    go_wp2_with fail
    refine (KF _).out.mono ?_
    rintro e w1 ⟨rfl, hb1⟩
    replace B0 := Lib.hid (B0.out.trans (hb1.mono B0.out.size))
    clear hb1
    go_wp2_with fail
    go_ret
    exact ⟨(by rw [Bool.true_and, ← eq0 N] : Ending.returned (.bool ((N : Int) == 0)) = _), B0.out⟩
theorem kind5 (t : ByteArray) (a3 a1 : Option Addr) (cap3 N cap1 : Nat) (w : World) (ht : t.size ≤ 1048576) :
    Calls Tryz.prog 45 #[.agg #[.int .i64 5, .string t, .int .i64 0, .slice a3 0 cap3, .slice a1 N cap1]] w fun r w' => r = .returned (.bool (Tok.isName t && decide (N = 1))) ∧ Below w.heap.size w w' := by
  have B0 : Hid (Below w.heap.size w (w.alloc (Obj.cells #[Value.int IntKind.i64 5, Value.string t, Value.int IntKind.i64 0, .slice a3 0 cap3, .slice a1 N cap1] 44))) := (Below.refl _ _).alloc (Nat.le_refl _) _
  have C0 := Lib.hid (cells_new w 5 t 0 (.slice a3 0 cap3) (.slice a1 N cap1) 44)
  have KF := fun w1 => Lib.hid (SpecName.isname_any t w1 ht)
  generalize Tok.isName t = b at *
  by_cases hb : b = false
  ·
    subst hb
    go_enter Tryz.func45, Tryz.ntmps45
    go_wp2_with fail
    refine (KF _).out.mono ?_
    rintro e w1 ⟨rfl, hb1⟩
    replace B0 := Lib.hid (B0.out.trans (hb1.mono B0.out.size))
    clear hb1
    go_wp2_with fail
    go_ret
    exact ⟨rfl, B0.out⟩
  · rw [Bool.not_eq_false] at hb
    subst hb
    go_enter Tryz.func45, Tryz.ntmps45
    go_wp2_with fail
    refine (KF _).out.mono ?_
    rintro e w1 ⟨rfl, hb1⟩
    replace B0 := Lib.hid (B0.out.trans (hb1.mono B0.out.size))
    clear hb1
    go_wp2_with fail
    go_ret
    exact ⟨(by rw [Bool.true_and, ← eq1 N] : Ending.returned (.bool ((N : Int) == 1)) = _), B0.out⟩
theorem kind9 (t : ByteArray) (a3 a1 : Option Addr) (cap3 N cap1 : Nat) (w : World) :
    Calls Tryz.prog 45 #[.agg #[.int .i64 9, .string t, .int .i64 0, .slice a3 0 cap3, .slice a1 N cap1]] w fun r w' => r = .returned (.bool (decide (t.size = 0) && decide (N = 1))) ∧ Below w.heap.size w w' := by
  by_cases h : t.size = 0
  · obtain rfl := is_text h
    have B0 : Hid (Below w.heap.size w (w.alloc (Obj.cells #[Value.int IntKind.i64 9, Value.string ⟨#[]⟩, Value.int IntKind.i64 0, .slice a3 0 cap3, .slice a1 N cap1] 44))) := (Below.refl _ _).alloc (Nat.le_refl _) _
    have C0 := Lib.hid (cells_new w 9 ⟨#[]⟩ 0 (.slice a3 0 cap3) (.slice a1 N cap1) 44)
    clear C0
    go_enter Tryz.func45, Tryz.ntmps45
    go_wp2_with fail
    go_ret
    exact ⟨(by rw [decide_eq_true h, Bool.true_and, ← eq1 N] : Ending.returned (.bool ((N : Int) == 1)) = _), B0.out⟩
  · rw [decide_eq_false h]
    have hb := no_text h
    have B0 : Hid (Below w.heap.size w (w.alloc (Obj.cells #[Value.int IntKind.i64 9, Value.string t, Value.int IntKind.i64 0, .slice a3 0 cap3, .slice a1 N cap1] 44))) := (Below.refl _ _).alloc (Nat.le_refl _) _
    have C0 := Lib.hid (cells_new w 9 t 0 (.slice a3 0 cap3) (.slice a1 N cap1) 44)
    clear C0 h
    go_enter Tryz.func45, Tryz.ntmps45
    go_wp2_with fail
    go_ret
    exact ⟨rfl, B0.out⟩
theorem kind1 (t : ByteArray) (n : Int) (a3 a1 : Option Addr) (cap3 N cap1 : Nat) (w : World) :
    Calls Tryz.prog 45 #[.agg #[.int .i64 1, .string t, .int .i64 n, .slice a3 0 cap3, .slice a1 N cap1]] w fun r w' => r = .returned (.bool (decide (t.size = 0) && (decide (0 ≤ n ∧ n ≤ 999999999) && decide (N = 0)))) ∧ Below w.heap.size w w' := by
  by_cases h : t.size = 0
  · rw [decide_eq_true h]
    obtain rfl := is_text h
    have B0 : Hid (Below w.heap.size w (w.alloc (Obj.cells #[Value.int IntKind.i64 1, Value.string ⟨#[]⟩, Value.int IntKind.i64 n, .slice a3 0 cap3, .slice a1 N cap1] 44))) := (Below.refl _ _).alloc (Nat.le_refl _) _
    have C0 := Lib.hid (cells_new w 1 ⟨#[]⟩ n (.slice a3 0 cap3) (.slice a1 N cap1) 44)
    have KI := fun w1 => Lib.hid (SpecTree.in_any n 0 999999999 w1)
    generalize decide (0 ≤ n ∧ n ≤ 999999999) = b at *
    clear h
    by_cases hb : b = false
    · subst hb
      go_enter Tryz.func45, Tryz.ntmps45
      go_wp2_with fail
      refine (KI _).out.mono ?_
      rintro e w1 ⟨rfl, rfl⟩
      clear C0
      go_wp2_with fail
      go_ret
      exact ⟨rfl, B0.out⟩
    · rw [Bool.not_eq_false] at hb
      subst hb
      go_enter Tryz.func45, Tryz.ntmps45
      go_wp2_with fail
      refine (KI _).out.mono ?_
      rintro e w1 ⟨rfl, rfl⟩
      clear C0
      go_wp2_with fail
      go_ret
      exact ⟨(by rw [Bool.true_and, Bool.true_and, ← eq0 N] : Ending.returned (.bool ((N : Int) == 0)) = _), B0.out⟩
  · rw [decide_eq_false h]
    have hb := no_text h
    have B0 : Hid (Below w.heap.size w (w.alloc (Obj.cells #[Value.int IntKind.i64 1, Value.string t, Value.int IntKind.i64 n, .slice a3 0 cap3, .slice a1 N cap1] 44))) := (Below.refl _ _).alloc (Nat.le_refl _) _
    have C0 := Lib.hid (cells_new w 1 t n (.slice a3 0 cap3) (.slice a1 N cap1) 44)
    clear C0 h
    go_enter Tryz.func45, Tryz.ntmps45
    go_wp2_with fail
    go_ret
    exact ⟨rfl, B0.out⟩
theorem count_range (t : ByteArray) : -1 ≤ Tok.countArgs t ∧ Tok.countArgs t ≤ (t.size : Int) + 1 := by
  unfold Tok.countArgs
  have h := Cuts.parts_len t 58
  split
  · split
    · omega
    · omega
  · omega
theorem kind6 (t : ByteArray) (a3 a1 : Option Addr) (cap3 N cap1 : Nat) (w : World) (ht : t.size ≤ 1048576) :
    Calls Tryz.prog 45 #[.agg #[.int .i64 6, .string t, .int .i64 0, .slice a3 0 cap3, .slice a1 N cap1]] w fun r w' => r = .returned (.bool (decide ((N : Int) = Tok.countArgs t + 1) && decide (0 < N))) ∧ Below w.heap.size w w' := by
  have B0 : Hid (Below w.heap.size w (w.alloc (Obj.cells #[Value.int IntKind.i64 6, Value.string t, Value.int IntKind.i64 0, .slice a3 0 cap3, .slice a1 N cap1] 44))) := (Below.refl _ _).alloc (Nat.le_refl _) _
  have C0 := Lib.hid (cells_new w 6 t 0 (.slice a3 0 cap3) (.slice a1 N cap1) 44)
  have KF := fun w1 => Lib.hid (SpecSel.count_any t w1 ht)
  obtain ⟨hc1, hc2⟩ := count_range t
  generalize Tok.countArgs t = c at *
  by_cases h : (N : Int) = c + 1
  · have hb : ((N : Int) == c + 1) = true := by simpa using h
    rw [decide_eq_true h]
    by_cases hp : 0 < N
    · rw [decide_eq_true hp]
      clear h
      go_enter Tryz.func45, Tryz.ntmps45
      go_wp2_with fail
      refine (KF _).out.mono ?_
      rintro e w1 ⟨rfl, hb1⟩
      replace B0 := Lib.hid (B0.out.trans (hb1.mono B0.out.size))
      clear C0 hb1
      go_wp2_with fail
      go_ret
      exact ⟨rfl, B0.out⟩
    · rw [decide_eq_false hp]
      clear h
      go_enter Tryz.func45, Tryz.ntmps45
      go_wp2_with fail
      refine (KF _).out.mono ?_
      rintro e w1 ⟨rfl, hb1⟩
      replace B0 := Lib.hid (B0.out.trans (hb1.mono B0.out.size))
      clear C0 hb1
      go_wp2_with fail
      go_ret
      exact ⟨rfl, B0.out⟩
  · have hb : ((N : Int) == c + 1) = false := by simpa using h
    rw [decide_eq_false h]
    clear h
    go_enter Tryz.func45, Tryz.ntmps45
    go_wp2_with fail
    refine (KF _).out.mono ?_
    rintro e w1 ⟨rfl, hb1⟩
    replace B0 := Lib.hid (B0.out.trans (hb1.mono B0.out.size))
    clear C0 hb1
    go_wp2_with fail
    go_ret
    exact ⟨rfl, B0.out⟩
end Go.Proofs.YtdohpppkdecbdaaGreatDoor.SpecNode

namespace Go.Proofs.YtdohpppkdecbdaaGreatDoor.SpecNode
open Go.RowKit
open Strs Tree Texts TreeBox
theorem kind7 (t : ByteArray) (b : Bool) (a3 a1 : Option Addr) (cap3 N cap1 : Nat) (w : World) (hm : N ≤ cap1 ∧ cap1 ≤ maxLen) (ha : 3 ≤ N → ∃ bl off, a1 = some ⟨bl, off, none⟩)
    (KM : 3 ≤ N → ∀ bl off w', a1 = some ⟨bl, off, none⟩ → Below w.heap.size w w' → Calls Tryz.prog 61 #[.slice (some ⟨bl, off + 5, none⟩) (N - 1) (cap1 - 1)] w' fun r w'' => r = .returned (.bool b) ∧ Below w'.heap.size w' w'') :
    Calls Tryz.prog 45 #[.agg #[.int .i64 7, .string t, .int .i64 0, .slice a3 0 cap3, .slice a1 N cap1]] w fun r w' => r = .returned (.bool (decide (t.size = 0) && (decide (3 ≤ N) && b))) ∧ Below w.heap.size w w' := by
  unfold maxLen at hm
  obtain ⟨hm1, hm2⟩ := hm
  by_cases h : t.size = 0
  · rw [decide_eq_true h]
    obtain rfl := is_text h
    have B0 : Hid (Below w.heap.size w (w.alloc (Obj.cells #[Value.int IntKind.i64 7, Value.string ⟨#[]⟩, Value.int IntKind.i64 0, .slice a3 0 cap3, .slice a1 N cap1] 44))) := (Below.refl _ _).alloc (Nat.le_refl _) _
    by_cases h3 : 3 ≤ N
    · rw [decide_eq_true h3]
      obtain ⟨bl, off, rfl⟩ := ha h3
      have KK := fun w' hb => Lib.hid (KM h3 bl off w' rfl hb)
      clear KM ha h
      have h3' : (3 : Int) ≤ (N : Int) := by omega
      go_enter Tryz.func45, Tryz.ntmps45
      go_wp2_with fail
      refine (KK _ B0.out).out.mono ?_
      rintro e w1 ⟨rfl, hb1⟩
      replace B0 := Lib.hid (B0.out.trans (hb1.mono B0.out.size))
      clear hb1 KK
      cases b
      all_goals
        go_wp2_with fail
        go_ret
        exact ⟨rfl, B0.out⟩
    · rw [decide_eq_false h3]
      have h3' : ¬ (3 : Int) ≤ (N : Int) := by omega
      clear KM ha h
      go_enter Tryz.func45, Tryz.ntmps45
      go_wp2_with fail
      go_ret
      exact ⟨rfl, B0.out⟩
  · rw [decide_eq_false h]
    have hb := no_text h
    have B0 : Hid (Below w.heap.size w (w.alloc (Obj.cells #[Value.int IntKind.i64 7, Value.string t, Value.int IntKind.i64 0, .slice a3 0 cap3, .slice a1 N cap1] 44))) := (Below.refl _ _).alloc (Nat.le_refl _) _
    clear KM ha h
    go_enter Tryz.func45, Tryz.ntmps45
    go_wp2_with fail
    go_ret
    exact ⟨rfl, B0.out⟩
set_option maxHeartbeats 1000000 in
theorem kind8 (lo : Nat) (t : ByteArray) (n : Int) (ns : List ByteArray) (vn : Value) (a1 : Option Addr) (N cap1 : Nat) (w : World) (hns : Texts lo w ns vn) (hs : ∀ x, x ∈ ns → x.size ≤ 1048576) :
    Calls Tryz.prog 45 #[.agg #[.int .i64 8, .string t, .int .i64 n, vn, .slice a1 N cap1]] w fun r w' => r = .returned (.bool (ns.all Tok.isName && (decide (t.size = 0) && decide (0 ≤ n ∧ n ≤ (ns.length : Int))))) ∧ Below w.heap.size w w' := by
  obtain ⟨a3, cap3, rfl, hm, -, hc⟩ := hns
  unfold maxLen at hm
  generalize hD : (ns.all Tok.isName && (decide (t.size = 0) && decide (0 ≤ n ∧ n ≤ (ns.length : Int)))) = D
  obtain ⟨M, hM⟩ : ∃ M, ns.length = M := ⟨_, rfl⟩
  have hc2 : 0 < M → ∃ b off, a3 = some ⟨b, off, none⟩ ∧ lo ≤ b ∧ ∀ j (h : j < ns.length), w.cell? ⟨b, off + j, none⟩ = some (.string ns[j]) := fun hp => hc (by omega)
  clear hc
  rw [hM] at hm hD ⊢
  have HD := Lib.hid hD; clear hD
  have HC := Lib.hid hc2; clear hc2
  have HS := Lib.hid hs; clear hs
  have HM := Lib.hid hM; clear hM
  have B0 : Hid (Below w.heap.size w (w.alloc (Obj.cells #[Value.int IntKind.i64 8, Value.string t, Value.int IntKind.i64 n, .slice a3 M cap3, .slice a1 N cap1] 44))) := (Below.refl _ _).alloc (Nat.le_refl _) _
  have C0 := Lib.hid (cells_new w 8 t n (.slice a3 M cap3) (.slice a1 N cap1) 44)
  go_enter Tryz.func45, Tryz.ntmps45
  go_wp2_with fail
  go_loopw [4] (fun j wr => ∃ i : Nat, i ≤ M ∧ j = .int .i64 i ∧ Below w.heap.size w wr ∧ Cells w.heap.size 8 t n (.slice a3 M cap3) (.slice a1 N cap1) wr ∧ Hid (∀ j (h : j < ns.length), j < i → Tok.isName ns[j] = true)) (fun j _ => M - (intOf j).toNat)
  case atStart => exact ⟨0, by omega, rfl, B0.out, C0.out, fun j _ h => by omega⟩
  case round =>
    obtain ⟨i, hi, rfl, hbw, hcl, HI⟩ := hrel
    obtain ⟨-, c0, c1, c2, c3, c4⟩ := id hcl
    have HB := Lib.hid hbw
    have HCL := Lib.hid hcl
    clear hcl
    by_cases hlt : i < M
    · have hil : i < ns.length := by rw [HM.out]; exact hlt
      obtain ⟨b, off, rfl, _, hd⟩ := HC.out (by omega)
      have hx := cell_keep hbw (hd i hil)
      have hsz := HS.out _ (List.getElem_mem hil)
      have KF := fun w1 => Lib.hid (SpecName.isname_any ns[i] w1 hsz)
      clear hd hbw
      generalize hxx : ns[i] = x at *
      have HXX := Lib.hid hxx; clear hxx
      by_cases hb : Tok.isName x = true
      · rw [hb] at KF
        have HBB := Lib.hid hb; clear hb
        go_wp2_with fail
        refine (KF _).out.mono ?_
        rintro e w1 ⟨rfl, hb1⟩
        have HB1 := Lib.hid (HB.out.trans (hb1.mono HB.out.size))
        have HC1 := Lib.hid (HCL.out.step hb1)
        clear hb1 c0 c1 c2 c3 c4 hx HB HCL
        go_wp2_with fail
        go_roundw
        case rel =>
          refine ⟨i + 1, by omega, by go_num, HB1.out, HC1.out, fun j hj hji => ?_⟩
          by_cases e : j = i
          · subst e; rw [HXX.out]; exact HBB.out
          · exact HI.out j hj (by omega)
        case measure => simp [intOf]; omega
      · rw [Bool.not_eq_true] at hb
        rw [hb] at KF
        have hD : D = false := by
          rw [← HD.out]
          have : ns.all Tok.isName = false := by
            rw [List.all_eq_false]
            exact ⟨ns[i], List.getElem_mem hil, by rw [HXX.out, hb]; simp⟩
          rw [this]; rfl
        subst hD
        clear hb
        go_wp2_with fail
        refine (KF _).out.mono ?_
        rintro e w1 ⟨rfl, hb1⟩
        have HB1 := Lib.hid (HB.out.trans (hb1.mono HB.out.size))
        clear hb1 c0 c1 c2 c3 c4 hx HB HCL
        go_wp2_with fail
        go_ret
        exact ⟨rfl, HB1.out⟩
    · have HA : Hid (ns.all Tok.isName = true) := by
        show _ = _
        rw [List.all_eq_true]
        intro x hx
        obtain ⟨j, hj, rfl⟩ := List.getElem_of_mem hx
        exact HI.out j hj (by have := HM.out; omega)
      rw [HA.out, Bool.true_and] at HD
      clear hbw
      by_cases h : t.size = 0
      · rw [decide_eq_true h, Bool.true_and] at HD
        have KI := fun w1 => Lib.hid (SpecTree.in_any n 0 (M : Int) w1)
        rw [HD.out] at KI
        obtain rfl := is_text h
        clear h
        go_wp2_with fail
        refine (KI _).out.mono ?_
        rintro e w1 ⟨rfl, rfl⟩
        cases D
        all_goals
          go_wp2_with fail
          go_ret
          exact ⟨rfl, HB.out⟩
      · rw [decide_eq_false h, Bool.false_and] at HD
        have hD : D = false := HD.out.symm
        subst hD
        have hb := no_text h
        clear h
        go_wp2_with fail
        go_ret
        exact ⟨rfl, HB.out⟩
end Go.Proofs.YtdohpppkdecbdaaGreatDoor.SpecNode
