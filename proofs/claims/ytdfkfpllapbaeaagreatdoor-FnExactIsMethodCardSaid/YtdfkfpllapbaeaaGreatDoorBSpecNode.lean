/-
  spec.l3Node by kinds: what it answers of a node that holds nothing but a text, a number and kids.
-/
import Derived.Test.YtdfkfpllapbaeaaGreatDoorBImplLike
import Derived.Test.YtdfkfpllapbaeaaGreatDoorBSpecSel
import Derived.Test.YtdfkfpllapbaeaaGreatDoorBSpecTree2
import Derived.Deep.RegionHeld3
namespace Go.Proofs.YtdfkfpllapbaeaaGreatDoor.SpecNode
open Go.RowKit
open Strs Tree Texts TreeBox
theorem beq_no {s t : ByteArray} (h : ¬ s = t) : (s.toList == t.toList) = false := by
  refine Bool.eq_false_iff.2 fun e => h ?_
  have e1 := eq_of_beq e
  rw [ByteArray.toList_eq, ByteArray.toList_eq] at e1
  exact ByteArray.ext (Array.ext' e1)
theorem no_text {t : ByteArray} (h : ¬ t.size = 0) : t.toList.isEmpty = false := by
  rw [ByteArray.toList_eq, ← Bool.not_eq_true, List.isEmpty_iff]
  intro e
  have := congrArg List.length e
  rw [Array.length_toList] at this
  exact h this
theorem eq0 (N : Nat) : ((N : Int) == 0) = decide (N = 0) := by
  by_cases h : N = 0
  · subst h; rfl
  · rw [decide_eq_false h]; simp; omega
theorem eq1 (N : Nat) : ((N : Int) == 1) = decide (N = 1) := by
  by_cases h : N = 1
  · subst h; rfl
  · rw [decide_eq_false h]; simp; omega
theorem ne_of {a c : Int} (h : ¬ a = c) : (a != c) = true := by simpa using h
theorem is_text {t : ByteArray} (h : t.size = 0) : t = ⟨#[]⟩ := ByteArray.ext (Array.eq_empty_of_size_eq_zero h)
theorem bad1 (k n : Int) (t : ByteArray) (M : Nat) (a3 a1 : Option Addr) (cap3 N cap1 : Nat) (w : World) (h8 : ¬ k = 8) (hM : 0 < M) :
    Calls Tryz.prog 51 #[.agg #[.int .i64 k, .string t, .int .i64 n, .slice a3 M cap3, .slice a1 N cap1]] w fun r w' => r = .returned (.bool false) ∧ Below w.heap.size w w' := by
  have hM2 : (0 : Int) < (M : Int) := by omega
  have B0 : Hid (Below w.heap.size w (w.alloc (Obj.cells #[Value.int IntKind.i64 k, Value.string t, Value.int IntKind.i64 n, .slice a3 M cap3, .slice a1 N cap1] 50))) := (Below.refl _ _).alloc (Nat.le_refl _) _
  have C0 := Lib.hid (cells_new w k t n (.slice a3 M cap3) (.slice a1 N cap1) 50)
  clear C0
  go_enter Tryz.func51, Tryz.ntmps51
  go_wp2_with fail
  go_ret
  exact ⟨rfl, B0.out⟩
theorem bad2 (k n : Int) (t : ByteArray) (a3 a1 : Option Addr) (cap3 N cap1 : Nat) (w : World) (h8 : (k != 8) = true) (h1 : (k != 1) = true) (hn : (n != 0) = true) :
    Calls Tryz.prog 51 #[.agg #[.int .i64 k, .string t, .int .i64 n, .slice a3 0 cap3, .slice a1 N cap1]] w fun r w' => r = .returned (.bool false) ∧ Below w.heap.size w w' := by
  have B0 : Hid (Below w.heap.size w (w.alloc (Obj.cells #[Value.int IntKind.i64 k, Value.string t, Value.int IntKind.i64 n, .slice a3 0 cap3, .slice a1 N cap1] 50))) := (Below.refl _ _).alloc (Nat.le_refl _) _
  have C0 := Lib.hid (cells_new w k t n (.slice a3 0 cap3) (.slice a1 N cap1) 50)
  clear C0
  go_enter Tryz.func51, Tryz.ntmps51
  go_wp2_with fail
  go_ret
  exact ⟨rfl, B0.out⟩
theorem other (k : Int) (t : ByteArray) (a3 a1 : Option Addr) (cap3 N cap1 : Nat) (w : World) (h1 : ¬ k = 1) (h2 : ¬ k = 2) (h3 : ¬ k = 3) (h4 : ¬ k = 4) (h5 : ¬ k = 5) (h6 : ¬ k = 6) (h7 : ¬ k = 7) (h8 : ¬ k = 8) (h9 : ¬ k = 9) :
    Calls Tryz.prog 51 #[.agg #[.int .i64 k, .string t, .int .i64 0, .slice a3 0 cap3, .slice a1 N cap1]] w fun r w' => r = .returned (.bool false) ∧ Below w.heap.size w w' := by
  have B0 : Hid (Below w.heap.size w (w.alloc (Obj.cells #[Value.int IntKind.i64 k, Value.string t, Value.int IntKind.i64 0, .slice a3 0 cap3, .slice a1 N cap1] 50))) := (Below.refl _ _).alloc (Nat.le_refl _) _
  have C0 := Lib.hid (cells_new w k t 0 (.slice a3 0 cap3) (.slice a1 N cap1) 50)
  clear C0
  go_enter Tryz.func51, Tryz.ntmps51
  go_wp2_with fail
  go_ret
  exact ⟨rfl, B0.out⟩
theorem kind2 (t : ByteArray) (a3 a1 : Option Addr) (cap3 N cap1 : Nat) (w : World) (ht : t.size ≤ 1048576) :
    Calls Tryz.prog 51 #[.agg #[.int .i64 2, .string t, .int .i64 0, .slice a3 0 cap3, .slice a1 N cap1]] w fun r w' => r = .returned (.bool (isText t && decide (N = 0))) ∧ Below w.heap.size w w' := by
  have B0 : Hid (Below w.heap.size w (w.alloc (Obj.cells #[Value.int IntKind.i64 2, Value.string t, Value.int IntKind.i64 0, .slice a3 0 cap3, .slice a1 N cap1] 50))) := (Below.refl _ _).alloc (Nat.le_refl _) _
  have C0 := Lib.hid (cells_new w 2 t 0 (.slice a3 0 cap3) (.slice a1 N cap1) 50)
  have KF := fun w1 => Lib.hid (SpecTree.istext_any t w1 (by unfold maxLen; omega))
  generalize isText t = b at *
  by_cases hb : b = false
  ·
    subst hb
    go_enter Tryz.func51, Tryz.ntmps51
    go_wp2_with fail
    refine (KF _).out.mono ?_
    rintro e w1 ⟨rfl, rfl⟩
    go_wp2_with fail
    go_ret
    exact ⟨rfl, B0.out⟩
  · rw [Bool.not_eq_false] at hb
    subst hb
    go_enter Tryz.func51, Tryz.ntmps51
    go_wp2_with fail
    refine (KF _).out.mono ?_
    rintro e w1 ⟨rfl, rfl⟩
    go_wp2_with fail
    go_ret
    exact ⟨(by rw [Bool.true_and, ← eq0 N] : Ending.returned (.bool ((N : Int) == 0)) = _), B0.out⟩
theorem kind3 (t : ByteArray) (a3 a1 : Option Addr) (cap3 N cap1 : Nat) (w : World) (ht : t.size ≤ 1048576) :
    Calls Tryz.prog 51 #[.agg #[.int .i64 3, .string t, .int .i64 0, .slice a3 0 cap3, .slice a1 N cap1]] w fun r w' => r = .returned (.bool (Tok.sel t && decide (N = 0))) ∧ Below w.heap.size w w' := by
  have B0 : Hid (Below w.heap.size w (w.alloc (Obj.cells #[Value.int IntKind.i64 3, Value.string t, Value.int IntKind.i64 0, .slice a3 0 cap3, .slice a1 N cap1] 50))) := (Below.refl _ _).alloc (Nat.le_refl _) _
  have C0 := Lib.hid (cells_new w 3 t 0 (.slice a3 0 cap3) (.slice a1 N cap1) 50)
  have KF := fun w1 => Lib.hid (SpecSel.sel_any t w1 ht)
  generalize Tok.sel t = b at *
  by_cases hb : b = false
  ·
    subst hb
    go_enter Tryz.func51, Tryz.ntmps51
    go_wp2_with fail
    refine (KF _).out.mono ?_
    rintro e w1 ⟨rfl, hb1⟩
    replace B0 := Lib.hid (B0.out.trans (hb1.mono B0.out.size))
    clear hb1
    go_wp2_with fail
    go_ret
    exact ⟨rfl, B0.out⟩
  · rw [Bool.not_eq_false] at hb
    subst hb
    go_enter Tryz.func51, Tryz.ntmps51
    go_wp2_with fail
    refine (KF _).out.mono ?_
    rintro e w1 ⟨rfl, hb1⟩
    replace B0 := Lib.hid (B0.out.trans (hb1.mono B0.out.size))
    clear hb1
    go_wp2_with fail
    go_ret
    exact ⟨(by rw [Bool.true_and, ← eq0 N] : Ending.returned (.bool ((N : Int) == 0)) = _), B0.out⟩
theorem kind4 (t : ByteArray) (a3 a1 : Option Addr) (cap3 N cap1 : Nat) (w : World) (ht : t.size ≤ 1048576) :
    Calls Tryz.prog 51 #[.agg #[.int .i64 4, .string t, .int .i64 0, .slice a3 0 cap3, .slice a1 N cap1]] w fun r w' => r = .returned (.bool (Tok.isName t && decide (N = 0))) ∧ Below w.heap.size w w' := by
  have B0 : Hid (Below w.heap.size w (w.alloc (Obj.cells #[Value.int IntKind.i64 4, Value.string t, Value.int IntKind.i64 0, .slice a3 0 cap3, .slice a1 N cap1] 50))) := (Below.refl _ _).alloc (Nat.le_refl _) _
  have C0 := Lib.hid (cells_new w 4 t 0 (.slice a3 0 cap3) (.slice a1 N cap1) 50)
  have KF := fun w1 => Lib.hid (SpecName.isname_any t w1 ht)
  generalize Tok.isName t = b at *
  by_cases hb : b = false
  ·
    subst hb
    go_enter Tryz.func51, Tryz.ntmps51
    go_wp2_with fail
    refine (KF _).out.mono ?_
    rintro e w1 ⟨rfl, hb1⟩
    replace B0 := Lib.hid (B0.out.trans (hb1.mono B0.out.size))
    clear hb1
    go_wp2_with fail
    go_ret
    exact ⟨rfl, B0.out⟩
  · rw [Bool.not_eq_false] at hb
    subst hb
    go_enter Tryz.func51, Tryz.ntmps51
    go_wp2_with fail
    refine (KF _).out.mono ?_
    rintro e w1 ⟨rfl, hb1⟩
    replace B0 := Lib.hid (B0.out.trans (hb1.mono B0.out.size))
    clear hb1
    go_wp2_with fail
    go_ret
    exact ⟨(by rw [Bool.true_and, ← eq0 N] : Ending.returned (.bool ((N : Int) == 0)) = _), B0.out⟩
theorem kind5 (t : ByteArray) (a3 a1 : Option Addr) (cap3 N cap1 : Nat) (w : World) (ht : t.size ≤ 1048576) :
    Calls Tryz.prog 51 #[.agg #[.int .i64 5, .string t, .int .i64 0, .slice a3 0 cap3, .slice a1 N cap1]] w fun r w' => r = .returned (.bool (Tok.isName t && decide (N = 1))) ∧ Below w.heap.size w w' := by
  have B0 : Hid (Below w.heap.size w (w.alloc (Obj.cells #[Value.int IntKind.i64 5, Value.string t, Value.int IntKind.i64 0, .slice a3 0 cap3, .slice a1 N cap1] 50))) := (Below.refl _ _).alloc (Nat.le_refl _) _
  have C0 := Lib.hid (cells_new w 5 t 0 (.slice a3 0 cap3) (.slice a1 N cap1) 50)
  have KF := fun w1 => Lib.hid (SpecName.isname_any t w1 ht)
  generalize Tok.isName t = b at *
  by_cases hb : b = false
  ·
    subst hb
    go_enter Tryz.func51, Tryz.ntmps51
    go_wp2_with fail
    refine (KF _).out.mono ?_
    rintro e w1 ⟨rfl, hb1⟩
    replace B0 := Lib.hid (B0.out.trans (hb1.mono B0.out.size))
    clear hb1
    go_wp2_with fail
    go_ret
    exact ⟨rfl, B0.out⟩
  · rw [Bool.not_eq_false] at hb
    subst hb
    go_enter Tryz.func51, Tryz.ntmps51
    go_wp2_with fail
    refine (KF _).out.mono ?_
    rintro e w1 ⟨rfl, hb1⟩
    replace B0 := Lib.hid (B0.out.trans (hb1.mono B0.out.size))
    clear hb1
    go_wp2_with fail
    go_ret
    exact ⟨(by rw [Bool.true_and, ← eq1 N] : Ending.returned (.bool ((N : Int) == 1)) = _), B0.out⟩
theorem kind9 (t : ByteArray) (a3 a1 : Option Addr) (cap3 N cap1 : Nat) (w : World) :
    Calls Tryz.prog 51 #[.agg #[.int .i64 9, .string t, .int .i64 0, .slice a3 0 cap3, .slice a1 N cap1]] w fun r w' => r = .returned (.bool (decide (t.size = 0) && decide (N = 1))) ∧ Below w.heap.size w w' := by
  by_cases h : t.size = 0
  · obtain rfl := is_text h
    have B0 : Hid (Below w.heap.size w (w.alloc (Obj.cells #[Value.int IntKind.i64 9, Value.string ⟨#[]⟩, Value.int IntKind.i64 0, .slice a3 0 cap3, .slice a1 N cap1] 50))) := (Below.refl _ _).alloc (Nat.le_refl _) _
    have C0 := Lib.hid (cells_new w 9 ⟨#[]⟩ 0 (.slice a3 0 cap3) (.slice a1 N cap1) 50)
    clear C0
    go_enter Tryz.func51, Tryz.ntmps51
    go_wp2_with fail
    go_ret
    exact ⟨(by rw [decide_eq_true h, Bool.true_and, ← eq1 N] : Ending.returned (.bool ((N : Int) == 1)) = _), B0.out⟩
  · rw [decide_eq_false h]
    have hb := no_text h
    have B0 : Hid (Below w.heap.size w (w.alloc (Obj.cells #[Value.int IntKind.i64 9, Value.string t, Value.int IntKind.i64 0, .slice a3 0 cap3, .slice a1 N cap1] 50))) := (Below.refl _ _).alloc (Nat.le_refl _) _
    have C0 := Lib.hid (cells_new w 9 t 0 (.slice a3 0 cap3) (.slice a1 N cap1) 50)
    clear C0 h
    go_enter Tryz.func51, Tryz.ntmps51
    go_wp2_with fail
    go_ret
    exact ⟨rfl, B0.out⟩
theorem kind1 (t : ByteArray) (n : Int) (a3 a1 : Option Addr) (cap3 N cap1 : Nat) (w : World) :
    Calls Tryz.prog 51 #[.agg #[.int .i64 1, .string t, .int .i64 n, .slice a3 0 cap3, .slice a1 N cap1]] w fun r w' => r = .returned (.bool (decide (t.size = 0) && (decide (0 ≤ n ∧ n ≤ 999999999) && decide (N = 0)))) ∧ Below w.heap.size w w' := by
  by_cases h : t.size = 0
  · rw [decide_eq_true h]
    obtain rfl := is_text h
    have B0 : Hid (Below w.heap.size w (w.alloc (Obj.cells #[Value.int IntKind.i64 1, Value.string ⟨#[]⟩, Value.int IntKind.i64 n, .slice a3 0 cap3, .slice a1 N cap1] 50))) := (Below.refl _ _).alloc (Nat.le_refl _) _
    have C0 := Lib.hid (cells_new w 1 ⟨#[]⟩ n (.slice a3 0 cap3) (.slice a1 N cap1) 50)
    have KI := fun w1 => Lib.hid (SpecTree.in_any n 0 999999999 w1)
    generalize decide (0 ≤ n ∧ n ≤ 999999999) = b at *
    clear h
    by_cases hb : b = false
    · subst hb
      go_enter Tryz.func51, Tryz.ntmps51
      go_wp2_with fail
      refine (KI _).out.mono ?_
      rintro e w1 ⟨rfl, rfl⟩
      clear C0
      go_wp2_with fail
      go_ret
      exact ⟨rfl, B0.out⟩
    · rw [Bool.not_eq_false] at hb
      subst hb
      go_enter Tryz.func51, Tryz.ntmps51
      go_wp2_with fail
      refine (KI _).out.mono ?_
      rintro e w1 ⟨rfl, rfl⟩
      clear C0
      go_wp2_with fail
      go_ret
      exact ⟨(by rw [Bool.true_and, Bool.true_and, ← eq0 N] : Ending.returned (.bool ((N : Int) == 0)) = _), B0.out⟩
  · rw [decide_eq_false h]
    have hb := no_text h
    have B0 : Hid (Below w.heap.size w (w.alloc (Obj.cells #[Value.int IntKind.i64 1, Value.string t, Value.int IntKind.i64 n, .slice a3 0 cap3, .slice a1 N cap1] 50))) := (Below.refl _ _).alloc (Nat.le_refl _) _
    have C0 := Lib.hid (cells_new w 1 t n (.slice a3 0 cap3) (.slice a1 N cap1) 50)
    clear C0 h
    go_enter Tryz.func51, Tryz.ntmps51
    go_wp2_with fail
    go_ret
    exact ⟨rfl, B0.out⟩
theorem count_range (t : ByteArray) : -1 ≤ Tok.countArgs t ∧ Tok.countArgs t ≤ (t.size : Int) + 1 := by
  unfold Tok.countArgs
  have h := Cuts.parts_len t 58
  split
  · split
    · omega
    · omega
  · omega
theorem kind6 (t : ByteArray) (a3 a1 : Option Addr) (cap3 N cap1 : Nat) (w : World) (ht : t.size ≤ 1048576) :
    Calls Tryz.prog 51 #[.agg #[.int .i64 6, .string t, .int .i64 0, .slice a3 0 cap3, .slice a1 N cap1]] w fun r w' => r = .returned (.bool (decide ((N : Int) = Tok.countArgs t + 1) && decide (0 < N))) ∧ Below w.heap.size w w' := by
  have B0 : Hid (Below w.heap.size w (w.alloc (Obj.cells #[Value.int IntKind.i64 6, Value.string t, Value.int IntKind.i64 0, .slice a3 0 cap3, .slice a1 N cap1] 50))) := (Below.refl _ _).alloc (Nat.le_refl _) _
  have C0 := Lib.hid (cells_new w 6 t 0 (.slice a3 0 cap3) (.slice a1 N cap1) 50)
  have KF := fun w1 => Lib.hid (SpecSel.count_any t w1 ht)
  obtain ⟨hc1, hc2⟩ := count_range t
  generalize Tok.countArgs t = c at *
  by_cases h : (N : Int) = c + 1
  · have hb : ((N : Int) == c + 1) = true := by simpa using h
    rw [decide_eq_true h]
    by_cases hp : 0 < N
    · rw [decide_eq_true hp]
      clear h
      go_enter Tryz.func51, Tryz.ntmps51
      go_wp2_with fail
      refine (KF _).out.mono ?_
      rintro e w1 ⟨rfl, hb1⟩
      replace B0 := Lib.hid (B0.out.trans (hb1.mono B0.out.size))
      clear C0 hb1
      go_wp2_with fail
      go_ret
      exact ⟨rfl, B0.out⟩
    · rw [decide_eq_false hp]
      clear h
      go_enter Tryz.func51, Tryz.ntmps51
      go_wp2_with fail
      refine (KF _).out.mono ?_
      rintro e w1 ⟨rfl, hb1⟩
      replace B0 := Lib.hid (B0.out.trans (hb1.mono B0.out.size))
      clear C0 hb1
      go_wp2_with fail
      go_ret
      exact ⟨rfl, B0.out⟩
  · have hb : ((N : Int) == c + 1) = false := by simpa using h
    rw [decide_eq_false h]
    clear h
    go_enter Tryz.func51, Tryz.ntmps51
    go_wp2_with fail
    refine (KF _).out.mono ?_
    rintro e w1 ⟨rfl, hb1⟩
    replace B0 := Lib.hid (B0.out.trans (hb1.mono B0.out.size))
    clear C0 hb1
    go_wp2_with fail
    go_ret
    exact ⟨rfl, B0.out⟩
end Go.Proofs.YtdfkfpllapbaeaaGreatDoor.SpecNode
