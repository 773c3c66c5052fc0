/-
  The walk of laws.FnExactBuiltinClasses: it returns true.
-/
import Derived.Test.YtnlgdkfenipmfaaBuiltin
import Derived.Test.YtnlgdkfenipmfaaStrs
import Derived.OpenShut
namespace Go.Proofs.Ytnlgdkfenipmfaa.fnExactBuiltinClassesW
open Go.RowKit
open Strs

theorem marks_row {w : World} {base g cap n : Nat} (h : w.ownsRow base 9 1 (.slice (some ⟨g, 0, none⟩) n cap) n ((marks 1 n).map Value.string)) :
    ∀ j, j < n → w.cell? ⟨g, 0 + j, none⟩ = some (.string (Mark.mark ((1 + j : Nat) : Int))) := by
  intro j hj
  rw [Nat.zero_add, h.cellAt j (by omega)]
  have hl := marks_len 1 n
  have := marks_at 1 n j hj
  rw [List.getElem?_map, List.getElem?_eq_getElem (by omega)]
  rw [List.getD, List.getElem?_eq_getElem (by omega)] at this
  simpa using this

theorem row_some {w : World} {base : Nat} {v : Value} {xs : List ByteArray} (h : w.ownsRow base 9 1 v xs.length (xs.map Value.string)) (hp : 1 ≤ xs.length) :
    ∃ g cap, v = .slice (some ⟨g, 0, none⟩) xs.length cap := by
  obtain ⟨_, ⟨_, hn⟩ | ⟨g, cap, cur, rfl, _⟩⟩ := h
  · omega
  · exact ⟨g, cap, rfl⟩

set_option maxHeartbeats 1000000 in
theorem walk (w : World) :
    Calls Try.prog 3 #[] w fun e w' => e = .returned (.bool true) ∧ Below w.heap.size w w' := by
  have HS := fun w => Lib.hid (Builtin.spec_any w)
  have HI := fun w => Lib.hid (Builtin.impl_any w)
  have hp1 : 1 ≤ Builtin.names.length := by decide
  have hp2 : Builtin.names.length ≤ 16 := by decide
  generalize Builtin.names = xs at *
  go_enter Try.func3, Try.ntmps3
  go_wp2_with fail
  refine (HS w).out.mono ?_
  rintro e w1 ⟨v0, rfl, ho0, hb1⟩
  obtain ⟨g0, c0, rfl⟩ := row_some ho0 hp1
  have A0 := Lib.hid (at_own ho0); clear ho0
  go_wp2_with fail
  refine (HI w1).out.mono ?_
  rintro e w2 ⟨v1, rfl, ho1, hb2⟩
  obtain ⟨g1, c1, rfl⟩ := row_some ho1 hp1
  have A1 := Lib.hid (at_own ho1)
  have O1 := Lib.hid ho1; clear ho1
  have B2 := Lib.hid hb2; clear hb2
  go_wp2_with fail
  refine (eq_same A1.out (A0.out.keep B2.out)).mono ?_
  rintro e w3 ⟨rfl, hb3⟩
  have O3 := Lib.hid (own_keep O1.out hb3)
  go_wp2_with fail
  refine (mark_row g1 c1 xs.length w1.heap.size 1 1 xs w3 rfl rfl (by omega) (by omega) O3.out).mono ?_
  rintro e w4 ⟨rfl, ho4, hb4⟩
  have O4 := Lib.hid ho4; clear ho4
  have B14 : Hid (Below w1.heap.size w1 w4) := (B2.out.trans (hb3.mono B2.out.size)).trans hb4
  clear hb3 hb4 O3 O1 B2 A1
  go_wp2_with fail
  refine (held_row g1 0 c1 xs.length 1 1 w4 rfl (by omega) (by omega) (marks_row O4.out)).mono ?_
  rintro e w5 ⟨rfl, hb5⟩
  have O5 := Lib.hid (own_keep O4.out hb5)
  have B15 : Hid (Below w1.heap.size w1 w5) := B14.out.trans (hb5.mono B14.out.size)
  clear hb5 O4 B14
  go_wp2_with fail
  refine (HI w5).out.mono ?_
  rintro e w6 ⟨v2, rfl, ho6, hb6⟩
  obtain ⟨g2, c2, rfl⟩ := row_some ho6 hp1
  have A2 := Lib.hid (at_own ho6); clear ho6
  have O6 := Lib.hid (own_keep O5.out hb6)
  have B16 : Hid (Below w1.heap.size w1 w6) := B15.out.trans (hb6.mono B15.out.size)
  clear hb6 O5 B15
  go_wp2_with fail
  refine (eq_same A2.out (A0.out.keep B16.out)).mono ?_
  rintro e w7 ⟨rfl, hb7⟩
  have O7 := Lib.hid (own_keep O6.out hb7)
  have B17 : Hid (Below w1.heap.size w1 w7) := B16.out.trans (hb7.mono B16.out.size)
  clear hb7 O6 B16
  go_wp2_with fail
  refine (held_row g1 0 c1 xs.length 1 1 w7 rfl (by omega) (by omega) (marks_row O7.out)).mono ?_
  rintro e w8 ⟨rfl, hb8⟩
  have B18 : Hid (Below w1.heap.size w1 w8) := B17.out.trans (hb8.mono B17.out.size)
  clear hb8 O7 B17
  go_wp2_with fail
  go_ret
  exact ⟨rfl, hb1.trans (B18.out.mono hb1.size)⟩
end Go.Proofs.Ytnlgdkfenipmfaa.fnExactBuiltinClassesW
