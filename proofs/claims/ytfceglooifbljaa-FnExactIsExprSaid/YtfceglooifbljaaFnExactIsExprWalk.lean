/-
  The walk of laws.FnExactIsExpr: it returns true at every tree.
-/
import Derived.Test.YtfceglooifbljaaTreeLaw
import Derived.Test.YtfceglooifbljaaSpecRight2
import Derived.Test.YtfceglooifbljaaImplIsExpr
namespace Go.Proofs.Ytfceglooifbljaa.fnExactIsExprW
open Go.RowKit
open Strs Tree Texts TreeLaw TreeBox

set_option maxHeartbeats 1000000 in
theorem walk (t : E) (v : Value) (w : World) (h : Reads 0 w t v) :
    Calls Try.prog 3 #[v] w fun e w' => e = .returned (.bool true) ∧ Below w.heap.size w w' := by
  obtain ⟨vn, vk, rfl, hn⟩ := h
  have C0 := Lib.hid (cells_new w t.kind t.text t.num vn vk 25)
  have B0 : Hid (Below w.heap.size w (w.alloc (Obj.cells #[Value.int IntKind.i64 t.kind, Value.string t.text, Value.int IntKind.i64 t.num, vn, vk] 25))) := (Below.refl _ _).alloc (Nat.le_refl _) _
  by_cases hle : weight t ≤ 1048576
  · have KC := fun w' (hb : Below w.heap.size w w') => Lib.hid (TreeTo.any t 0 w' vn vk hle (hn.below hb))
    have KS := fun w' v lo h => Lib.hid (SpecRight.is_expr (e := t) (v := v) (w := w') (lo := lo) h hle)
    have KI := fun w' v lo h hs => Lib.hid (ImplRight.is_expr (e := t) (v := v) (w := w') (lo := lo) h hs hle)
    have KC2 := fun w' (hb : Below w.heap.size w w') => Lib.hid (TreeTo.any2 t 0 w' vn vk hle (hn.below hb))
    have KZ := Lib.hid (sz_yes0 (hn.below B0.out) hle)
    generalize isExpr t = z at *
    generalize 1048576 - weight t = left at *
    clear hn hle
    go_enter Try.func3, Try.ntmps3
    go_wp2_with fail
    refine KZ.out.mono ?_
    rintro e w1 ⟨rfl, hb1⟩
    have B1 : Hid (Below w.heap.size w w1) := B0.out.trans (hb1.mono B0.out.size)
    have C1 := Lib.hid (C0.out.step hb1)
    obtain ⟨-, a0, a1, a2, a3, a4⟩ := C1.out
    clear hb1 KZ B0 C0
    go_wp2_with fail
    refine (KC _ B1.out).out.mono ?_
    rintro e w2 ⟨v2, rfl, hr2, hb2⟩
    have B2 : Hid (Below w.heap.size w w2) := B1.out.trans (hb2.mono B1.out.size)
    have C2 := Lib.hid (C1.out.step hb2)
    clear a0 a1 a2 a3 a4 C1
    obtain ⟨-, a0, a1, a2, a3, a4⟩ := C2.out
    have R2 := Lib.hid hr2
    clear hb2 B1 hr2
    go_wp2_with fail
    refine (KS _ _ _ R2.out).out.mono ?_
    rintro e w3 ⟨rfl, hb3⟩
    have B3 : Hid (Below w.heap.size w w3) := B2.out.trans (hb3.mono B2.out.size)
    have C3 := Lib.hid (C2.out.step hb3)
    clear a0 a1 a2 a3 a4 C2
    obtain ⟨-, a0, a1, a2, a3, a4⟩ := C3.out
    clear hb3 B2 R2
    go_wp2_with fail
    refine (KC2 _ B3.out).out.mono ?_
    rintro e w4 ⟨v4, rfl, ⟨yn, yk, rfl, hy⟩, ⟨_, _, _, _, _, hse, hso⟩, hb4⟩
    cases hse
    clear KC2
    obtain ⟨-, -, -, ⟨x1, p1, rfl, -⟩, ⟨x2, p2, rfl, -⟩⟩ := node_iff.1 hy
    generalize t.names.length = n1 at *
    generalize t.kids.length = n2 at *
    have G0 := Lib.hid (cells_new w4 t.kind t.text t.num (.slice x1 n1 p1) (.slice x2 n2 p2) 30)
    have A0 : Below w4.heap.size w4 (w4.alloc (Obj.cells #[Value.int IntKind.i64 t.kind, Value.string t.text, Value.int IntKind.i64 t.num, .slice x1 n1 p1, .slice x2 n2 p2] 30)) := (Below.refl _ _).alloc (Nat.le_refl _) _
    have B4 : Hid (Below w.heap.size w (w4.alloc (Obj.cells #[Value.int IntKind.i64 t.kind, Value.string t.text, Value.int IntKind.i64 t.num, .slice x1 n1 p1, .slice x2 n2 p2] 30))) := (B3.out.trans (hb4.mono B3.out.size)).trans (A0.mono (B3.out.trans (hb4.mono B3.out.size)).size)
    have C4 := Lib.hid ((C3.out.step hb4).step A0)
    have R4 : Hid (Reads w3.heap.size (w4.alloc (Obj.cells #[Value.int IntKind.i64 t.kind, Value.string t.text, Value.int IntKind.i64 t.num, .slice x1 n1 p1, .slice x2 n2 p2] 30)) t (.agg #[.int .i64 t.kind, .string t.text, .int .i64 t.num, .slice x1 n1 p1, .slice x2 n2 p2])) := ⟨_, _, rfl, hy.below A0⟩
    have S4 : Hid (TreeTo.SoftV w3.heap.size (w4.alloc (Obj.cells #[Value.int IntKind.i64 t.kind, Value.string t.text, Value.int IntKind.i64 t.num, .slice x1 n1 p1, .slice x2 n2 p2] 30)) t (.agg #[.int .i64 t.kind, .string t.text, .int .i64 t.num, .slice x1 n1 p1, .slice x2 n2 p2])) := ⟨_, _, _, _, _, rfl, Soft.Soft.keep (Nat.le_refl _) (Soft.keptF_below A0) _ _ hso⟩
    clear hso
    obtain ⟨_, q0, q1, q2, q3, q4⟩ := C3.out.step hb4
    clear a0 a1 a2 a3 a4 C3 B3 hb4 A0 hy
    go_wp2_with fail
    refine (KI _ _ _ R4.out S4.out).out.mono ?_
    rintro e w5 ⟨rfl, hb5⟩
    have B5 : Hid (Below w.heap.size w w5) := B4.out.trans (hb5.mono B4.out.size)
    have C5 := Lib.hid (C4.out.step hb5)
    have G5 := Lib.hid (G0.out.step hb5)
    have R5 := Lib.hid (R4.out.below hb5)
    clear q0 q1 q2 q3 q4 hb5 B4 R4 C4 G0
    generalize w4.heap.size = g at *
    obtain ⟨-, a0, a1, a2, a3, a4⟩ := C5.out
    obtain ⟨-, b0, b1, b2, b3, b4⟩ := G5.out
    go_wp2_with fail
    go_region_held3 (fun w' => w'.cell? ⟨w.heap.size, 0, none⟩ = some (.int .i64 t.kind) ∧ w'.cell? ⟨w.heap.size, 1, none⟩ = some (.string t.text) ∧ w'.cell? ⟨w.heap.size, 2, none⟩ = some (.int .i64 t.num) ∧ w'.cell? ⟨w.heap.size, 3, none⟩ = some vn ∧ w'.cell? ⟨w.heap.size, 4, none⟩ = some vk ∧ w'.cell? ⟨g, 0, none⟩ = some (.int .i64 t.kind) ∧ w'.cell? ⟨g, 1, none⟩ = some (.string t.text) ∧ w'.cell? ⟨g, 2, none⟩ = some (.int .i64 t.num) ∧ w'.cell? ⟨g, 3, none⟩ = some (.slice x1 n1 p1) ∧ w'.cell? ⟨g, 4, none⟩ = some (.slice x2 n2 p2))
      (first | exact ⟨a0, a1, a2, a3, a4, b0, b1, b2, b3, b4⟩ | exact ⟨cell_keep hb7 (cell_keep hb6 (show w5.drew.cell? _ = _ from a0)), cell_keep hb7 (cell_keep hb6 (show w5.drew.cell? _ = _ from a1)), cell_keep hb7 (cell_keep hb6 (show w5.drew.cell? _ = _ from a2)), cell_keep hb7 (cell_keep hb6 (show w5.drew.cell? _ = _ from a3)), cell_keep hb7 (cell_keep hb6 (show w5.drew.cell? _ = _ from a4)), cell_keep hb7 (cell_keep hb6 (show w5.drew.cell? _ = _ from b0)), cell_keep hb7 (cell_keep hb6 (show w5.drew.cell? _ = _ from b1)), cell_keep hb7 (cell_keep hb6 (show w5.drew.cell? _ = _ from b2)), cell_keep hb7 (cell_keep hb6 (show w5.drew.cell? _ = _ from b3)), cell_keep hb7 (cell_keep hb6 (show w5.drew.cell? _ = _ from b4))⟩ | exact ⟨cell_keep hb6 (show w5.drew.cell? _ = _ from a0), cell_keep hb6 (show w5.drew.cell? _ = _ from a1), cell_keep hb6 (show w5.drew.cell? _ = _ from a2), cell_keep hb6 (show w5.drew.cell? _ = _ from a3), cell_keep hb6 (show w5.drew.cell? _ = _ from a4), cell_keep hb6 (show w5.drew.cell? _ = _ from b0), cell_keep hb6 (show w5.drew.cell? _ = _ from b1), cell_keep hb6 (show w5.drew.cell? _ = _ from b2), cell_keep hb6 (show w5.drew.cell? _ = _ from b3), cell_keep hb6 (show w5.drew.cell? _ = _ from b4)⟩ | go_keep)
      (first
        | (go_at_call 6; refine (KC _ B5.out.drew).out.mono ?_; rintro e w6 ⟨v6, rfl, hr6, hb6⟩)
        | (go_at_call 8; refine (TreeEq.same ((R5.out.below (w' := w5.drew) ((Below.refl _ _).drew)).below hb6) hr6).mono ?_; rintro e w7 ⟨rfl, hb7⟩))
    all_goals
      have B7 := Lib.hid (B5.out.drew.trans (hb6.mono B5.out.size))
      have B8 : Hid (Below w.heap.size w w7) := B7.out.trans (hb7.mono B7.out.size)
      go_wp2_with fail
      go_ret
      exact ⟨rfl, B8.out⟩
  · have KZ := Lib.hid (sz_no0 (hn.below B0.out) (by omega))
    clear hn hle
    go_enter Try.func3, Try.ntmps3
    go_wp2_with fail
    refine KZ.out.mono ?_
    rintro e w1 ⟨rfl, hb1⟩
    have B1 : Hid (Below w.heap.size w w1) := B0.out.trans (hb1.mono B0.out.size)
    clear hb1 KZ B0 C0
    go_wp2_with fail
    go_ret
    exact ⟨rfl, B1.out⟩
end Go.Proofs.Ytfceglooifbljaa.fnExactIsExprW
