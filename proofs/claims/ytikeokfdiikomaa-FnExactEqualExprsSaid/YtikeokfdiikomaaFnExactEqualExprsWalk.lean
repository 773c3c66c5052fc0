/-
  The walk of laws.FnExactEqualExprs: it returns true at every two trees.
-/
import Derived.Test.YtikeokfdiikomaaTreeLaw
import Derived.Test.YtikeokfdiikomaaSpecEqual
import Derived.Test.YtikeokfdiikomaaImplEqual
namespace Go.Proofs.Ytikeokfdiikomaa.fnExactEqualExprsW
open Go.RowKit
open Strs Tree Texts TreeLaw TreeBox

set_option maxHeartbeats 2000000 in
theorem walk (s : E) (u : Value) (t : E) (v : Value) (w : World) (h1 : Reads 0 w s u) (h2 : Reads 0 w t v) :
    Calls Try.prog 5 #[u, v] w fun e w' => e = .returned (.bool true) ∧ Below w.heap.size w w' := by
  obtain ⟨un, uk, rfl, hs⟩ := h1
  obtain ⟨vn, vk, rfl, ht⟩ := h2
  have B0 : Hid (Below w.heap.size w ((w.alloc (Obj.cells #[Value.int IntKind.i64 s.kind, Value.string s.text, Value.int IntKind.i64 s.num, un, uk] 25)).alloc (Obj.cells #[Value.int IntKind.i64 t.kind, Value.string t.text, Value.int IntKind.i64 t.num, vn, vk] 25))) := ((Below.refl _ _).alloc (Nat.le_refl _) _).alloc (by simp) _
  have C0 := Lib.hid ((cells_new w s.kind s.text s.num un uk 25).step ((Below.refl _ _).alloc (Nat.le_refl _) (Obj.cells #[Value.int IntKind.i64 t.kind, Value.string t.text, Value.int IntKind.i64 t.num, vn, vk] 25)))
  have D0 := cells_new (w.alloc (Obj.cells #[Value.int IntKind.i64 s.kind, Value.string s.text, Value.int IntKind.i64 s.num, un, uk] 25)) t.kind t.text t.num vn vk 25
  rw [show (w.alloc (Obj.cells #[Value.int IntKind.i64 s.kind, Value.string s.text, Value.int IntKind.i64 s.num, un, uk] 25)).heap.size = w.heap.size + 1 by simp] at D0
  have D0 := Lib.hid D0
  by_cases hs1 : weight s ≤ 1048576
  case neg =>
    have KZ := Lib.hid (sz_no0 (hs.below B0.out) (by omega))
    clear hs ht
    go_enter Try.func5, Try.ntmps5
    go_wp2_with fail
    refine KZ.out.mono ?_
    rintro e w1 ⟨rfl, hb1⟩
    have B1 : Hid (Below w.heap.size w w1) := B0.out.trans (hb1.mono B0.out.size)
    clear hb1 KZ B0 C0 D0
    go_wp2_with fail
    go_ret
    exact ⟨rfl, B1.out⟩
  have KZ := Lib.hid (sz_yes0 (hs.below B0.out) hs1)
  obtain ⟨l1, hl1⟩ : ∃ l1 : Nat, 1048576 - weight s = l1 := ⟨_, rfl⟩
  rw [hl1] at KZ
  by_cases ht1 : weight t ≤ l1
  case neg =>
    have KY := fun w' (hb : Below w.heap.size w w') => Lib.hid (sz_no (left := l1) (ht.below hb) (by omega) (by omega))
    clear hs ht hl1 ht1
    go_enter Try.func5, Try.ntmps5
    go_wp2_with fail
    refine KZ.out.mono ?_
    rintro e w1 ⟨rfl, hb1⟩
    have B1 : Hid (Below w.heap.size w w1) := B0.out.trans (hb1.mono B0.out.size)
    obtain ⟨-, d0, d1, d2, d3, d4⟩ := D0.out.step hb1
    clear hb1 KZ B0 C0 D0
    go_wp2_with fail
    refine (KY _ B1.out).out.mono ?_
    rintro e w2 ⟨rfl, hb2⟩
    have B2 : Hid (Below w.heap.size w w2) := B1.out.trans (hb2.mono B1.out.size)
    clear hb2 KY B1 d0 d1 d2 d3 d4
    go_wp2_with fail
    go_ret
    exact ⟨rfl, B2.out⟩
  have KY := fun w' (hb : Below w.heap.size w w') => Lib.hid (sz_yes (left := l1) (ht.below hb) (by omega) ht1)
  have ht2 : weight t ≤ 1048576 := by omega
  have KS := fun w' (hb : Below w.heap.size w w') => Lib.hid (TreeTo.any s 0 w' un uk hs1 (hs.below hb))
  have KT := fun w' (hb : Below w.heap.size w w') => Lib.hid (TreeTo.any t 0 w' vn vk ht2 (ht.below hb))
  have KE := fun w' v1 v2 lo1 lo2 h1 h2 => Lib.hid (SpecEqual.equal_any (e := s) (f := t) (v1 := v1) (v2 := v2) (w := w') (lo1 := lo1) (lo2 := lo2) h1 h2)
  have hz : size s ≤ 1048577 := by have := size_weight s; omega
  have KI := fun w' v1 v2 lo1 lo2 h1 h2 s1 s2 => Lib.hid (ImplEqual.equal_any (e := s) (f := t) (v1 := v1) (v2 := v2) (w := w') (lo1 := lo1) (lo2 := lo2) h1 h2 s1 s2 hz)
  have KS2 := fun w' (hb : Below w.heap.size w w') => Lib.hid (TreeTo.any2 s 0 w' un uk hs1 (hs.below hb))
  have KT2 := fun w' (hb : Below w.heap.size w w') => Lib.hid (TreeTo.any2 t 0 w' vn vk ht2 (ht.below hb))
  clear hz
  generalize eqE s t = z at *
  generalize l1 - weight t = l2 at *
  clear hs ht hl1 ht1 ht2 hs1
  go_enter Try.func5, Try.ntmps5
  go_wp2_with fail
  refine KZ.out.mono ?_
  rintro e w1 ⟨rfl, hb1⟩
  have B1 : Hid (Below w.heap.size w w1) := B0.out.trans (hb1.mono B0.out.size)
  have C1 := Lib.hid (C0.out.step hb1)
  have D1 := Lib.hid (D0.out.step hb1)
  clear hb1 KZ B0 C0 D0
  obtain ⟨-, d0, d1, d2, d3, d4⟩ := D1.out
  go_wp2_with fail
  refine (KY _ B1.out).out.mono ?_
  rintro e w2 ⟨rfl, hb2⟩
  have B2 : Hid (Below w.heap.size w w2) := B1.out.trans (hb2.mono B1.out.size)
  have C2 := Lib.hid (C1.out.step hb2)
  have D2 := Lib.hid (D1.out.step hb2)
  clear hb2 KY B1 C1 D1 d0 d1 d2 d3 d4
  obtain ⟨-, c0, c1, c2, c3, c4⟩ := C2.out
  obtain ⟨-, d0, d1, d2, d3, d4⟩ := D2.out
  go_wp2_with fail
  go_region_held3 (fun w' => w'.cell? ⟨w.heap.size, 0, none⟩ = some (.int .i64 s.kind) ∧ w'.cell? ⟨w.heap.size, 1, none⟩ = some (.string s.text) ∧ w'.cell? ⟨w.heap.size, 2, none⟩ = some (.int .i64 s.num) ∧ w'.cell? ⟨w.heap.size, 3, none⟩ = some un ∧ w'.cell? ⟨w.heap.size, 4, none⟩ = some uk ∧ w'.cell? ⟨w.heap.size + 1, 0, none⟩ = some (.int .i64 t.kind) ∧ w'.cell? ⟨w.heap.size + 1, 1, none⟩ = some (.string t.text) ∧ w'.cell? ⟨w.heap.size + 1, 2, none⟩ = some (.int .i64 t.num) ∧ w'.cell? ⟨w.heap.size + 1, 3, none⟩ = some vn ∧ w'.cell? ⟨w.heap.size + 1, 4, none⟩ = some vk)
    (first | exact ⟨cell_keep hb5 (cell_keep hb4 (cell_keep hb3 (show w2.drew.cell? _ = _ from c0))), cell_keep hb5 (cell_keep hb4 (cell_keep hb3 (show w2.drew.cell? _ = _ from c1))), cell_keep hb5 (cell_keep hb4 (cell_keep hb3 (show w2.drew.cell? _ = _ from c2))), cell_keep hb5 (cell_keep hb4 (cell_keep hb3 (show w2.drew.cell? _ = _ from c3))), cell_keep hb5 (cell_keep hb4 (cell_keep hb3 (show w2.drew.cell? _ = _ from c4))), cell_keep hb5 (cell_keep hb4 (cell_keep hb3 (show w2.drew.cell? _ = _ from d0))), cell_keep hb5 (cell_keep hb4 (cell_keep hb3 (show w2.drew.cell? _ = _ from d1))), cell_keep hb5 (cell_keep hb4 (cell_keep hb3 (show w2.drew.cell? _ = _ from d2))), cell_keep hb5 (cell_keep hb4 (cell_keep hb3 (show w2.drew.cell? _ = _ from d3))), cell_keep hb5 (cell_keep hb4 (cell_keep hb3 (show w2.drew.cell? _ = _ from d4)))⟩ | exact ⟨cell_keep hb4 (cell_keep hb3 (show w2.drew.cell? _ = _ from c0)), cell_keep hb4 (cell_keep hb3 (show w2.drew.cell? _ = _ from c1)), cell_keep hb4 (cell_keep hb3 (show w2.drew.cell? _ = _ from c2)), cell_keep hb4 (cell_keep hb3 (show w2.drew.cell? _ = _ from c3)), cell_keep hb4 (cell_keep hb3 (show w2.drew.cell? _ = _ from c4)), cell_keep hb4 (cell_keep hb3 (show w2.drew.cell? _ = _ from d0)), cell_keep hb4 (cell_keep hb3 (show w2.drew.cell? _ = _ from d1)), cell_keep hb4 (cell_keep hb3 (show w2.drew.cell? _ = _ from d2)), cell_keep hb4 (cell_keep hb3 (show w2.drew.cell? _ = _ from d3)), cell_keep hb4 (cell_keep hb3 (show w2.drew.cell? _ = _ from d4))⟩ | exact ⟨cell_keep hb3 (show w2.drew.cell? _ = _ from c0), cell_keep hb3 (show w2.drew.cell? _ = _ from c1), cell_keep hb3 (show w2.drew.cell? _ = _ from c2), cell_keep hb3 (show w2.drew.cell? _ = _ from c3), cell_keep hb3 (show w2.drew.cell? _ = _ from c4), cell_keep hb3 (show w2.drew.cell? _ = _ from d0), cell_keep hb3 (show w2.drew.cell? _ = _ from d1), cell_keep hb3 (show w2.drew.cell? _ = _ from d2), cell_keep hb3 (show w2.drew.cell? _ = _ from d3), cell_keep hb3 (show w2.drew.cell? _ = _ from d4)⟩ | exact ⟨c0, c1, c2, c3, c4, d0, d1, d2, d3, d4⟩ | go_keep)
    (first
      | (go_at_call_of 9 uk; refine (KS _ B2.out.drew).out.mono ?_; rintro e w3 ⟨v3, rfl, hr3, hb3⟩)
      | (go_at_call_of 9 vk; refine (KT _ (B2.out.drew.trans (hb3.mono B2.out.size))).out.mono ?_; rintro e w4 ⟨v4, rfl, hr4, hb4⟩)
      | (go_at_call 14; refine (KE _ _ _ _ _ (hr3.below hb4) hr4).out.mono ?_; rintro e w5 ⟨rfl, hb5⟩))
  have B3 := B2.out.drew.trans (hb3.mono B2.out.size)
  have B4 := B3.trans (hb4.mono B3.size)
  have B5 := Lib.hid (B4.trans (hb5.mono B4.size))
  have C5 := Lib.hid ((((C2.out.step (w' := w2.drew) ((Below.refl _ _).drew)).step hb3).step hb4).step hb5)
  have D5 := Lib.hid ((((D2.out.step (w' := w2.drew) ((Below.refl _ _).drew)).step hb3).step hb4).step hb5)
  clear B3 B4 hb3 hb4 hb5 hr3 hr4 c0 c1 c2 c3 c4 d0 d1 d2 d3 d4 B2 C2 D2
  obtain ⟨-, c0, c1, c2, c3, c4⟩ := C5.out
  go_wp2_with fail
  refine (KS2 _ B5.out).out.mono ?_
  rintro e w6 ⟨v6, rfl, ⟨yn, yk, rfl, hy⟩, ⟨_, _, _, _, _, hse, hso⟩, hb6⟩
  cases hse
  clear KS2
  obtain ⟨-, -, -, ⟨x1, p1, rfl, -⟩, ⟨x2, p2, rfl, -⟩⟩ := node_iff.1 hy
  generalize s.names.length = n1 at *
  generalize s.kids.length = n2 at *
  have B6 := B5.out.trans (hb6.mono B5.out.size)
  have A6 : Below w6.heap.size w6 (w6.alloc (Obj.cells #[Value.int IntKind.i64 s.kind, Value.string s.text, Value.int IntKind.i64 s.num, .slice x1 n1 p1, .slice x2 n2 p2] 30)) := (Below.refl _ _).alloc (Nat.le_refl _) _
  have B6 := Lib.hid (B6.trans (A6.mono B6.size))
  have C6 := Lib.hid ((C5.out.step hb6).step A6)
  have D6 := Lib.hid ((D5.out.step hb6).step A6)
  have X6 := Lib.hid (cells_new w6 s.kind s.text s.num (.slice x1 n1 p1) (.slice x2 n2 p2) 30)
  have R6 : Hid (Reads w5.heap.size (w6.alloc (Obj.cells #[Value.int IntKind.i64 s.kind, Value.string s.text, Value.int IntKind.i64 s.num, .slice x1 n1 p1, .slice x2 n2 p2] 30)) s (.agg #[.int .i64 s.kind, .string s.text, .int .i64 s.num, .slice x1 n1 p1, .slice x2 n2 p2])) := ⟨_, _, rfl, hy.below A6⟩
  have Q6 : Hid (TreeTo.SoftV w5.heap.size (w6.alloc (Obj.cells #[Value.int IntKind.i64 s.kind, Value.string s.text, Value.int IntKind.i64 s.num, .slice x1 n1 p1, .slice x2 n2 p2] 30)) s (.agg #[.int .i64 s.kind, .string s.text, .int .i64 s.num, .slice x1 n1 p1, .slice x2 n2 p2])) := ⟨_, _, _, _, _, rfl, Soft.Soft.keep (Nat.le_refl _) (Soft.keptF_below A6) _ _ hso⟩
  clear hso
  obtain ⟨_, d0, d1, d2, d3, d4⟩ := D5.out.step hb6
  clear c0 c1 c2 c3 c4 hb6 hy B5 C5 D5 A6
  go_wp2_with fail
  clear d0 d1 d2 d3 d4
  generalize hG6 : w6.alloc (Obj.cells #[Value.int IntKind.i64 s.kind, Value.string s.text, Value.int IntKind.i64 s.num, .slice x1 n1 p1, .slice x2 n2 p2] 30) = w7 at *
  clear hG6
  generalize w6.heap.size = g1 at *
  refine (KT2 _ B6.out).out.mono ?_
  rintro e w8 ⟨v8, rfl, ⟨yn, yk, rfl, hy⟩, ⟨_, _, _, _, _, hse, hso⟩, hb8⟩
  cases hse
  clear KT2
  obtain ⟨-, -, -, ⟨x3, p3, rfl, -⟩, ⟨x4, p4, rfl, -⟩⟩ := node_iff.1 hy
  generalize t.names.length = n3 at *
  generalize t.kids.length = n4 at *
  have B8 := B6.out.trans (hb8.mono B6.out.size)
  have A8 : Below w8.heap.size w8 (w8.alloc (Obj.cells #[Value.int IntKind.i64 t.kind, Value.string t.text, Value.int IntKind.i64 t.num, .slice x3 n3 p3, .slice x4 n4 p4] 30)) := (Below.refl _ _).alloc (Nat.le_refl _) _
  have B9 := Lib.hid (B8.trans (A8.mono B8.size))
  have C9 := Lib.hid ((C6.out.step hb8).step A8)
  have D9 := Lib.hid ((D6.out.step hb8).step A8)
  have X9 := Lib.hid ((X6.out.step hb8).step A8)
  have Y9 := Lib.hid (cells_new w8 t.kind t.text t.num (.slice x3 n3 p3) (.slice x4 n4 p4) 30)
  have R9 := Lib.hid ((R6.out.below hb8).below A8)
  have S9 : Hid (Reads w7.heap.size (w8.alloc (Obj.cells #[Value.int IntKind.i64 t.kind, Value.string t.text, Value.int IntKind.i64 t.num, .slice x3 n3 p3, .slice x4 n4 p4] 30)) t (.agg #[.int .i64 t.kind, .string t.text, .int .i64 t.num, .slice x3 n3 p3, .slice x4 n4 p4])) := ⟨_, _, rfl, hy.below A8⟩
  have T9 : Hid (TreeTo.SoftV w7.heap.size (w8.alloc (Obj.cells #[Value.int IntKind.i64 t.kind, Value.string t.text, Value.int IntKind.i64 t.num, .slice x3 n3 p3, .slice x4 n4 p4] 30)) t (.agg #[.int .i64 t.kind, .string t.text, .int .i64 t.num, .slice x3 n3 p3, .slice x4 n4 p4])) := ⟨_, _, _, _, _, rfl, Soft.Soft.keep (Nat.le_refl _) (Soft.keptF_below A8) _ _ hso⟩
  have Q9 := Lib.hid ((Q6.out.below hb8).below A8)
  clear hso Q6
  obtain ⟨_, x0, x1', x2', x3', x4'⟩ := X6.out.step hb8
  clear hb8 hy B6 C6 D6 X6 R6 B8 A8
  go_wp2_with fail
  clear x0 x1' x2' x3' x4'
  generalize hG9 : w8.alloc (Obj.cells #[Value.int IntKind.i64 t.kind, Value.string t.text, Value.int IntKind.i64 t.num, .slice x3 n3 p3, .slice x4 n4 p4] 30) = w9 at *
  clear hG9
  generalize w8.heap.size = g2 at *
  refine (KI _ _ _ _ _ R9.out S9.out Q9.out T9.out).out.mono ?_
  rintro e w10 ⟨rfl, hb10⟩
  have B10 := Lib.hid (B9.out.trans (hb10.mono B9.out.size))
  have C10 := Lib.hid (C9.out.step hb10)
  have D10 := Lib.hid (D9.out.step hb10)
  have X10 := Lib.hid (X9.out.step hb10)
  have Y10 := Lib.hid (Y9.out.step hb10)
  have R10 := Lib.hid (R9.out.below hb10)
  have S10 := Lib.hid (S9.out.below hb10)
  clear hb10 B9 C9 D9 X9 Y9 R9 S9 Q9 T9
  obtain ⟨-, c0, c1, c2, c3, c4⟩ := C10.out
  obtain ⟨-, z0, z1, z2, z3, z4⟩ := X10.out
  go_wp2_with fail
  go_region_held3 (fun w' => w'.cell? ⟨w.heap.size, 0, none⟩ = some (.int .i64 s.kind) ∧ w'.cell? ⟨w.heap.size, 1, none⟩ = some (.string s.text) ∧ w'.cell? ⟨w.heap.size, 2, none⟩ = some (.int .i64 s.num) ∧ w'.cell? ⟨w.heap.size, 3, none⟩ = some un ∧ w'.cell? ⟨w.heap.size, 4, none⟩ = some uk ∧ w'.cell? ⟨g1, 0, none⟩ = some (.int .i64 s.kind) ∧ w'.cell? ⟨g1, 1, none⟩ = some (.string s.text) ∧ w'.cell? ⟨g1, 2, none⟩ = some (.int .i64 s.num) ∧ w'.cell? ⟨g1, 3, none⟩ = some (.slice x1 n1 p1) ∧ w'.cell? ⟨g1, 4, none⟩ = some (.slice x2 n2 p2))
    (first | exact ⟨cell_keep hb12 (cell_keep hb11 (show w10.drew.cell? _ = _ from c0)), cell_keep hb12 (cell_keep hb11 (show w10.drew.cell? _ = _ from c1)), cell_keep hb12 (cell_keep hb11 (show w10.drew.cell? _ = _ from c2)), cell_keep hb12 (cell_keep hb11 (show w10.drew.cell? _ = _ from c3)), cell_keep hb12 (cell_keep hb11 (show w10.drew.cell? _ = _ from c4)), cell_keep hb12 (cell_keep hb11 (show w10.drew.cell? _ = _ from z0)), cell_keep hb12 (cell_keep hb11 (show w10.drew.cell? _ = _ from z1)), cell_keep hb12 (cell_keep hb11 (show w10.drew.cell? _ = _ from z2)), cell_keep hb12 (cell_keep hb11 (show w10.drew.cell? _ = _ from z3)), cell_keep hb12 (cell_keep hb11 (show w10.drew.cell? _ = _ from z4))⟩ | exact ⟨cell_keep hb11 (show w10.drew.cell? _ = _ from c0), cell_keep hb11 (show w10.drew.cell? _ = _ from c1), cell_keep hb11 (show w10.drew.cell? _ = _ from c2), cell_keep hb11 (show w10.drew.cell? _ = _ from c3), cell_keep hb11 (show w10.drew.cell? _ = _ from c4), cell_keep hb11 (show w10.drew.cell? _ = _ from z0), cell_keep hb11 (show w10.drew.cell? _ = _ from z1), cell_keep hb11 (show w10.drew.cell? _ = _ from z2), cell_keep hb11 (show w10.drew.cell? _ = _ from z3), cell_keep hb11 (show w10.drew.cell? _ = _ from z4)⟩ | exact ⟨c0, c1, c2, c3, c4, z0, z1, z2, z3, z4⟩ | go_keep)
    (first
      | (go_at_call 9; refine (KS _ B10.out.drew).out.mono ?_; rintro e w11 ⟨v11, rfl, hr11, hb11⟩)
      | (go_at_call 11; refine (TreeEq.same ((R10.out.below (w' := w10.drew) ((Below.refl _ _).drew)).below hb11) hr11).mono ?_; rintro e w12 ⟨rfl, hb12⟩))
  have B11 := B10.out.drew.trans (hb11.mono B10.out.size)
  have B12 := Lib.hid (B11.trans (hb12.mono B11.size))
  have D12 := Lib.hid (((D10.out.step (w' := w10.drew) ((Below.refl _ _).drew)).step hb11).step hb12)
  have Y12 := Lib.hid (((Y10.out.step (w' := w10.drew) ((Below.refl _ _).drew)).step hb11).step hb12)
  have S12 := Lib.hid (((S10.out.below (w' := w10.drew) ((Below.refl _ _).drew)).below hb11).below hb12)
  clear c0 c1 c2 c3 c4 z0 z1 z2 z3 z4 hb11 hb12 hr11 B11 B10 C10 D10 X10 Y10 R10 S10
  obtain ⟨-, d0, d1, d2, d3, d4⟩ := D12.out
  obtain ⟨-, y0, y1, y2, y3, y4⟩ := Y12.out
  go_wp2_with fail
  go_region_held3 (fun w' => w'.cell? ⟨w.heap.size + 1, 0, none⟩ = some (.int .i64 t.kind) ∧ w'.cell? ⟨w.heap.size + 1, 1, none⟩ = some (.string t.text) ∧ w'.cell? ⟨w.heap.size + 1, 2, none⟩ = some (.int .i64 t.num) ∧ w'.cell? ⟨w.heap.size + 1, 3, none⟩ = some vn ∧ w'.cell? ⟨w.heap.size + 1, 4, none⟩ = some vk ∧ w'.cell? ⟨g2, 0, none⟩ = some (.int .i64 t.kind) ∧ w'.cell? ⟨g2, 1, none⟩ = some (.string t.text) ∧ w'.cell? ⟨g2, 2, none⟩ = some (.int .i64 t.num) ∧ w'.cell? ⟨g2, 3, none⟩ = some (.slice x3 n3 p3) ∧ w'.cell? ⟨g2, 4, none⟩ = some (.slice x4 n4 p4))
    (first | exact ⟨cell_keep hb14 (cell_keep hb13 (show w12.drew.cell? _ = _ from d0)), cell_keep hb14 (cell_keep hb13 (show w12.drew.cell? _ = _ from d1)), cell_keep hb14 (cell_keep hb13 (show w12.drew.cell? _ = _ from d2)), cell_keep hb14 (cell_keep hb13 (show w12.drew.cell? _ = _ from d3)), cell_keep hb14 (cell_keep hb13 (show w12.drew.cell? _ = _ from d4)), cell_keep hb14 (cell_keep hb13 (show w12.drew.cell? _ = _ from y0)), cell_keep hb14 (cell_keep hb13 (show w12.drew.cell? _ = _ from y1)), cell_keep hb14 (cell_keep hb13 (show w12.drew.cell? _ = _ from y2)), cell_keep hb14 (cell_keep hb13 (show w12.drew.cell? _ = _ from y3)), cell_keep hb14 (cell_keep hb13 (show w12.drew.cell? _ = _ from y4))⟩ | exact ⟨cell_keep hb13 (show w12.drew.cell? _ = _ from d0), cell_keep hb13 (show w12.drew.cell? _ = _ from d1), cell_keep hb13 (show w12.drew.cell? _ = _ from d2), cell_keep hb13 (show w12.drew.cell? _ = _ from d3), cell_keep hb13 (show w12.drew.cell? _ = _ from d4), cell_keep hb13 (show w12.drew.cell? _ = _ from y0), cell_keep hb13 (show w12.drew.cell? _ = _ from y1), cell_keep hb13 (show w12.drew.cell? _ = _ from y2), cell_keep hb13 (show w12.drew.cell? _ = _ from y3), cell_keep hb13 (show w12.drew.cell? _ = _ from y4)⟩ | exact ⟨d0, d1, d2, d3, d4, y0, y1, y2, y3, y4⟩ | go_keep)
    (first
      | (go_at_call 9; refine (KT _ B12.out.drew).out.mono ?_; rintro e w13 ⟨v13, rfl, hr13, hb13⟩)
      | (go_at_call 11; refine (TreeEq.same ((S12.out.below (w' := w12.drew) ((Below.refl _ _).drew)).below hb13) hr13).mono ?_; rintro e w14 ⟨rfl, hb14⟩))
  have B13 := B12.out.drew.trans (hb13.mono B12.out.size)
  have B14 := Lib.hid (B13.trans (hb14.mono B13.size))
  clear d0 d1 d2 d3 d4 y0 y1 y2 y3 y4 hb13 hb14 hr13 B13
  go_wp2_with fail
  go_ret
  exact ⟨rfl, B14.out⟩
end Go.Proofs.Ytikeokfdiikomaa.fnExactEqualExprsW
