/-
  laws.eqExpr and eqExprS: two values that read as the same tree are equal, and nothing that was there is written.
-/
import Derived.Test.YtfceglooifbljaaTexts
namespace Go.Proofs.Ytfceglooifbljaa.TreeEq
open Go.RowKit
open Strs Tree Texts

/-- What eqExpr says of two copies of a tree. -/
def Ok (e : E) : Prop := ∀ (lo1 lo2 : Nat) (w : World) (xn xk yn yk : Value), NodeAt lo1 w e xn xk → NodeAt lo2 w e yn yk →
  Calls Try.prog 8 #[.agg #[.int .i64 e.kind, .string e.text, .int .i64 e.num, xn, xk], .agg #[.int .i64 e.kind, .string e.text, .int .i64 e.num, yn, yk]] w fun r w' => r = .returned (.bool true) ∧ Below w.heap.size w w'

theorem kids_nil (a1 a2 : Option Addr) (c1 c2 : Nat) (w : World) :
    Calls Try.prog 19 #[.slice a1 0 c1, .slice a2 0 c2] w fun e w' => e = .returned (.bool true) ∧ Below w.heap.size w w' := by
  go_enter Try.func19, Try.ntmps19
  go_wp2_with fail
  refine wp_loop_rounds 1 ?_
  rw [rounds_succ]
  go_wp2_with fail
  go_ret
  exact ⟨rfl, Below.refl _ _⟩

set_option maxHeartbeats 1000000 in
theorem kids_cons (lo1 lo2 b1 o1 c1 b2 o2 c2 n : Nat) (ks : List E) (w : World) (ih : ∀ e, e ∈ ks → Ok e) (hn : ks.length = n) (hm : n ≤ maxLen) (h1 : Row lo1 w b1 ks o1) (h2 : Row lo2 w b2 ks o2) :
    Calls Try.prog 19 #[.slice (some ⟨b1, o1, none⟩) n c1, .slice (some ⟨b2, o2, none⟩) n c2] w fun e w' => e = .returned (.bool true) ∧ Below w.heap.size w w' := by
  unfold maxLen at hm
  have HN := Lib.hid hn; clear hn
  have H1 := Lib.hid h1; clear h1
  have H2 := Lib.hid h2; clear h2
  have IH := Lib.hid ih; clear ih
  go_enter Try.func19, Try.ntmps19
  go_wp2_with fail
  go_loopw [5] (fun j wr => ∃ i : Nat, i ≤ n ∧ j = .int .i64 i ∧ Below w.heap.size w wr) (fun j _ => n - (intOf j).toNat)
  case atStart => exact ⟨0, by omega, rfl, Below.refl _ _⟩
  case round =>
    obtain ⟨i, hi, rfl, hbw⟩ := hrel
    by_cases hlt : i < n
    · have hil : i < ks.length := by rw [HN.out]; exact hlt
      obtain ⟨xn, xk, a0, a1, a2, a3, a4, hx⟩ := (row_iff ks o1).1 H1.out i hil
      obtain ⟨yn, yk, d0, d1, d2, d3, d4, hy⟩ := (row_iff ks o2).1 H2.out i hil
      have p0 := cell_keep hbw a0
      have p1 := cell_keep hbw a1
      have p2 := cell_keep hbw a2
      have p3 := cell_keep hbw a3
      have p4 := cell_keep hbw a4
      have q0 := cell_keep hbw d0
      have q1 := cell_keep hbw d1
      have q2 := cell_keep hbw d2
      have q3 := cell_keep hbw d3
      have q4 := cell_keep hbw d4
      have KI := fun w' (hb : Below w.heap.size w w') => Lib.hid (IH.out _ (List.getElem_mem hil) lo1 lo2 w' xn xk yn yk (hx.below hb) (hy.below hb))
      clear a0 a1 a2 a3 a4 d0 d1 d2 d3 d4 hx hy
      generalize ks[i] = k at *
      have HB := Lib.hid hbw; clear hbw
      go_wp2_with fail
      go_region_held3 (fun w' => w'.cell? ⟨b1, o1 + i * 5, none⟩ = some (.int .i64 k.kind) ∧ w'.cell? ⟨b1, o1 + i * 5 + 1, none⟩ = some (.string k.text) ∧ w'.cell? ⟨b1, o1 + i * 5 + 2, none⟩ = some (.int .i64 k.num) ∧ w'.cell? ⟨b1, o1 + i * 5 + 3, none⟩ = some xn ∧ w'.cell? ⟨b1, o1 + i * 5 + 4, none⟩ = some xk ∧ w'.cell? ⟨b2, o2 + i * 5, none⟩ = some (.int .i64 k.kind) ∧ w'.cell? ⟨b2, o2 + i * 5 + 1, none⟩ = some (.string k.text) ∧ w'.cell? ⟨b2, o2 + i * 5 + 2, none⟩ = some (.int .i64 k.num) ∧ w'.cell? ⟨b2, o2 + i * 5 + 3, none⟩ = some yn ∧ w'.cell? ⟨b2, o2 + i * 5 + 4, none⟩ = some yk)
        (first | exact ⟨p0, p1, p2, p3, p4, q0, q1, q2, q3, q4⟩ | exact ⟨cell_keep hb1 (show wr.drew.cell? _ = _ from p0), cell_keep hb1 (show wr.drew.cell? _ = _ from p1), cell_keep hb1 (show wr.drew.cell? _ = _ from p2), cell_keep hb1 (show wr.drew.cell? _ = _ from p3), cell_keep hb1 (show wr.drew.cell? _ = _ from p4), cell_keep hb1 (show wr.drew.cell? _ = _ from q0), cell_keep hb1 (show wr.drew.cell? _ = _ from q1), cell_keep hb1 (show wr.drew.cell? _ = _ from q2), cell_keep hb1 (show wr.drew.cell? _ = _ from q3), cell_keep hb1 (show wr.drew.cell? _ = _ from q4)⟩ | go_keep)
        (first | (go_at_call 8; refine (KI _ HB.out.drew).out.mono ?_; rintro e w1 ⟨rfl, hb1⟩))
      all_goals go_wp2_with fail
      go_roundw
      case rel => exact ⟨i + 1, by omega, by go_num, HB.out.drew.trans (hb1.mono HB.out.size)⟩
      case measure => simp [intOf]; omega
    · go_wp2_with fail
      go_ret
      exact ⟨rfl, hbw⟩

theorem kids_any {lo1 lo2 : Nat} {ks : List E} {v1 v2 : Value} {w : World} (ih : ∀ e, e ∈ ks → Ok e) (h1 : KidsAt lo1 w ks v1) (h2 : KidsAt lo2 w ks v2) :
    Calls Try.prog 19 #[v1, v2] w fun e w' => e = .returned (.bool true) ∧ Below w.heap.size w w' := by
  obtain ⟨a1, c1, rfl, hm, hc1⟩ := h1
  obtain ⟨a2, c2, rfl, _, hc2⟩ := h2
  by_cases hp : 0 < ks.length
  · obtain ⟨b1, o1, rfl, _, hd1⟩ := hc1 hp
    obtain ⟨b2, o2, rfl, _, hd2⟩ := hc2 hp
    exact kids_cons lo1 lo2 b1 o1 c1 b2 o2 c2 _ ks w ih rfl (Nat.le_trans hm.1 hm.2) hd1 hd2
  · rw [show ks.length = 0 by omega]
    exact kids_nil a1 a2 c1 c2 w

set_option maxHeartbeats 1000000 in
/-- Both values read as the same tree: eqExpr says so. -/
theorem any : ∀ e, Ok e := by
  refine ind fun k t n ns ks ih => ?_
  intro lo1 lo2 w xn xk yn yk hx hy
  rw [node_iff] at hx hy
  obtain ⟨-, -, -, hns1, hks1⟩ := hx
  obtain ⟨-, -, -, hns2, hks2⟩ := hy
  simp only [E.kind, E.text, E.num, E.names, E.kids] at *
  have KT := fun w' (hb : Below w.heap.size w w') => Lib.hid (eq_same (hns1.below hb) (hns2.below hb))
  have KS := fun w' (hb : Below w.heap.size w w') => Lib.hid (kids_any ih (hks1.below hb) (hks2.below hb))
  clear ih hns1 hns2 hks1 hks2
  have HB0 : Hid (Below w.heap.size w ((w.alloc (Obj.cells #[Value.int IntKind.i64 k, Value.string t, Value.int IntKind.i64 n, xn, xk] 30)).alloc (Obj.cells #[Value.int IntKind.i64 k, Value.string t, Value.int IntKind.i64 n, yn, yk] 30))) := ((Below.refl _ _).alloc (Nat.le_refl _) _).alloc (by simp) _
  have a4 : ((w.alloc (Obj.cells #[Value.int IntKind.i64 k, Value.string t, Value.int IntKind.i64 n, xn, xk] 30)).alloc (Obj.cells #[Value.int IntKind.i64 k, Value.string t, Value.int IntKind.i64 n, yn, yk] 30)).cell? ⟨w.heap.size, 4, none⟩ = some xk := by go_simp
  have d4 : ((w.alloc (Obj.cells #[Value.int IntKind.i64 k, Value.string t, Value.int IntKind.i64 n, xn, xk] 30)).alloc (Obj.cells #[Value.int IntKind.i64 k, Value.string t, Value.int IntKind.i64 n, yn, yk] 30)).cell? ⟨w.heap.size + 1, 4, none⟩ = some yk := by go_simp
  have HA4 := Lib.hid a4
  have HD4 := Lib.hid d4
  clear a4 d4
  go_enter Try.func8, Try.ntmps8
  go_wp2_with fail
  refine (KT _ HB0.out).out.mono ?_
  rintro e w1 ⟨rfl, hb1⟩
  have HB1 : Hid (Below w.heap.size w w1) := HB0.out.trans (hb1.mono HB0.out.size)
  have x4 := cell_keep hb1 HA4.out
  have y4 := cell_keep hb1 HD4.out
  clear hb1 HA4 HD4 HB0 KT
  go_wp2_with fail
  refine (KS _ HB1.out).out.mono ?_
  rintro e w2 ⟨rfl, hb2⟩
  have HB2 : Hid (Below w.heap.size w w2) := HB1.out.trans (hb2.mono HB1.out.size)
  clear hb2 x4 y4
  go_wp2_with fail
  go_ret
  exact ⟨rfl, HB2.out⟩

/-- Both values read as the same tree: eqExpr says so. -/
theorem same {e : E} {lo1 lo2 : Nat} {w : World} {v1 v2 : Value} (h1 : Reads lo1 w e v1) (h2 : Reads lo2 w e v2) :
    Calls Try.prog 8 #[v1, v2] w fun r w' => r = .returned (.bool true) ∧ Below w.heap.size w w' := by
  obtain ⟨xn, xk, rfl, hx⟩ := h1
  obtain ⟨yn, yk, rfl, hy⟩ := h2
  exact any e lo1 lo2 w xn xk yn yk hx hy
end Go.Proofs.Ytfceglooifbljaa.TreeEq
