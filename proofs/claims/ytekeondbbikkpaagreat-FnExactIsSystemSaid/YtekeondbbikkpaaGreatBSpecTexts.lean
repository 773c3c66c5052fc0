/-
  A tree that a function was given lies in a cell of its own: what is known of it while nothing writes there.
  spec.l3Texts: what it answers of every two lists of texts (as in XSpecEqual).
-/
import Derived.Test.YtekeondbbikkpaaGreatBTexts
namespace Go.Proofs.YtekeondbbikkpaaGreat.TreeBox
open Go.RowKit
open Strs Tree
structure Cells (B : Nat) (k : Int) (t : ByteArray) (n : Int) (vn vk : Value) (wr : World) : Prop where
  size : B < wr.heap.size
  a0 : wr.cell? ⟨B, 0, none⟩ = some (.int .i64 k)
  a1 : wr.cell? ⟨B, 1, none⟩ = some (.string t)
  a2 : wr.cell? ⟨B, 2, none⟩ = some (.int .i64 n)
  a3 : wr.cell? ⟨B, 3, none⟩ = some vn
  a4 : wr.cell? ⟨B, 4, none⟩ = some vk
theorem Cells.step {B : Nat} {k : Int} {t : ByteArray} {n : Int} {vn vk : Value} {wr w' : World} (h : Cells B k t n vn vk wr) (hb : Below wr.heap.size wr w') : Cells B k t n vn vk w' :=
  ⟨Nat.lt_of_lt_of_le h.size hb.size, cell_keep hb h.a0, cell_keep hb h.a1, cell_keep hb h.a2, cell_keep hb h.a3, cell_keep hb h.a4⟩
theorem cells_new (w : World) (k : Int) (t : ByteArray) (n : Int) (vn vk : Value) (T : TypeId) : Cells w.heap.size k t n vn vk (w.alloc (Obj.cells #[Value.int IntKind.i64 k, Value.string t, Value.int IntKind.i64 n, vn, vk] T)) := by
  refine ⟨by simp, ?_, ?_, ?_, ?_, ?_⟩
  all_goals go_simp
end Go.Proofs.YtekeondbbikkpaaGreat.TreeBox

namespace Go.Proofs.YtekeondbbikkpaaGreat.SpecTexts
open Go.RowKit
open Strs Tree TreeBox
theorem beq_no {s t : ByteArray} (h : ¬ s = t) : (s.toList == t.toList) = false := by
  refine Bool.eq_false_iff.2 fun e => h ?_
  have e1 := eq_of_beq e
  rw [ByteArray.toList_eq, ByteArray.toList_eq] at e1
  exact ByteArray.ext (Array.ext' e1)
set_option maxHeartbeats 1000000 in
theorem texts_cons (a1 a2 : Option Addr) (c1 c2 n : Nat) (xs ys : List ByteArray) (w : World) (hx : xs.length = n) (hy : ys.length = n) (hm : n ≤ maxLen)
    (h1 : 0 < n → ∃ b o, a1 = some ⟨b, o, none⟩ ∧ ∀ j (h : j < xs.length), w.cell? ⟨b, o + j, none⟩ = some (.string xs[j]))
    (h2 : 0 < n → ∃ b o, a2 = some ⟨b, o, none⟩ ∧ ∀ j (h : j < ys.length), w.cell? ⟨b, o + j, none⟩ = some (.string ys[j])) :
    Calls Tryz.prog 31 #[.slice a1 n c1, .slice a2 n c2] w fun e w' => e = .returned (.bool (decide (xs = ys))) ∧ Below w.heap.size w w' := by
  unfold maxLen at hm
  have H1 := Lib.hid h1; clear h1
  have H2 := Lib.hid h2; clear h2
  have HX := Lib.hid hx; clear hx
  have HY := Lib.hid hy; clear hy
  generalize hD : decide (xs = ys) = D
  have HD := Lib.hid hD; clear hD
  go_enter Tryz.func31, Tryz.ntmps31
  go_wp2_with fail
  go_loopw [5] (fun j wr => ∃ i : Nat, i ≤ n ∧ j = .int .i64 i ∧ Below w.heap.size w wr ∧ Hid (∀ j (h1 : j < xs.length) (h2 : j < ys.length), j < i → xs[j] = ys[j])) (fun j _ => n - (intOf j).toNat)
  case atStart => exact ⟨0, by omega, rfl, Below.refl _ _, fun j _ _ h => by omega⟩
  case round =>
    obtain ⟨i, hi, rfl, hbw, HS⟩ := hrel
    by_cases hlt : i < n
    · have hix : i < xs.length := by rw [HX.out]; exact hlt
      have hiy : i < ys.length := by rw [HY.out]; exact hlt
      obtain ⟨b1, o1, rfl, d1⟩ := H1.out (by omega)
      obtain ⟨b2, o2, rfl, d2⟩ := H2.out (by omega)
      have hc1 : wr.cell? ⟨b1, o1 + i, none⟩ = some (.string xs[i]) := cell_keep hbw (d1 i hix)
      have hc2 : wr.cell? ⟨b2, o2 + i, none⟩ = some (.string ys[i]) := cell_keep hbw (d2 i hiy)
      clear d1 d2
      generalize hs : xs[i] = s at *
      generalize ht : ys[i] = t at *
      have HE := Lib.hid (And.intro hs ht); clear hs ht
      by_cases hst : s = t
      · subst hst
        go_wp2_with fail
        go_quiet (fail)
        go_wp2_with fail
        go_roundw
        case rel =>
          refine ⟨i + 1, by omega, by go_num, below_drewN hbw _, fun j g1 g2 hj => ?_⟩
          by_cases e : j = i
          · subst e; exact HE.out.1.trans HE.out.2.symm
          · exact HS.out j g1 g2 (by omega)
        case measure => simp [intOf]; omega
      · have hD : D = false := by
          rw [← HD.out]
          refine decide_eq_false fun e => hst ?_
          rw [← HE.out.1, ← HE.out.2]
          simp [e]
        subst hD
        have hb := beq_no hst
        clear hst
        go_wp2_with fail
        go_quiet (fail)
        go_wp2_with fail
        go_ret
        exact ⟨rfl, below_drewN hbw _⟩
    · have hD : D = true := by
        rw [← HD.out]
        refine decide_eq_true ?_
        have h1 := HX.out
        have h2 := HY.out
        exact List.ext_getElem (by omega) fun j g1 g2 => HS.out j g1 g2 (by omega)
      subst hD
      go_wp2_with fail
      go_ret
      exact ⟨rfl, hbw⟩
theorem texts_any {lo1 lo2 : Nat} {xs ys : List ByteArray} {v1 v2 : Value} {w : World} (h1 : Texts lo1 w xs v1) (h2 : Texts lo2 w ys v2) :
    Calls Tryz.prog 31 #[v1, v2] w fun e w' => e = .returned (.bool (decide (xs = ys))) ∧ Below w.heap.size w w' := by
  obtain ⟨a1, c1, rfl, m1, _, d1⟩ := h1
  obtain ⟨a2, c2, rfl, m2, _, d2⟩ := h2
  by_cases h : xs.length = ys.length
  · rw [← h]
    refine texts_cons a1 a2 c1 c2 xs.length xs ys w rfl h.symm (Nat.le_trans m1.1 m1.2) (fun hp => ?_) (fun hp => ?_)
    · obtain ⟨b, o, e, _, d⟩ := d1 hp; exact ⟨b, o, e, d⟩
    · obtain ⟨b, o, e, _, d⟩ := d2 (by omega); exact ⟨b, o, e, d⟩
  · have hne : ¬ (xs.length : Int) = (ys.length : Int) := by omega
    rw [decide_eq_false (fun e : xs = ys => h (by rw [e]))]
    clear d1 d2 m1 m2
    generalize xs.length = n1 at *
    generalize ys.length = n2 at *
    go_enter Tryz.func31, Tryz.ntmps31
    go_wp2_with fail
    go_ret
    exact ⟨rfl, Below.refl _ _⟩
end Go.Proofs.YtekeondbbikkpaaGreat.SpecTexts
