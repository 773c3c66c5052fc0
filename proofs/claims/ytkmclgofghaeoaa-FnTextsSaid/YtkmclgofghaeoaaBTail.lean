/-
  laws.tail: a code without its first byte; cells of results.
-/
import Derived.Test.YtkmclgofghaeoaaBPickInt
import Derived.Test.YtkmclgofghaeoaaBSpecBasA
namespace Go.Proofs.Ytkmclgofghaeoaa.Tail
open Go.RowKit
open Strs Sto Bas SpecBas Cur Draw
set_option linter.unusedVariables false
def Rest (len : Nat) (w : World) (e : Ending) (w' : World) : Prop := ∃ a' len' cap', e = .returned (.slice a' len' cap') ∧ len' ≤ len ∧ Raw w a' len' ∧ w = w'
set_option maxHeartbeats 2000000 in
theorem tail_any (a : Option Addr) (len cap : Nat) (w : World) (hl : len ≤ 1048576) (hcap : len ≤ cap) (hm : cap ≤ maxLen) (hr : Raw w a len) :
    Calls Try.prog 7 #[.slice a len cap] w (Rest len w) := by
  unfold maxLen at hm
  by_cases h : len = 0
  · subst h
    have HR := Lib.hid hr
    clear hr
    go_enter Try.func7, Try.ntmps7
    go_wp2_with fail
    go_ret
    exact ⟨_, _, _, rfl, Nat.le_refl _, HR.out, rfl⟩
  · have z := (SpecBas.eq_no (a := (len : Int)) (b := 0) (by omega)).1
    have hp : (1 : Int) ≤ (len : Int) := by omega
    have hq : (len : Int) ≤ (cap : Int) := by omega
    obtain ⟨b, off, rfl, hc⟩ := hr (by omega)
    have HC := Lib.hid hc
    clear hc h
    go_enter Try.func7, Try.ntmps7
    go_wp2_with fail
    · go_ret
      exact ⟨_, _, _, rfl, Nat.sub_le _ _, fun hp => by omega, rfl⟩
    · go_ret
      refine ⟨_, _, _, rfl, Nat.sub_le _ _, fun hp => ⟨b, off + 1, rfl, fun j hj => ?_⟩, rfl⟩
      have h := HC.out (j + 1) (by omega)
      rw [show off + (j + 1) = off + 1 + j by omega] at h
      exact h
structure RC (g : Nat) (r : R) (wx : World) : Prop where
  a0 : wx.cell? ⟨g, 0, none⟩ = some (.int .i64 r.code)
  a1 : wx.cell? ⟨g, 1, none⟩ = some (.int .i64 r.kind)
  a2 : wx.cell? ⟨g, 2, none⟩ = some (.int .i64 r.num)
  a3 : wx.cell? ⟨g, 3, none⟩ = some (.string r.text)
  a4 : wx.cell? ⟨g, 4, none⟩ = some (.string r.txt)
theorem RC.step {wx w' : World} {g : Nat} {r : R} (h : RC g r wx) (hb : Below wx.heap.size wx w') : RC g r w' :=
  ⟨cell_keep hb h.a0, cell_keep hb h.a1, cell_keep hb h.a2, cell_keep hb h.a3, cell_keep hb h.a4⟩
theorem rc_new (w : World) (r : R) (T : TypeId) : RC w.heap.size r (w.alloc (.cells #[.int .i64 r.code, .int .i64 r.kind, .int .i64 r.num, .string r.text, .string r.txt] T)) :=
  ⟨by go_simp, by go_simp, by go_simp, by go_simp, by go_simp⟩
end Go.Proofs.Ytkmclgofghaeoaa.Tail
