/-
  impl.SizeOfExpr and impl.DepthOfExpr: what they answer of a tree that lies in open blocks.
-/
import Derived.Test.YtikeokfdiikomaaImplMeas
import Derived.Test.YtikeokfdiikomaaTreeTo
namespace Go.Proofs.Ytikeokfdiikomaa.ImplTree
open Go.RowKit
open Strs Tree Soft Dfs TreeTo

theorem field0 (w : World) (a b : Int) : (Instr.field 41 (.agg #[.int .i64 a, .int .i64 b]) 0).run Try.prog w = .ok (.int .i64 a) w := by kernel_rfl
theorem field1 (w : World) (a b : Int) : (Instr.field 41 (.agg #[.int .i64 a, .int .i64 b]) 1).run Try.prog w = .ok (.int .i64 b) w := by kernel_rfl
theorem size_any {lo : Nat} {e : E} {v : Value} {w : World} (h : Reads lo w e v) (hs : SoftV lo w e v) (hz : size e ≤ 1048577) :
    Calls Try.prog 10 #[v] w fun r w' => r = .returned (.int .i64 (size e)) ∧ Below w.heap.size w w' := by
  obtain ⟨vn, vk, rfl, hn⟩ := h
  obtain ⟨_, _, _, _, _, he, hs⟩ := hs
  cases he
  have hb : Below w.heap.size w (w.alloc (.cells #[.int .i64 e.kind, .string e.text, .int .i64 e.num, vn, vk] 30)) := (Below.refl _ _).alloc (Nat.le_refl _) _
  have K := Lib.hid (ImplMeas.measure_any _ _ e (node_box hn hs 30) hz)
  have HB := Lib.hid hb
  unfold ext at K
  clear hn hs hb hz
  generalize size e = sz at *
  generalize depth e = dp at *
  go_enter Try.func10, Try.ntmps10
  go_wp2_with fail
  refine K.out.mono ?_
  rintro r w1 ⟨rfl, hb1⟩
  have H1 := Lib.hid (HB.out.trans (hb1.mono HB.out.size))
  have f0 := field0 w1 sz dp
  have f1 := field1 w1 sz dp
  clear hb1
  go_wp2_with fail
  go_ret
  exact ⟨rfl, H1.out⟩
theorem depth_any {lo : Nat} {e : E} {v : Value} {w : World} (h : Reads lo w e v) (hs : SoftV lo w e v) (hz : size e ≤ 1048577) :
    Calls Try.prog 13 #[v] w fun r w' => r = .returned (.int .i64 (depth e)) ∧ Below w.heap.size w w' := by
  obtain ⟨vn, vk, rfl, hn⟩ := h
  obtain ⟨_, _, _, _, _, he, hs⟩ := hs
  cases he
  have hb : Below w.heap.size w (w.alloc (.cells #[.int .i64 e.kind, .string e.text, .int .i64 e.num, vn, vk] 30)) := (Below.refl _ _).alloc (Nat.le_refl _) _
  have K := Lib.hid (ImplMeas.measure_any _ _ e (node_box hn hs 30) hz)
  have HB := Lib.hid hb
  unfold ext at K
  clear hn hs hb hz
  generalize size e = sz at *
  generalize depth e = dp at *
  go_enter Try.func13, Try.ntmps13
  go_wp2_with fail
  refine K.out.mono ?_
  rintro r w1 ⟨rfl, hb1⟩
  have H1 := Lib.hid (HB.out.trans (hb1.mono HB.out.size))
  have f0 := field0 w1 sz dp
  have f1 := field1 w1 sz dp
  clear hb1
  go_wp2_with fail
  go_ret
  exact ⟨rfl, H1.out⟩
end Go.Proofs.Ytikeokfdiikomaa.ImplTree
