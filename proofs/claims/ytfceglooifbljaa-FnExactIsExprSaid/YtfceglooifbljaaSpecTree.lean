/-
  spec.l3Size, l3Depth, SizeOfExpr and DepthOfExpr: what they answer of every tree.
-/
import Derived.Test.YtfceglooifbljaaTexts
namespace Go.Proofs.Ytfceglooifbljaa.SpecTree
open Go.RowKit
open Strs Tree Texts

/-- The argument's own copy lies at the first new block, and nothing that was there has turned. -/
structure Arg (w : World) (vn vk : Value) (wr : World) : Prop where
  below : Below w.heap.size w wr
  size : w.heap.size + 1 ≤ wr.heap.size
  a3 : wr.cell? ⟨w.heap.size, 3, none⟩ = some vn
  a4 : wr.cell? ⟨w.heap.size, 4, none⟩ = some vk
theorem Arg.step {w wr w' : World} {vn vk : Value} (h : Arg w vn vk wr) (hb : Below wr.heap.size wr w') : Arg w vn vk w' :=
  ⟨h.below.trans (hb.mono (by have := h.size; omega)), Nat.le_trans h.size hb.size, cell_keep hb h.a3, cell_keep hb h.a4⟩
theorem arg_new (w : World) (k : Int) (t : ByteArray) (n : Int) (vn vk : Value) (T : TypeId) : Arg w vn vk (w.alloc (Obj.cells #[Value.int IntKind.i64 k, Value.string t, Value.int IntKind.i64 n, vn, vk] T)) := by
  refine ⟨(Below.refl _ _).alloc (Nat.le_refl _) _, by simp, ?_, ?_⟩
  all_goals go_simp


theorem max_any (a b : Nat) (w : World) :
    Calls Try.prog 20 #[.int .i64 a, .int .i64 b] w fun r w' => r = .returned (.int .i64 (max a b : Nat)) ∧ w = w' := by
  by_cases h : (b : Int) < (a : Int)
  · rw [show max a b = a by omega]
    go_enter Try.func20, Try.ntmps20
    go_wp2_with fail
    go_ret
    exact ⟨rfl, rfl⟩
  · rw [show max a b = b by omega]
    go_enter Try.func20, Try.ntmps20
    go_wp2_with fail
    go_ret
    exact ⟨rfl, rfl⟩

set_option maxHeartbeats 1000000 in
theorem depth_node : ∀ e, ∀ (lo : Nat) (w : World) (vn vk : Value), depth e ≤ 4611686018427387904 → NodeAt lo w e vn vk →
    Calls Try.prog 12 #[.agg #[.int .i64 e.kind, .string e.text, .int .i64 e.num, vn, vk]] w fun r w' => r = .returned (.int .i64 (depth e)) ∧ Below w.heap.size w w' := by
  refine ind fun k t n ns ks ih => ?_
  intro lo w vn vk hz hnode
  rw [node_iff] at hnode
  obtain ⟨-, -, -, -, hks⟩ := hnode
  simp only [E.kind, E.text, E.num, E.kids] at *
  obtain ⟨a, cap, rfl, hm, hc⟩ := hks
  unfold maxLen at hm
  have HS : Hid (depth (.mk k t n ns ks) = depths ks + 1) := by show _ = _; rw [depth]
  generalize depth (.mk k t n ns ks) = S at *
  have HC := Lib.hid hc; clear hc
  have IH := Lib.hid ih; clear ih
  have HZ := Lib.hid hz; clear hz
  generalize hN : ks.length = N at *
  have HN := Lib.hid hN; clear hN
  have HA := Lib.hid (arg_new w k t n vn (.slice a N cap) 30)
  go_enter Try.func12, Try.ntmps12
  go_wp2_with fail
  go_loopw [3, 4] (fun s j wr => ∃ i q : Nat, i ≤ N ∧ j = .int .i64 i ∧ depths (ks.take i) = q ∧ s = .int .i64 q ∧ Arg w vn (.slice a N cap) wr) (fun _ j _ => N - (intOf j).toNat)
  case atStart => exact ⟨0, 0, by omega, rfl, rfl, rfl, HA.out⟩
  case round =>
    obtain ⟨i, q, hi, rfl, hq, rfl, harg⟩ := hrel
    have a4 := harg.a4
    have HQ := Lib.hid hq; clear hq
    have AR := Lib.hid harg; clear harg
    by_cases hlt : i < N
    · have hil : i < ks.length := by rw [HN.out]; exact hlt
      obtain ⟨b, off, rfl, hb, hr⟩ := HC.out (by have := HN.out; omega)
      obtain ⟨xn, xk, d0, d1, d2, d3, d4, hnode⟩ := (row_iff ks off).1 hr i hil
      have c0 := cell_keep AR.out.below d0
      have c1 := cell_keep AR.out.below d1
      have c2 := cell_keep AR.out.below d2
      have c3 := cell_keep AR.out.below d3
      have c4 := cell_keep AR.out.below d4
      have hkz := depth_kid ks i hil
      have KI := Lib.hid (IH.out _ (List.getElem_mem hil) lo _ xn xk (by have := HZ.out; have := HS.out; omega) (hnode.below AR.out.below))
      have HT : Hid (depths (ks.take (i + 1)) = max q (depth ks[i])) := by have := depths_take ks i hil; have := HQ.out; show _ = _; omega
      clear d0 d1 d2 d3 d4 hnode hr hkz
      generalize ks[i] = e at *
      generalize depth e = z at *
      go_wp2_with fail
      refine KI.out.mono ?_
      rintro r w1 ⟨rfl, hb1⟩
      have AR1 := Lib.hid (AR.out.step hb1)
      clear c0 c1 c2 c3 c4 hb1 AR
      go_wp2_with fail
      refine (max_any q z w1).mono ?_
      rintro r w2 ⟨rfl, rfl⟩
      go_wp2_with fail
      go_roundw
      case rel => exact ⟨i + 1, max q z, by omega, by go_num, HT.out, rfl, AR1.out⟩
      case measure => simp [intOf]; omega
    · have hS : S = q + 1 := by
        have h1 : i = N := by omega
        have h2 := HQ.out
        rw [h1, List.take_of_length_le (by rw [HN.out]; exact Nat.le_refl _)] at h2
        rw [HS.out, h2]
      have hq2 : q ≤ 4611686018427387904 := by have := HZ.out; omega
      have HSQ := Lib.hid hS; clear hS
      go_wp2_with fail
      go_ret
      exact ⟨by rw [HSQ.out]; rfl, AR.out.below⟩

end Go.Proofs.Ytfceglooifbljaa.SpecTree
