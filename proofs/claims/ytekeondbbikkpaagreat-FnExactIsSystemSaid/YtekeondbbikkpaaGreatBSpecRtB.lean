/-
  spec.l8Left, l8Deep: what they answer of every node.
  What spec.l8Right's walks use: the argument's copy, what a node's own conditions are, kind by kind, with tests as the walk has them.
  spec.l8Right, kind by kind: 10, 11, 12, 13, 14. Written by wip/tools/gen_l8right.py.
-/
import Derived.Test.YtekeondbbikkpaaGreatBCoreMath
import Derived.Test.YtekeondbbikkpaaGreatBDataCore
import Derived.Test.YtekeondbbikkpaaGreatBSpecInts
import Derived.Test.YtekeondbbikkpaaGreatBSpecMax
import Derived.Test.YtekeondbbikkpaaGreatBSpecName
import Derived.Test.YtekeondbbikkpaaGreatBSpecSel
import Derived.Test.YtekeondbbikkpaaGreatBSpecTree2
import Derived.Deep.QuietTactic
import Derived.BigQuiet
namespace Go.Proofs.YtekeondbbikkpaaGreat.SpecCore
open Go.RowKit
open Strs Tree Core
structure Arg4 (w : World) (vk : Value) (wr : World) : Prop where
  below : Below w.heap.size w wr
  size : w.heap.size + 1 ≤ wr.heap.size
  a4 : wr.cell? ⟨w.heap.size, 4, none⟩ = some vk
theorem Arg4.step {w wr w' : World} {vk : Value} (h : Arg4 w vk wr) (hb : Below wr.heap.size wr w') : Arg4 w vk w' :=
  ⟨h.below.trans (hb.mono (by have := h.size; omega)), Nat.le_trans h.size hb.size, cell_keep hb h.a4⟩
theorem arg4_new (w : World) (k : Int) (t : ByteArray) (n d : Int) (vk : Value) (T : TypeId) : Arg4 w vk (w.alloc (Obj.cells #[Value.int IntKind.i64 k, Value.string t, Value.int IntKind.i64 n, Value.int IntKind.i64 d, vk] T)) := by
  refine ⟨(Below.refl _ _).alloc (Nat.le_refl _) _, by simp, ?_⟩
  go_simp
set_option maxHeartbeats 1000000 in
theorem left_node : ∀ e, ∀ (lo : Nat) (w : World) (vk : Value) (m : Int), 0 ≤ m → m ≤ 1048576 → KAt lo w e vk →
    Calls Tryz.prog 57 #[.agg #[.int .i64 e.kind, .string e.text, .int .i64 e.num, .int .i64 e.dep, vk], .int .i64 m] w fun r w' => r = .returned (.int .i64 (lf (ksize e) m)) ∧ Below w.heap.size w w' := by
  refine indK fun k t n d ks ih => ?_
  intro lo w vk m hm0 hm1 hnode
  rw [kat_iff] at hnode
  obtain ⟨-, -, -, -, hks⟩ := hnode
  simp only [K.kind, K.text, K.num, K.dep, K.kids] at *
  have HKS := Lib.hid hks
  obtain ⟨a, cap, rfl, hm, -⟩ := hks
  unfold maxLen at hm
  have HS : Hid (lf (ksize (.mk k t n d ks)) m = lf (ksizes ks) (m - 1)) := by show _ = _; rw [ksize]; unfold lf; split <;> split <;> omega
  generalize lf (ksize (.mk k t n d ks)) m = S at *
  have IH := Lib.hid ih; clear ih
  generalize hN : ks.length = N at *
  have HN := Lib.hid hN; clear hN
  have HA := Lib.hid (arg4_new w k t n d (.slice a N cap) 37)
  go_enter Tryz.func57, Tryz.ntmps57
  go_wp2_with fail
  go_loopw [1, 5] (fun s j wr => ∃ (i : Nat) (q : Int), i ≤ N ∧ j = .int .i64 i ∧ lf (ksizes (ks.take i)) (m - 1) = q ∧ s = .int .i64 q ∧ Arg4 w (.slice a N cap) wr) (fun _ j _ => N - (intOf j).toNat)
  case atStart => exact ⟨0, m - 1, by omega, rfl, by simp [ksizes]; exact lf_zero _ (by omega), rfl, HA.out⟩
  case round =>
    obtain ⟨i, q, hi, rfl, hq, rfl, harg⟩ := hrel
    have a4 := harg.a4
    have hq1 : -1 ≤ q := hq ▸ lf_ge _ _
    have hq2 : q ≤ m - 1 := hq ▸ lf_le _ _ (by omega)
    have HQ := Lib.hid hq; clear hq
    have AR := Lib.hid harg; clear harg
    by_cases hlt : i < N
    · have hil : i < ks.length := by rw [HN.out]; exact hlt
      by_cases hp : 0 ≤ q
      · obtain ⟨b, off, rfl, hb, hr⟩ := HKS.out.at hil
        obtain ⟨xk, d0, d1, d2, d3, d4, hnode⟩ := hr
        have c0 := cell_keep AR.out.below d0
        have c1 := cell_keep AR.out.below d1
        have c2 := cell_keep AR.out.below d2
        have c3 := cell_keep AR.out.below d3
        have c4 := cell_keep AR.out.below d4
        have KI := Lib.hid (IH.out _ (List.getElem_mem hil) lo _ xk q hp (by omega) (hnode.below AR.out.below))
        have HT : Hid (lf (ksizes (ks.take (i + 1))) (m - 1) = lf (ksize ks[i]) q) := by
          show _ = _
          rw [ksizes_take _ _ hil, ← HQ.out, lf_step _ _ _ (by rw [HQ.out]; exact hp)]
        clear d0 d1 d2 d3 d4 hnode
        generalize ks[i] = e at *
        generalize lf (ksize e) q = z at *
        go_wp2_with fail
        refine KI.out.mono ?_
        rintro r w1 ⟨rfl, hb1⟩
        have AR1 := Lib.hid (AR.out.step hb1)
        clear c0 c1 c2 c3 c4 hb1 AR
        go_wp2_with fail
        go_roundw
        case rel => exact ⟨i + 1, z, by omega, by go_num, HT.out, rfl, AR1.out⟩
        case measure => simp [intOf]; omega
      · have hS : S = q := by
          rw [HS.out]
          have e1 : ksizes ks = ksizes (ks.take i) + ksizes (ks.drop i) := by rw [← ksizes_append, List.take_append_drop]
          rw [e1, lf_more _ _ _ (by rw [HQ.out]; exact hp), HQ.out]
        have HSQ := Lib.hid hS; clear hS
        go_wp2_with fail
        go_ret
        exact ⟨by rw [HSQ.out]; rfl, AR.out.below⟩
    · have hS : S = q := by
        have h1 : i = N := by omega
        have h2 := HQ.out
        rw [h1, List.take_of_length_le (by rw [HN.out]; exact Nat.le_refl _)] at h2
        rw [HS.out]; exact h2
      have HSQ := Lib.hid hS; clear hS
      go_wp2_with fail
      go_ret
      exact ⟨by rw [HSQ.out]; rfl, AR.out.below⟩
set_option maxHeartbeats 1000000 in
theorem deep_node : ∀ e, ∀ (lo : Nat) (w : World) (vk : Value), kdeep e ≤ 1048576 → KAt lo w e vk →
    Calls Tryz.prog 58 #[.agg #[.int .i64 e.kind, .string e.text, .int .i64 e.num, .int .i64 e.dep, vk]] w fun r w' => r = .returned (.int .i64 (kdeep e)) ∧ Below w.heap.size w w' := by
  refine indK fun k t n d ks ih => ?_
  intro lo w vk hz hnode
  rw [kat_iff] at hnode
  obtain ⟨-, -, -, -, hks⟩ := hnode
  simp only [K.kind, K.text, K.num, K.dep, K.kids] at *
  have HKS := Lib.hid hks
  obtain ⟨a, cap, rfl, hm, -⟩ := hks
  unfold maxLen at hm
  have HS : Hid (kdeep (.mk k t n d ks) = if k = 16 ∧ 30 < d then 1000 else kdeeps ks + 1) := by show _ = _; rw [kdeep]
  generalize kdeep (.mk k t n d ks) = S at *
  have IH := Lib.hid ih; clear ih
  have HZ := Lib.hid hz; clear hz
  generalize hN : ks.length = N at *
  have HN := Lib.hid hN; clear hN
  have HA := Lib.hid (arg4_new w k t n d (.slice a N cap) 37)
  by_cases hbad : k = 16 ∧ 30 < d
  · have hS : S = 1000 := by rw [HS.out, if_pos hbad]
    subst hS
    obtain ⟨rfl, hd⟩ := hbad
    clear HS HZ IH
    go_enter Tryz.func58, Tryz.ntmps58
    go_wp2_with fail
    go_ret
    exact ⟨rfl, HA.out.below⟩
  have hS2 : S = kdeeps ks + 1 := by rw [HS.out, if_neg hbad]
  have HS2 := Lib.hid hS2
  clear HS hS2
  have HTEST : Hid ((k == 16) = false ∨ (k = 16 ∧ ¬ 30 < d)) := Lib.hid (by
    by_cases h : k = 16
    · exact .inr ⟨h, fun h2 => hbad ⟨h, h2⟩⟩
    · exact .inl (by rw [beq_eq_false_iff_ne]; exact h))
  clear hbad
  rcases HTEST.out with h16 | ⟨rfl, h30⟩
  all_goals
    clear HTEST
    go_enter Tryz.func58, Tryz.ntmps58
    go_wp2_with fail
    go_loopw [3, 4] (fun s j wr => ∃ i q : Nat, i ≤ N ∧ j = .int .i64 i ∧ kdeeps (ks.take i) = q ∧ s = .int .i64 q ∧ Arg4 w (.slice a N cap) wr) (fun _ j _ => N - (intOf j).toNat)
    case atStart => exact ⟨0, 0, by omega, rfl, rfl, rfl, HA.out⟩
    case round =>
      obtain ⟨i, q, hi, rfl, hq, rfl, harg⟩ := hrel
      have a4 := harg.a4
      have HQ := Lib.hid hq; clear hq
      have AR := Lib.hid harg; clear harg
      by_cases hlt : i < N
      · have hil : i < ks.length := by rw [HN.out]; exact hlt
        obtain ⟨b, off, rfl, hb, hr⟩ := HKS.out.at hil
        obtain ⟨xk, d0, d1, d2, d3, d4, hnode⟩ := hr
        have c0 := cell_keep AR.out.below d0
        have c1 := cell_keep AR.out.below d1
        have c2 := cell_keep AR.out.below d2
        have c3 := cell_keep AR.out.below d3
        have c4 := cell_keep AR.out.below d4
        have KI := Lib.hid (IH.out _ (List.getElem_mem hil) lo _ xk (by have := HZ.out; have := HS2.out; have := kdeep_kid ks i hil; omega) (hnode.below AR.out.below))
        have HT : Hid (kdeeps (ks.take (i + 1)) = max q (kdeep ks[i])) := by have := kdeeps_take ks i hil; have := HQ.out; show _ = _; omega
        clear d0 d1 d2 d3 d4 hnode
        generalize ks[i] = e at *
        generalize kdeep e = z at *
        go_wp2_with fail
        refine KI.out.mono ?_
        rintro r w1 ⟨rfl, hb1⟩
        have AR1 := Lib.hid (AR.out.step hb1)
        clear c0 c1 c2 c3 c4 hb1 AR
        go_wp2_with fail
        refine (SpecMax.max_any q z w1).mono ?_
        rintro r w2 ⟨rfl, rfl⟩
        go_wp2_with fail
        go_roundw
        case rel => exact ⟨i + 1, max q z, by omega, by go_num, HT.out, rfl, AR1.out⟩
        case measure => simp [intOf]; omega
      · have hS : S = q + 1 := by
          have h1 : i = N := by omega
          have h2 := HQ.out
          rw [h1, List.take_of_length_le (by rw [HN.out]; exact Nat.le_refl _)] at h2
          rw [HS2.out, h2]
        have hq2 : q ≤ 4611686018427387904 := by have := HZ.out; omega
        have HSQ := Lib.hid hS; clear hS
        go_wp2_with fail
        go_ret
        exact ⟨by rw [HSQ.out]; rfl, AR.out.below⟩
end Go.Proofs.YtekeondbbikkpaaGreat.SpecCore

namespace Go.Proofs.YtekeondbbikkpaaGreat.SpecCore
open Go.RowKit
open Strs Tree Core Ints
theorem draws_low (w : World) (k : Nat) : Below w.heap.size w (w.drewN k) := ⟨rfl, rfl, rfl, Nat.le_refl _, fun _ _ => rfl⟩
structure Arg5 (w : World) (k : Int) (t : ByteArray) (n d : Int) (vk : Value) (wr : World) : Prop where
  below : Below w.heap.size w wr
  size : w.heap.size + 1 ≤ wr.heap.size
  a0 : wr.cell? ⟨w.heap.size, 0, none⟩ = some (.int .i64 k)
  a1 : wr.cell? ⟨w.heap.size, 1, none⟩ = some (.string t)
  a2 : wr.cell? ⟨w.heap.size, 2, none⟩ = some (.int .i64 n)
  a3 : wr.cell? ⟨w.heap.size, 3, none⟩ = some (.int .i64 d)
  a4 : wr.cell? ⟨w.heap.size, 4, none⟩ = some vk
theorem Arg5.step {w wr w' : World} {k : Int} {t : ByteArray} {n d : Int} {vk : Value} (h : Arg5 w k t n d vk wr) (hb : Below wr.heap.size wr w') : Arg5 w k t n d vk w' :=
  ⟨h.below.trans (hb.mono (by have := h.size; omega)), Nat.le_trans h.size hb.size, cell_keep hb h.a0, cell_keep hb h.a1, cell_keep hb h.a2, cell_keep hb h.a3, cell_keep hb h.a4⟩
theorem arg5_new (w : World) (k : Int) (t : ByteArray) (n d : Int) (vk : Value) (T : TypeId) : Arg5 w k t n d vk (w.alloc (Obj.cells #[Value.int IntKind.i64 k, Value.string t, Value.int IntKind.i64 n, Value.int IntKind.i64 d, vk] T)) := by
  refine ⟨(Below.refl _ _).alloc (Nat.le_refl _) _, by simp, ?_, ?_, ?_, ?_, ?_⟩
  all_goals go_simp
theorem text0 (t : ByteArray) : decide (t.size = 0) = decide (t.toList = []) := by
  by_cases h : t.size = 0
  · have : t = ⟨#[]⟩ := ByteArray.ext (Array.eq_empty_of_size_eq_zero h)
    subst this
    rw [ByteArray.toList_eq]; rfl
  · rw [decide_eq_false h, decide_eq_false]
    intro e
    rw [ByteArray.toList_eq] at e
    have := congrArg List.length e
    rw [Array.length_toList] at this
    exact h this
theorem parts_pos (s : ByteArray) (b : Int) : 1 ≤ (Cuts.parts s b).length := by unfold Cuts.parts; simp
theorem args_ge (t : ByteArray) : -1 ≤ Tok.countArgs t := by
  have := parts_pos t 58
  unfold Tok.countArgs; split
  · split <;> omega
  · omega
theorem args_sel (t : ByteArray) : Tok.sel t = decide (0 ≤ Tok.countArgs t) := by
  have := parts_pos t 58
  unfold Tok.countArgs
  cases h : Tok.sel t with
  | true =>
    rw [if_pos rfl]
    split
    · rfl
    · rw [decide_eq_true (by omega)]
  | false => rw [if_neg (by simp)]; rfl
theorem sel_args (t : ByteArray) : Tok.sel t = decide (0 ≤ Tok.countArgs t) := args_sel t
theorem args_le (t : ByteArray) : Tok.countArgs t ≤ 1048576 := by
  unfold Tok.countArgs
  split
  · rename_i hs
    split
    · omega
    · rename_i hb
      unfold Tok.sel at hs
      rw [Bool.or_eq_true] at hs
      rcases hs with hs | hs
      · exact absurd hs hb
      · split at hs
        · unfold Tok.keys at hs
          simp only [Bool.and_eq_true, decide_eq_true_eq] at hs
          omega
        · rename_i h1
          omega
  · omega
theorem nat0 (N c : Nat) : decide (N = c) = decide ((N : Int) = c) := by
  by_cases h : N = c
  · subst h; simp
  · rw [decide_eq_false h, decide_eq_false (by omega)]
theorem in2 (a b c : Int) : (decide (a ≤ b) && decide (b ≤ c)) = decide (a ≤ b ∧ b ≤ c) := by rw [Bool.decide_and]
theorem lt2 (a b : Int) (C : Nat) : (decide (a ≤ b) && decide (b < C)) = decide (a ≤ b ∧ b ≤ (C : Int) - 1) := by
  rw [Bool.eq_iff_iff]; simp only [Bool.and_eq_true, decide_eq_true_eq]; omega
section
variable (C : Nat) (L : Lv) (t : ByteArray) (n d : Int) (N : Nat)
theorem own_1 : ownB C L 1 t n d N = (decide (t.toList = []) && (decide (d = 0) && (decide ((N : Int) = 0) && decide (0 ≤ n ∧ n ≤ 999999999)))) := by
  rw [← text0, ← in2]; have := nat0 N 0; simp only [ownB, plainB, countB, fieldB]; simp [Bool.and_assoc]
theorem own_2 : ownB C L 2 t n d N = (decide (n = 0) && (decide (d = 0) && (decide ((N : Int) = 0) && Tree.isText t))) := by
  simp [ownB, plainB, countB, fieldB, Bool.and_assoc]
theorem own_3 : ownB C L 3 t n d N = (decide (n = 0) && (decide (d = 0) && (decide ((N : Int) = 0) && Tok.sel t))) := by
  simp [ownB, plainB, countB, fieldB, Bool.and_assoc]
theorem own_4 : ownB C L 4 t n d N = (decide (t.toList = []) && (decide (n = 0) && (decide (d = 0) && decide ((N : Int) = 0)))) := by
  rw [← text0]; simp [ownB, plainB, countB, fieldB, Bool.and_assoc]
theorem own_5 : ownB C L 5 t n d N = (decide (t.toList = []) && (decide (n = 0) && (decide (d = 0) && decide ((N : Int) = 0)))) := by
  rw [← text0]; simp [ownB, plainB, countB, fieldB, Bool.and_assoc]
theorem own_6 : ownB C L 6 t n d N = (decide (t.toList = []) && (decide (n = 0) && (decide (d = 0) && decide ((N : Int) = 0)))) := by
  rw [← text0]; simp [ownB, plainB, countB, fieldB, Bool.and_assoc]
theorem own_7 : ownB C L 7 t n d N = (decide (t.toList = []) && (decide (n = 0) && (decide (d = 0) && decide ((N : Int) = 0)))) := by
  rw [← text0]; simp [ownB, plainB, countB, fieldB, Bool.and_assoc]
theorem own_8 : ownB C L 8 t n d N = (decide (t.toList = []) && (decide ((N : Int) = 0) && slotB L d n)) := by
  rw [← text0]; simp [ownB, plainB, countB, fieldB]
theorem own_9 : ownB C L 9 t n d N = (decide (t.toList = []) && (decide ((N : Int) = 1) && varB L d n)) := by
  rw [← text0, show decide ((N : Int) = 1) = decide (N = 1) from (nat0 N 1).symm]; simp [ownB, plainB, countB, fieldB]
theorem own_10 : ownB C L 10 t n d N = (decide (n = 0) && (decide (d = 0) && (decide ((N : Int) = 0) && Tok.isName t))) := by
  simp [ownB, plainB, countB, fieldB, Bool.and_assoc]
theorem own_11 : ownB C L 11 t n d N = (decide (n = 0) && (decide (d = 0) && (decide ((N : Int) = 1) && Tok.isName t))) := by
  rw [show decide ((N : Int) = 1) = decide (N = 1) from (nat0 N 1).symm]; simp [ownB, plainB, countB, fieldB, Bool.and_assoc]
theorem own_12 : ownB C L 12 t n d N = (decide (t.toList = []) && (decide (d = 0) && (decide ((N : Int) = 0) && decide (0 ≤ n ∧ n ≤ (C : Int) - 1)))) := by
  rw [← text0, ← lt2]; simp [ownB, plainB, countB, fieldB, clsB, Bool.and_assoc]
theorem own_13 : ownB C L 13 t n d N = (decide (n = 0) && (decide (d = 0) && (decide ((N : Int) = Tok.countArgs t + 1) && decide (0 ≤ Tok.countArgs t)))) := by
  rw [← args_sel, show decide ((N : Int) = Tok.countArgs t + 1) = decide ((N : Int) = 1 + Tok.countArgs t) by rw [Int.add_comm]]; simp [ownB, plainB, countB, fieldB, Bool.and_assoc]
theorem own_14 : ownB C L 14 t n d N = (decide (d = 0) && (decide ((N : Int) = Tok.countArgs t) && (decide (0 ≤ Tok.countArgs t) && decide (0 ≤ n ∧ n ≤ (C : Int) - 1)))) := by
  rw [← args_sel, ← lt2, Bool.and_comm (Tok.sel t)]; simp [ownB, plainB, countB, fieldB, clsB, Bool.and_assoc]
theorem own_15 : ownB C L 15 t n d N = (decide (t.toList = []) && (decide (n = 0) && (decide (d = 0) && decide ((2 : Int) ≤ N)))) := by
  rw [← text0, show decide ((2 : Int) ≤ N) = decide (2 ≤ N) by rw [Bool.eq_iff_iff]; simp only [decide_eq_true_eq]; omega]; simp [ownB, plainB, countB, fieldB, Bool.and_assoc]
theorem own_16 : ownB C L 16 t n d N = (decide (t.toList = []) && (decide ((N : Int) = 1) && decide (0 ≤ n ∧ n ≤ d))) := by
  rw [← text0, ← in2, show decide ((N : Int) = 1) = decide (N = 1) from (nat0 N 1).symm]; simp [ownB, plainB, countB, fieldB]
theorem own_17 : ownB C L 17 t n d N = (decide (t.toList = []) && (decide (n = 0) && (decide (d = 0) && decide ((2 : Int) ≤ N)))) := by
  rw [← text0, show decide ((2 : Int) ≤ N) = decide (2 ≤ N) by rw [Bool.eq_iff_iff]; simp only [decide_eq_true_eq]; omega]; simp [ownB, plainB, countB, fieldB, Bool.and_assoc]
theorem own_18 : ownB C L 18 t n d N = (decide (t.toList = []) && (decide (n = 0) && (decide (d = 0) && decide ((N : Int) = 1)))) := by
  rw [← text0, show decide ((N : Int) = 1) = decide (N = 1) from (nat0 N 1).symm]; simp [ownB, plainB, countB, fieldB, Bool.and_assoc]
theorem own_19 : ownB C L 19 t n d N = (decide (t.toList = []) && (decide (n = 0) && (decide (d = 0) && decide ((N : Int) = 3)))) := by
  rw [← text0, show decide ((N : Int) = 3) = decide (N = 3) from (nat0 N 3).symm]; simp [ownB, plainB, countB, fieldB, Bool.and_assoc]
theorem own_20 : ownB C L 20 t n d N = (decide (t.toList = []) && (decide (d = 0) && (decide ((N : Int) = 2) && decide (0 ≤ n ∧ n ≤ 1)))) := by
  rw [← text0, show decide ((N : Int) = 2) = decide (N = 2) from (nat0 N 2).symm, show decide (0 ≤ n ∧ n ≤ 1) = (decide (n = 0) || decide (n = 1)) by rw [Bool.eq_iff_iff]; simp only [Bool.or_eq_true, decide_eq_true_eq]; omega]; simp [ownB, plainB, countB, fieldB, Bool.and_assoc]
theorem own_21 : ownB C L 21 t n d N = (decide (t.toList = []) && (decide (d = 0) && (decide ((N : Int) = 3) && varB L d n))) := by
  rw [← text0, show decide ((N : Int) = 3) = decide (N = 3) from (nat0 N 3).symm]; simp [ownB, plainB, countB, fieldB, Bool.and_assoc]
end
theorem own_other (C : Nat) (L : Lv) (k : Int) (t : ByteArray) (n d : Int) (N : Nat) (h : ¬ (1 ≤ k ∧ k ≤ 21)) : ownB C L k t n d N = false := by
  unfold ownB countB
  rw [if_neg (by omega), if_neg (by omega), if_neg (by omega), if_neg (by omega), if_neg (by omega), if_neg (by omega), if_neg (by omega)]
  simp
structure LOk (L : Lv) : Prop where
  pos : 1 ≤ L.length
  q : ∀ x, x ∈ L → 0 ≤ x.1 ∧ x.1 ≤ x.2 ∧ x.2 ≤ 30
end Go.Proofs.YtekeondbbikkpaaGreat.SpecCore

namespace Go.Proofs.YtekeondbbikkpaaGreat.SpecCore
open Go.RowKit
open Strs Tree Core Ints
set_option linter.unusedVariables false
set_option maxRecDepth 10000 in
set_option maxHeartbeats 8000000 in
theorem r10 (C : Nat) (L : Lv) (t : ByteArray) (n d : Int) (ks : List K) (w : World) (vs vp : Value) (a : Option Addr) (N cap : Nat) (hN : ks.length = N) (ht : t.size ≤ 1048576) (hm : N ≤ cap ∧ cap ≤ 9223372036854775807) (hC : C ≤ 1048576)
    (KK : ∀ (w' : World) (n' d' : Int) (N' : Nat), n' = n → d' = d → N' = N → Below w.heap.size w w' → Hid (Calls Tryz.prog 60 #[.agg #[.int .i64 10, .string t, .int .i64 n', .int .i64 d', .slice a N' cap], .int .i64 C, vs, vp] w' fun r w'' => r = .returned (.bool (krights C L ks)) ∧ Below w'.heap.size w' w'')) :
    Calls Tryz.prog 35 #[.agg #[.int .i64 10, .string t, .int .i64 n, .int .i64 d, .slice a N cap], .int .i64 C, vs, vp] w fun r w' => r = .returned (.bool (kright C L (.mk 10 t n d ks))) ∧ Below w.heap.size w w' := by
  have HV : Hid (kright C L (.mk 10 t n d ks) = (ownB C L 10 t n d N && krights C L ks)) := Lib.hid (by rw [kright_mk, hN]; rfl)
  generalize kright C L (.mk 10 t n d ks) = R at *
  generalize krights C L ks = Q at *
  have HO : Hid (ownB C L 10 t n d N = (decide (n = 0) && (decide (d = 0) && (decide ((N : Int) = 0) && Tok.isName t)))) := Lib.hid (by rw [own_10])
  clear hN
  have KNM := fun w1 => Lib.hid (SpecName.isname_any t w1 ht)
  generalize hb0 : (Tok.isName t : Bool) = b0 at *
  have HBB0 := Lib.hid hb0; clear hb0
  have HA := Lib.hid (arg5_new w 10 t n d (.slice a N cap) 37)
  generalize ownB C L 10 t n d N = O at *
  cases b0
  all_goals
    go_enter Tryz.func35, Tryz.ntmps35
    go_wp2_with fail
    go_quiet (fail)
    have AR := Lib.hid (HA.out.step (draws_low _ nq))
    obtain ⟨wq, hwq⟩ : ∃ x, x = (w.alloc (Obj.cells #[Value.int IntKind.i64 10, Value.string t, Value.int IntKind.i64 n, Value.int IntKind.i64 d, .slice a N cap] 37)).drewN nq := ⟨_, rfl⟩
    rw [← hwq] at AR ⊢
    clear hwq
    have a0 := AR.out.a0; have a1 := AR.out.a1; have a2 := AR.out.a2; have a3 := AR.out.a3; have a4 := AR.out.a4
    go_wp2_with fail
    refine (KNM _).out.mono ?_
    rintro e w1 ⟨rfl, hb1⟩
    replace AR := Lib.hid (AR.out.step hb1)
    clear hb1 a0 a1 a2 a3 a4
    have a0 := AR.out.a0; have a1 := AR.out.a1; have a2 := AR.out.a2; have a3 := AR.out.a3; have a4 := AR.out.a4
    go_wp2_with fail
    all_goals first
      | (go_ret; exact ⟨by rw [show R = false by rw [HV.out, HO.out]; simp [*]; try (intros; exfalso; omega)]; rfl, AR.out.below⟩)
      | (refine (KK _ _ _ _ ?_ ?_ ?_ AR.out.below).out.mono ?_; (any_goals omega); rintro e w9 ⟨rfl, hb9⟩; have H9 := Lib.hid (AR.out.below.trans (hb9.mono AR.out.below.size)); clear hb9; go_wp2_with fail; go_ret; exact ⟨by rw [show R = Q by rw [HV.out, HO.out]; simp [*]; try (intros; exfalso; omega)]; rfl, H9.out⟩)
set_option maxRecDepth 10000 in
set_option maxHeartbeats 8000000 in
theorem r11 (C : Nat) (L : Lv) (t : ByteArray) (n d : Int) (ks : List K) (w : World) (vs vp : Value) (a : Option Addr) (N cap : Nat) (hN : ks.length = N) (ht : t.size ≤ 1048576) (hm : N ≤ cap ∧ cap ≤ 9223372036854775807) (hC : C ≤ 1048576)
    (KK : ∀ (w' : World) (n' d' : Int) (N' : Nat), n' = n → d' = d → N' = N → Below w.heap.size w w' → Hid (Calls Tryz.prog 60 #[.agg #[.int .i64 11, .string t, .int .i64 n', .int .i64 d', .slice a N' cap], .int .i64 C, vs, vp] w' fun r w'' => r = .returned (.bool (krights C L ks)) ∧ Below w'.heap.size w' w'')) :
    Calls Tryz.prog 35 #[.agg #[.int .i64 11, .string t, .int .i64 n, .int .i64 d, .slice a N cap], .int .i64 C, vs, vp] w fun r w' => r = .returned (.bool (kright C L (.mk 11 t n d ks))) ∧ Below w.heap.size w w' := by
  have HV : Hid (kright C L (.mk 11 t n d ks) = (ownB C L 11 t n d N && krights C L ks)) := Lib.hid (by rw [kright_mk, hN]; rfl)
  generalize kright C L (.mk 11 t n d ks) = R at *
  generalize krights C L ks = Q at *
  have HO : Hid (ownB C L 11 t n d N = (decide (n = 0) && (decide (d = 0) && (decide ((N : Int) = 1) && Tok.isName t)))) := Lib.hid (by rw [own_11])
  clear hN
  have KNM := fun w1 => Lib.hid (SpecName.isname_any t w1 ht)
  generalize hb0 : (Tok.isName t : Bool) = b0 at *
  have HBB0 := Lib.hid hb0; clear hb0
  have HA := Lib.hid (arg5_new w 11 t n d (.slice a N cap) 37)
  generalize ownB C L 11 t n d N = O at *
  cases b0
  all_goals
    go_enter Tryz.func35, Tryz.ntmps35
    go_wp2_with fail
    go_quiet (fail)
    have AR := Lib.hid (HA.out.step (draws_low _ nq))
    obtain ⟨wq, hwq⟩ : ∃ x, x = (w.alloc (Obj.cells #[Value.int IntKind.i64 11, Value.string t, Value.int IntKind.i64 n, Value.int IntKind.i64 d, .slice a N cap] 37)).drewN nq := ⟨_, rfl⟩
    rw [← hwq] at AR ⊢
    clear hwq
    have a0 := AR.out.a0; have a1 := AR.out.a1; have a2 := AR.out.a2; have a3 := AR.out.a3; have a4 := AR.out.a4
    go_wp2_with fail
    refine (KNM _).out.mono ?_
    rintro e w1 ⟨rfl, hb1⟩
    replace AR := Lib.hid (AR.out.step hb1)
    clear hb1 a0 a1 a2 a3 a4
    have a0 := AR.out.a0; have a1 := AR.out.a1; have a2 := AR.out.a2; have a3 := AR.out.a3; have a4 := AR.out.a4
    go_wp2_with fail
    all_goals first
      | (go_ret; exact ⟨by rw [show R = false by rw [HV.out, HO.out]; simp [*]; try (intros; exfalso; omega)]; rfl, AR.out.below⟩)
      | (refine (KK _ _ _ _ ?_ ?_ ?_ AR.out.below).out.mono ?_; (any_goals omega); rintro e w9 ⟨rfl, hb9⟩; have H9 := Lib.hid (AR.out.below.trans (hb9.mono AR.out.below.size)); clear hb9; go_wp2_with fail; go_ret; exact ⟨by rw [show R = Q by rw [HV.out, HO.out]; simp [*]; try (intros; exfalso; omega)]; rfl, H9.out⟩)
set_option maxRecDepth 10000 in
set_option maxHeartbeats 8000000 in
theorem r12 (C : Nat) (L : Lv) (t : ByteArray) (n d : Int) (ks : List K) (w : World) (vs vp : Value) (a : Option Addr) (N cap : Nat) (hN : ks.length = N) (ht : t.size ≤ 1048576) (hm : N ≤ cap ∧ cap ≤ 9223372036854775807) (hC : C ≤ 1048576)
    (KK : ∀ (w' : World) (n' d' : Int) (N' : Nat), n' = n → d' = d → N' = N → Below w.heap.size w w' → Hid (Calls Tryz.prog 60 #[.agg #[.int .i64 12, .string t, .int .i64 n', .int .i64 d', .slice a N' cap], .int .i64 C, vs, vp] w' fun r w'' => r = .returned (.bool (krights C L ks)) ∧ Below w'.heap.size w' w'')) :
    Calls Tryz.prog 35 #[.agg #[.int .i64 12, .string t, .int .i64 n, .int .i64 d, .slice a N cap], .int .i64 C, vs, vp] w fun r w' => r = .returned (.bool (kright C L (.mk 12 t n d ks))) ∧ Below w.heap.size w w' := by
  have HV : Hid (kright C L (.mk 12 t n d ks) = (ownB C L 12 t n d N && krights C L ks)) := Lib.hid (by rw [kright_mk, hN]; rfl)
  generalize kright C L (.mk 12 t n d ks) = R at *
  generalize krights C L ks = Q at *
  have HO : Hid (ownB C L 12 t n d N = (decide (t.toList = []) && (decide (d = 0) && (decide ((N : Int) = 0) && decide (0 ≤ n ∧ n ≤ (C : Int) - 1))))) := Lib.hid (by rw [own_12])
  clear hN
  have KIN := fun w1 => Lib.hid (SpecTree.in_any n 0 ((C : Int) - 1) w1)
  generalize hb0 : (decide (0 ≤ n ∧ n ≤ (C : Int) - 1) : Bool) = b0 at *
  have HBB0 := Lib.hid hb0; clear hb0
  have HA := Lib.hid (arg5_new w 12 t n d (.slice a N cap) 37)
  generalize ownB C L 12 t n d N = O at *
  cases b0
  all_goals
    go_enter Tryz.func35, Tryz.ntmps35
    go_wp2_with fail
    go_quiet (fail)
    have AR := Lib.hid (HA.out.step (draws_low _ nq))
    obtain ⟨wq, hwq⟩ : ∃ x, x = (w.alloc (Obj.cells #[Value.int IntKind.i64 12, Value.string t, Value.int IntKind.i64 n, Value.int IntKind.i64 d, .slice a N cap] 37)).drewN nq := ⟨_, rfl⟩
    rw [← hwq] at AR ⊢
    clear hwq
    have a0 := AR.out.a0; have a1 := AR.out.a1; have a2 := AR.out.a2; have a3 := AR.out.a3; have a4 := AR.out.a4
    go_wp2_with fail
    refine (KIN _).out.mono ?_
    rintro e w1 ⟨rfl, rfl⟩
    go_wp2_with fail
    all_goals first
      | (go_ret; exact ⟨by rw [show R = false by rw [HV.out, HO.out]; simp [*]; try (intros; exfalso; omega)]; rfl, AR.out.below⟩)
      | (refine (KK _ _ _ _ ?_ ?_ ?_ AR.out.below).out.mono ?_; (any_goals omega); rintro e w9 ⟨rfl, hb9⟩; have H9 := Lib.hid (AR.out.below.trans (hb9.mono AR.out.below.size)); clear hb9; go_wp2_with fail; go_ret; exact ⟨by rw [show R = Q by rw [HV.out, HO.out]; simp [*]; try (intros; exfalso; omega)]; rfl, H9.out⟩)
set_option maxRecDepth 10000 in
set_option maxHeartbeats 8000000 in
theorem r13 (C : Nat) (L : Lv) (t : ByteArray) (n d : Int) (ks : List K) (w : World) (vs vp : Value) (a : Option Addr) (N cap : Nat) (hN : ks.length = N) (ht : t.size ≤ 1048576) (hm : N ≤ cap ∧ cap ≤ 9223372036854775807) (hC : C ≤ 1048576)
    (KK : ∀ (w' : World) (n' d' : Int) (N' : Nat), n' = n → d' = d → N' = N → Below w.heap.size w w' → Hid (Calls Tryz.prog 60 #[.agg #[.int .i64 13, .string t, .int .i64 n', .int .i64 d', .slice a N' cap], .int .i64 C, vs, vp] w' fun r w'' => r = .returned (.bool (krights C L ks)) ∧ Below w'.heap.size w' w'')) :
    Calls Tryz.prog 35 #[.agg #[.int .i64 13, .string t, .int .i64 n, .int .i64 d, .slice a N cap], .int .i64 C, vs, vp] w fun r w' => r = .returned (.bool (kright C L (.mk 13 t n d ks))) ∧ Below w.heap.size w w' := by
  have HV : Hid (kright C L (.mk 13 t n d ks) = (ownB C L 13 t n d N && krights C L ks)) := Lib.hid (by rw [kright_mk, hN]; rfl)
  generalize kright C L (.mk 13 t n d ks) = R at *
  generalize krights C L ks = Q at *
  have hc1 := args_ge t
  have hc2 := args_le t
  have hsel := sel_args t
  have HO : Hid (ownB C L 13 t n d N = (decide (n = 0) && (decide (d = 0) && (decide ((N : Int) = Tok.countArgs t + 1) && decide (0 ≤ Tok.countArgs t))))) := Lib.hid (by rw [own_13])
  clear hN
  have KCN := fun w1 => Lib.hid (SpecSel.count_any t w1 ht)
  clear hsel
  generalize Tok.countArgs t = c at *
  have HA := Lib.hid (arg5_new w 13 t n d (.slice a N cap) 37)
  generalize ownB C L 13 t n d N = O at *
  go_enter Tryz.func35, Tryz.ntmps35
  go_wp2_with fail
  go_quiet (fail)
  have AR := Lib.hid (HA.out.step (draws_low _ nq))
  obtain ⟨wq, hwq⟩ : ∃ x, x = (w.alloc (Obj.cells #[Value.int IntKind.i64 13, Value.string t, Value.int IntKind.i64 n, Value.int IntKind.i64 d, .slice a N cap] 37)).drewN nq := ⟨_, rfl⟩
  rw [← hwq] at AR ⊢
  clear hwq
  have a0 := AR.out.a0; have a1 := AR.out.a1; have a2 := AR.out.a2; have a3 := AR.out.a3; have a4 := AR.out.a4
  go_wp2_with fail
  refine (KCN _).out.mono ?_
  rintro e w1 ⟨rfl, hb1⟩
  replace AR := Lib.hid (AR.out.step hb1)
  clear hb1 a0 a1 a2 a3 a4
  have a0 := AR.out.a0; have a1 := AR.out.a1; have a2 := AR.out.a2; have a3 := AR.out.a3; have a4 := AR.out.a4
  go_wp2_with fail
  all_goals try (refine (KCN _).out.mono ?_; rintro e w2 ⟨rfl, hb2⟩; replace AR := Lib.hid (AR.out.step hb2); clear hb2 a0 a1 a2 a3 a4; have a0 := AR.out.a0; have a1 := AR.out.a1; have a2 := AR.out.a2; have a3 := AR.out.a3; have a4 := AR.out.a4; go_wp2_with fail)
  all_goals first
    | (go_ret; exact ⟨by rw [show R = false by rw [HV.out, HO.out]; simp [*]; try (intros; exfalso; omega)]; rfl, AR.out.below⟩)
    | (refine (KK _ _ _ _ ?_ ?_ ?_ AR.out.below).out.mono ?_; (any_goals omega); rintro e w9 ⟨rfl, hb9⟩; have H9 := Lib.hid (AR.out.below.trans (hb9.mono AR.out.below.size)); clear hb9; go_wp2_with fail; go_ret; exact ⟨by rw [show R = Q by rw [HV.out, HO.out]; simp [*]; try (intros; exfalso; omega)]; rfl, H9.out⟩)
set_option maxRecDepth 10000 in
set_option maxHeartbeats 8000000 in
theorem r14 (C : Nat) (L : Lv) (t : ByteArray) (n d : Int) (ks : List K) (w : World) (vs vp : Value) (a : Option Addr) (N cap : Nat) (hN : ks.length = N) (ht : t.size ≤ 1048576) (hm : N ≤ cap ∧ cap ≤ 9223372036854775807) (hC : C ≤ 1048576)
    (KK : ∀ (w' : World) (n' d' : Int) (N' : Nat), n' = n → d' = d → N' = N → Below w.heap.size w w' → Hid (Calls Tryz.prog 60 #[.agg #[.int .i64 14, .string t, .int .i64 n', .int .i64 d', .slice a N' cap], .int .i64 C, vs, vp] w' fun r w'' => r = .returned (.bool (krights C L ks)) ∧ Below w'.heap.size w' w'')) :
    Calls Tryz.prog 35 #[.agg #[.int .i64 14, .string t, .int .i64 n, .int .i64 d, .slice a N cap], .int .i64 C, vs, vp] w fun r w' => r = .returned (.bool (kright C L (.mk 14 t n d ks))) ∧ Below w.heap.size w w' := by
  have HV : Hid (kright C L (.mk 14 t n d ks) = (ownB C L 14 t n d N && krights C L ks)) := Lib.hid (by rw [kright_mk, hN]; rfl)
  generalize kright C L (.mk 14 t n d ks) = R at *
  generalize krights C L ks = Q at *
  have hc1 := args_ge t
  have hc2 := args_le t
  have hsel := sel_args t
  have HO : Hid (ownB C L 14 t n d N = (decide (d = 0) && (decide ((N : Int) = Tok.countArgs t) && (decide (0 ≤ Tok.countArgs t) && decide (0 ≤ n ∧ n ≤ (C : Int) - 1))))) := Lib.hid (by rw [own_14])
  clear hN
  have KCN := fun w1 => Lib.hid (SpecSel.count_any t w1 ht)
  clear hsel
  generalize Tok.countArgs t = c at *
  have KIN := fun w1 => Lib.hid (SpecTree.in_any n 0 ((C : Int) - 1) w1)
  generalize hb0 : (decide (0 ≤ n ∧ n ≤ (C : Int) - 1) : Bool) = b0 at *
  have HBB0 := Lib.hid hb0; clear hb0
  have HA := Lib.hid (arg5_new w 14 t n d (.slice a N cap) 37)
  generalize ownB C L 14 t n d N = O at *
  cases b0
  all_goals
    go_enter Tryz.func35, Tryz.ntmps35
    go_wp2_with fail
    go_quiet (fail)
    have AR := Lib.hid (HA.out.step (draws_low _ nq))
    obtain ⟨wq, hwq⟩ : ∃ x, x = (w.alloc (Obj.cells #[Value.int IntKind.i64 14, Value.string t, Value.int IntKind.i64 n, Value.int IntKind.i64 d, .slice a N cap] 37)).drewN nq := ⟨_, rfl⟩
    rw [← hwq] at AR ⊢
    clear hwq
    have a0 := AR.out.a0; have a1 := AR.out.a1; have a2 := AR.out.a2; have a3 := AR.out.a3; have a4 := AR.out.a4
    go_wp2_with fail
    refine (KCN _).out.mono ?_
    rintro e w1 ⟨rfl, hb1⟩
    replace AR := Lib.hid (AR.out.step hb1)
    clear hb1 a0 a1 a2 a3 a4
    have a0 := AR.out.a0; have a1 := AR.out.a1; have a2 := AR.out.a2; have a3 := AR.out.a3; have a4 := AR.out.a4
    go_wp2_with fail
    all_goals try (refine (KCN _).out.mono ?_; rintro e w2 ⟨rfl, hb2⟩; replace AR := Lib.hid (AR.out.step hb2); clear hb2 a0 a1 a2 a3 a4; have a0 := AR.out.a0; have a1 := AR.out.a1; have a2 := AR.out.a2; have a3 := AR.out.a3; have a4 := AR.out.a4; go_wp2_with fail)
    all_goals (refine (KIN _).out.mono ?_; rintro e w3 ⟨rfl, rfl⟩; go_wp2_with fail)
    all_goals first
      | (go_ret; exact ⟨by rw [show R = false by rw [HV.out, HO.out]; simp [*]; try (intros; exfalso; omega)]; rfl, AR.out.below⟩)
      | (refine (KK _ _ _ _ ?_ ?_ ?_ AR.out.below).out.mono ?_; (any_goals omega); rintro e w9 ⟨rfl, hb9⟩; have H9 := Lib.hid (AR.out.below.trans (hb9.mono AR.out.below.size)); clear hb9; go_wp2_with fail; go_ret; exact ⟨by rw [show R = Q by rw [HV.out, HO.out]; simp [*]; try (intros; exfalso; omega)]; rfl, H9.out⟩)
end Go.Proofs.YtekeondbbikkpaaGreat.SpecCore
