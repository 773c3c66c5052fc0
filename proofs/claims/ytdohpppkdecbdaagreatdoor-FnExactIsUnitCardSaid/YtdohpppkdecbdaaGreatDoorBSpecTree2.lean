/-
  spec.l3Size, l3Depth, SizeOfExpr and DepthOfExpr: what they answer of every tree.
  spec.l3IsText, l1In, l3Left: what they answer.
-/
import Derived.Test.YtdohpppkdecbdaaGreatDoorBTexts
import Derived.Test.YtdohpppkdecbdaaGreatDoorBTreeOk
namespace Go.Proofs.YtdohpppkdecbdaaGreatDoor.SpecTree
open Go.RowKit
open Strs Tree Texts
structure Arg (w : World) (vn vk : Value) (wr : World) : Prop where
  below : Below w.heap.size w wr
  size : w.heap.size + 1 ≤ wr.heap.size
  a3 : wr.cell? ⟨w.heap.size, 3, none⟩ = some vn
  a4 : wr.cell? ⟨w.heap.size, 4, none⟩ = some vk
theorem Arg.step {w wr w' : World} {vn vk : Value} (h : Arg w vn vk wr) (hb : Below wr.heap.size wr w') : Arg w vn vk w' :=
  ⟨h.below.trans (hb.mono (by have := h.size; omega)), Nat.le_trans h.size hb.size, cell_keep hb h.a3, cell_keep hb h.a4⟩
theorem arg_new (w : World) (k : Int) (t : ByteArray) (n : Int) (vn vk : Value) (T : TypeId) : Arg w vn vk (w.alloc (Obj.cells #[Value.int IntKind.i64 k, Value.string t, Value.int IntKind.i64 n, vn, vk] T)) := by
  refine ⟨(Below.refl _ _).alloc (Nat.le_refl _) _, by simp, ?_, ?_⟩
  all_goals go_simp
theorem max_any (a b : Nat) (w : World) :
    Calls Tryz.prog 44 #[.int .i64 a, .int .i64 b] w fun r w' => r = .returned (.int .i64 (max a b : Nat)) ∧ w = w' := by
  by_cases h : (b : Int) < (a : Int)
  · rw [show max a b = a by omega]
    go_enter Tryz.func44, Tryz.ntmps44
    go_wp2_with fail
    go_ret
    exact ⟨rfl, rfl⟩
  · rw [show max a b = b by omega]
    go_enter Tryz.func44, Tryz.ntmps44
    go_wp2_with fail
    go_ret
    exact ⟨rfl, rfl⟩
set_option maxHeartbeats 1000000 in
theorem depth_node : ∀ e, ∀ (lo : Nat) (w : World) (vn vk : Value), depth e ≤ 4611686018427387904 → NodeAt lo w e vn vk →
    Calls Tryz.prog 25 #[.agg #[.int .i64 e.kind, .string e.text, .int .i64 e.num, vn, vk]] w fun r w' => r = .returned (.int .i64 (depth e)) ∧ Below w.heap.size w w' := by
  refine ind fun k t n ns ks ih => ?_
  intro lo w vn vk hz hnode
  rw [node_iff] at hnode
  obtain ⟨-, -, -, -, hks⟩ := hnode
  simp only [E.kind, E.text, E.num, E.kids] at *
  obtain ⟨a, cap, rfl, hm, hc⟩ := hks
  unfold maxLen at hm
  have HS : Hid (depth (.mk k t n ns ks) = depths ks + 1) := by show _ = _; rw [depth]
  generalize depth (.mk k t n ns ks) = S at *
  have HC := Lib.hid hc; clear hc
  have IH := Lib.hid ih; clear ih
  have HZ := Lib.hid hz; clear hz
  generalize hN : ks.length = N at *
  have HN := Lib.hid hN; clear hN
  have HA := Lib.hid (arg_new w k t n vn (.slice a N cap) 44)
  go_enter Tryz.func25, Tryz.ntmps25
  go_wp2_with fail
  go_loopw [3, 4] (fun s j wr => ∃ i q : Nat, i ≤ N ∧ j = .int .i64 i ∧ depths (ks.take i) = q ∧ s = .int .i64 q ∧ Arg w vn (.slice a N cap) wr) (fun _ j _ => N - (intOf j).toNat)
  case atStart => exact ⟨0, 0, by omega, rfl, rfl, rfl, HA.out⟩
  case round =>
    obtain ⟨i, q, hi, rfl, hq, rfl, harg⟩ := hrel
    have a4 := harg.a4
    have HQ := Lib.hid hq; clear hq
    have AR := Lib.hid harg; clear harg
    by_cases hlt : i < N
    · have hil : i < ks.length := by rw [HN.out]; exact hlt
      obtain ⟨b, off, rfl, hb, hr⟩ := HC.out (by have := HN.out; omega)
      obtain ⟨xn, xk, d0, d1, d2, d3, d4, hnode⟩ := (row_iff ks off).1 hr i hil
      have c0 := cell_keep AR.out.below d0
      have c1 := cell_keep AR.out.below d1
      have c2 := cell_keep AR.out.below d2
      have c3 := cell_keep AR.out.below d3
      have c4 := cell_keep AR.out.below d4
      have hkz := depth_kid ks i hil
      have KI := Lib.hid (IH.out _ (List.getElem_mem hil) lo _ xn xk (by have := HZ.out; have := HS.out; omega) (hnode.below AR.out.below))
      have HT : Hid (depths (ks.take (i + 1)) = max q (depth ks[i])) := by have := depths_take ks i hil; have := HQ.out; show _ = _; omega
      clear d0 d1 d2 d3 d4 hnode hr hkz
      generalize ks[i] = e at *
      generalize depth e = z at *
      go_wp2_with fail
      refine KI.out.mono ?_
      rintro r w1 ⟨rfl, hb1⟩
      have AR1 := Lib.hid (AR.out.step hb1)
      clear c0 c1 c2 c3 c4 hb1 AR
      go_wp2_with fail
      refine (max_any q z w1).mono ?_
      rintro r w2 ⟨rfl, rfl⟩
      go_wp2_with fail
      go_roundw
      case rel => exact ⟨i + 1, max q z, by omega, by go_num, HT.out, rfl, AR1.out⟩
      case measure => simp [intOf]; omega
    · have hS : S = q + 1 := by
        have h1 : i = N := by omega
        have h2 := HQ.out
        rw [h1, List.take_of_length_le (by rw [HN.out]; exact Nat.le_refl _)] at h2
        rw [HS.out, h2]
      have hq2 : q ≤ 4611686018427387904 := by have := HZ.out; omega
      have HSQ := Lib.hid hS; clear hS
      go_wp2_with fail
      go_ret
      exact ⟨by rw [HSQ.out]; rfl, AR.out.below⟩
end Go.Proofs.YtdohpppkdecbdaaGreatDoor.SpecTree

namespace Go.Proofs.YtdohpppkdecbdaaGreatDoor.SpecTree
open Go.RowKit
open Strs Tree Texts
theorem in_any (a b c : Int) (w : World) :
    Calls Tryz.prog 59 #[.int .i64 a, .int .i64 b, .int .i64 c] w fun r w' => r = .returned (.bool (decide (b ≤ a ∧ a ≤ c))) ∧ w = w' := by
  generalize hD : decide (b ≤ a ∧ a ≤ c) = D
  have HD := Lib.hid hD; clear hD
  by_cases h1 : b ≤ a
  · by_cases h2 : a ≤ c
    · have hD : D = true := by rw [← HD.out]; exact decide_eq_true ⟨h1, h2⟩
      subst hD
      go_enter Tryz.func59, Tryz.ntmps59
      go_wp2_with fail
      go_ret
      exact ⟨rfl, rfl⟩
    · have hD : D = false := by rw [← HD.out]; exact decide_eq_false (fun h => h2 h.2)
      subst hD
      go_enter Tryz.func59, Tryz.ntmps59
      go_wp2_with fail
      go_ret
      exact ⟨rfl, rfl⟩
  · have hD : D = false := by rw [← HD.out]; exact decide_eq_false (fun h => h1 h.1)
    subst hD
    go_enter Tryz.func59, Tryz.ntmps59
    go_wp2_with fail
    go_ret
    exact ⟨rfl, rfl⟩
set_option maxHeartbeats 1000000 in
theorem left_node : ∀ e, ∀ (lo : Nat) (w : World) (vn vk : Value) (l : Nat), l ≤ 1048576 → NodeAt lo w e vn vk →
    Calls Tryz.prog 24 #[.agg #[.int .i64 e.kind, .string e.text, .int .i64 e.num, vn, vk], .int .i64 l] w fun r w' => r = .returned (.int .i64 (after l (size e))) ∧ Below w.heap.size w w' := by
  refine ind fun k t n ns ks ih => ?_
  intro lo w vn vk l hl hnode
  rw [node_iff] at hnode
  obtain ⟨-, -, -, -, hks⟩ := hnode
  simp only [E.kind, E.text, E.num, E.kids] at *
  obtain ⟨a, cap, rfl, hm, hc⟩ := hks
  unfold maxLen at hm
  have HS : Hid (size (.mk k t n ns ks) = sizes ks + 1) := by show _ = _; rw [size]
  generalize size (.mk k t n ns ks) = S at *
  have HC := Lib.hid hc; clear hc
  have IH := Lib.hid ih; clear ih
  generalize hN : ks.length = N at *
  have HN := Lib.hid hN; clear hN
  have HA := Lib.hid (arg_new w k t n vn (.slice a N cap) 44)
  generalize hR : after l S = R
  have HR := Lib.hid hR; clear hR
  by_cases h0 : l = 0
  · subst h0
    have hR : R = -1 := by rw [← HR.out]; exact after_no (by have := HS.out; omega)
    subst hR
    go_enter Tryz.func24, Tryz.ntmps24
    go_wp2_with fail
    refine wp_loop_rounds 1 ?_
    rw [rounds_succ]
    have a4 := HA.out.a4
    by_cases hN0 : 0 < N
    · go_wp2_with fail
      go_ret
      exact ⟨rfl, HA.out.below⟩
    · go_wp2_with fail
      go_ret
      exact ⟨rfl, HA.out.below⟩
  · obtain ⟨l1, hl1⟩ : ∃ l1, l = l1 + 1 := ⟨l - 1, by omega⟩
    have e1 : (l : Int) - 1 = (l1 : Int) := by omega
    have HL1 := Lib.hid hl1; clear hl1
    go_enter Tryz.func24, Tryz.ntmps24
    go_wp2_with fail
    go_loopw [1, 5] (fun s j wr => ∃ i : Nat, i ≤ N ∧ j = .int .i64 i ∧ s = .int .i64 (after l1 (sizes (ks.take i))) ∧ Arg w vn (.slice a N cap) wr) (fun _ j _ => N - (intOf j).toNat)
    case atStart => exact ⟨0, by omega, rfl, by simp [after, sizes], HA.out⟩
    case round =>
      obtain ⟨i, hi, rfl, rfl, harg⟩ := hrel
      have a4 := harg.a4
      have AR := Lib.hid harg; clear harg
      by_cases hlt : i < N
      · have hil : i < ks.length := by rw [HN.out]; exact hlt
        obtain ⟨b, off, rfl, hb, hr⟩ := HC.out (by have := HN.out; omega)
        obtain ⟨xn, xk, d0, d1, d2, d3, d4, hnode⟩ := (row_iff ks off).1 hr i hil
        have c0 := cell_keep AR.out.below d0
        have c1 := cell_keep AR.out.below d1
        have c2 := cell_keep AR.out.below d2
        have c3 := cell_keep AR.out.below d3
        have c4 := cell_keep AR.out.below d4
        have HT := Lib.hid (sizes_take ks i hil)
        by_cases hle : sizes (ks.take i) ≤ l1
        · rw [after_yes hle]
          have KI := Lib.hid (IH.out _ (List.getElem_mem hil) lo _ xn xk (l1 - sizes (ks.take i)) (by have := HL1.out; omega) (hnode.below AR.out.below))
          have HV : Hid (after (l1 - sizes (ks.take i)) (size ks[i]) = after l1 (sizes (ks.take (i + 1)))) := by
            show _ = _
            rw [HT.out]
            unfold after
            split
            · rw [if_pos (by omega)]; congr 1; omega
            · rw [if_neg (by omega)]
          clear d0 d1 d2 d3 d4 hnode hr hle
          generalize ks[i] = e at *
          generalize size e = z at *
          generalize l1 - sizes (ks.take i) = q at *
          clear HT
          rw [HV.out] at KI
          generalize hVV : after l1 (sizes (ks.take (i + 1))) = V at *
          have HVV := Lib.hid hVV; clear hVV
          go_wp2_with fail
          refine KI.out.mono ?_
          rintro r w1 ⟨rfl, hb1⟩
          have AR1 := Lib.hid (AR.out.step hb1)
          clear c0 c1 c2 c3 c4 hb1 AR
          go_wp2_with fail
          go_roundw
          case rel => exact ⟨i + 1, by omega, by go_num, by rw [HVV.out], AR1.out⟩
          case measure => simp [intOf]; omega
        · rw [after_no (by omega)]
          have hR : R = -1 := by
            rw [← HR.out]
            have h3 := sizes_le ks i
            exact after_no (by have := HS.out; have := HL1.out; omega)
          subst hR
          clear d0 d1 d2 d3 d4 hnode hr hle
          go_wp2_with fail
          go_ret
          exact ⟨rfl, AR.out.below⟩
      · have hR : R = after l1 (sizes (ks.take i)) := by
          have h1 : i = N := by omega
          rw [h1, List.take_of_length_le (by rw [HN.out]; exact Nat.le_refl _), ← HR.out, HS.out, HL1.out]
          unfold after
          split
          · rw [if_pos (by omega)]; congr 1; omega
          · rw [if_neg (by omega)]
        generalize after l1 (sizes (ks.take i)) = V at *
        subst hR
        go_wp2_with fail
        go_ret
        exact ⟨rfl, AR.out.below⟩
set_option maxHeartbeats 1000000 in
theorem istext_any (s : ByteArray) (w : World) (hs : s.size ≤ maxLen) :
    Calls Tryz.prog 60 #[.string s] w fun r w' => r = .returned (.bool (isText s)) ∧ w = w' := by
  unfold maxLen at hs
  generalize hD : isText s = D
  have HD := Lib.hid hD; clear hD
  go_enter Tryz.func60, Tryz.ntmps60
  go_wp2_with fail
  go_loop [3] (fun j => ∃ i : Nat, i ≤ s.size ∧ j = .int .i64 i ∧ Hid (∀ k (h : k < s.size), k < i → 32 ≤ s[k].toNat ∧ s[k].toNat ≤ 126)) (fun j => s.size - (intOf j).toNat)
  case atStart => exact ⟨0, by omega, rfl, fun k _ h => by omega⟩
  case round =>
    obtain ⟨i, hi, rfl, HR⟩ := hrel
    by_cases hlt : i < s.size
    · have hlt' : i < s.data.toList.length := by rw [Array.length_toList]; exact hlt
      have HX : Hid (s.data.toList[i]'hlt' = s[i]'hlt) := rfl
      have HNO : Hid (¬ (32 ≤ (s[i]'hlt).toNat ∧ (s[i]'hlt).toNat ≤ 126) → D = false) := by
        intro h
        rw [← HD.out]
        unfold isText
        rw [show s.data.toList.all (fun b => decide (32 ≤ b.toNat) && decide (b.toNat ≤ 126)) = false by
          rw [List.all_eq_false]
          exact ⟨s[i]'hlt, List.getElem_mem hlt', by simpa using h⟩]
        rfl
      by_cases h1 : ((s[i]'hlt).toNat : Int) < 32
      · have hD : D = false := HNO.out (by omega)
        subst hD
        go_wp2_with fail
        go_ret
        exact ⟨rfl, rfl⟩
      · by_cases h2 : (126 : Int) < ((s[i]'hlt).toNat : Int)
        · have hD : D = false := HNO.out (by omega)
          subst hD
          go_wp2_with fail
          go_ret
          exact ⟨rfl, rfl⟩
        · have HN : Hid (∀ k (h : k < s.size), k < i + 1 → 32 ≤ s[k].toNat ∧ s[k].toNat ≤ 126) := by
            intro k hk hki
            by_cases e : k = i
            · subst e; omega
            · exact HR.out k hk (by omega)
          clear HNO HX
          go_wp2_with fail
          go_round
          case rel => exact ⟨i + 1, by omega, by go_num, HN⟩
          case measure => simp [intOf]; omega
    · have HA : Hid (s.data.toList.all (fun b => decide (32 ≤ b.toNat) && decide (b.toNat ≤ 126)) = true) := by
        show _ = _
        rw [List.all_eq_true]
        intro b hb
        obtain ⟨k, hk, rfl⟩ := List.getElem_of_mem hb
        rw [Array.length_toList] at hk
        have hk2 : k < s.size := hk
        have h4 := HR.out k hk2 (by omega)
        simp only [Bool.and_eq_true, decide_eq_true_eq]
        exact h4
      by_cases h3 : (s.size : Int) ≤ 40
      · have hD : D = true := by rw [← HD.out]; unfold isText; rw [HA.out, decide_eq_true (by omega)]; rfl
        subst hD
        go_wp2_with fail
        go_ret
        exact ⟨rfl, rfl⟩
      · have hD : D = false := by rw [← HD.out]; unfold isText; rw [HA.out, decide_eq_false (by omega)]; rfl
        subst hD
        go_wp2_with fail
        go_ret
        exact ⟨rfl, rfl⟩
end Go.Proofs.YtdohpppkdecbdaaGreatDoor.SpecTree
