/-
  laws.szExpr and szExprS: what they answer of every tree, and that they write nothing that was there.
-/
import Derived.Test.YtfceglooifbljaaTexts
namespace Go.Proofs.Ytfceglooifbljaa.TreeSz
open Go.RowKit
open Strs Tree Texts

/-- What szExpr says of a tree. -/
def Ok (e : E) : Prop := ∀ (lo left : Nat) (w : World) (vn vk : Value), left ≤ 1048576 → NodeAt lo w e vn vk →
  Calls Try.prog 4 #[.agg #[.int .i64 e.kind, .string e.text, .int .i64 e.num, vn, vk], .int .i64 left] w fun r w' => r = .returned (.int .i64 (after left (weight e))) ∧ Below w.heap.size w w'

theorem kids_nil (a : Option Addr) (c left : Nat) (w : World) (hl : left ≤ 1048576) :
    Calls Try.prog 10 #[.slice a 0 c, .int .i64 left] w fun e w' => e = .returned (.int .i64 (after left 0)) ∧ Below w.heap.size w w' := by
  rw [after_yes (Nat.zero_le _)]
  go_enter Try.func10, Try.ntmps10
  go_wp2_with fail
  refine wp_loop_rounds 1 ?_
  rw [rounds_succ]
  go_wp2_with fail
  go_ret
  exact ⟨by simp, Below.refl _ _⟩

set_option maxHeartbeats 1000000 in
theorem kids_cons (lo b off cap n left : Nat) (ks : List E) (w : World) (ih : ∀ e, e ∈ ks → Ok e) (hn : ks.length = n) (hm : n ≤ maxLen) (hl : left ≤ 1048576) (hr : Row lo w b ks off) :
    Calls Try.prog 10 #[.slice (some ⟨b, off, none⟩) n cap, .int .i64 left] w fun e w' => e = .returned (.int .i64 (after left (n + weights ks))) ∧ Below w.heap.size w w' := by
  unfold maxLen at hm
  have HN := Lib.hid hn; clear hn
  have HR := Lib.hid hr; clear hr
  have IH := Lib.hid ih; clear ih
  by_cases hbig : (left : Int) - (n : Int) < 0
  · rw [after_no (by omega)]
    go_enter Try.func10, Try.ntmps10
    go_wp2_with fail
    go_ret
    exact ⟨rfl, Below.refl _ _⟩
  · generalize hR : after left (n + weights ks) = R
    have HA := Lib.hid hR; clear hR
    go_enter Try.func10, Try.ntmps10
    go_wp2_with fail
    go_loopw [1, 5] (fun t j wr => ∃ i r : Nat, i ≤ n ∧ j = .int .i64 i ∧ r + n + weights (ks.take i) = left ∧ t = .int .i64 r ∧ Below w.heap.size w wr) (fun _ j _ => n - (intOf j).toNat)
    case atStart => exact ⟨0, left - n, by omega, rfl, by simp [weights]; omega, by go_num, Below.refl _ _⟩
    case round =>
      obtain ⟨i, r, hi, rfl, hq, rfl, hbw⟩ := hrel
      have HQ := Lib.hid hq; clear hq
      by_cases hlt : i < n
      · have hil : i < ks.length := by rw [HN.out]; exact hlt
        obtain ⟨vn, vk, a0, a1, a2, a3, a4, hnode⟩ := (row_iff ks off).1 HR.out i hil
        have c0 := cell_keep hbw a0
        have c1 := cell_keep hbw a1
        have c2 := cell_keep hbw a2
        have c3 := cell_keep hbw a3
        have c4 := cell_keep hbw a4
        clear a0 a1 a2 a3 a4
        have hrl : r ≤ 1048576 := by have := HQ.out; omega
        have KI := Lib.hid (IH.out _ (List.getElem_mem hil) lo r wr vn vk hrl (hnode.below hbw))
        have HT := Lib.hid (weights_take ks i hil)
        clear hnode
        generalize ks[i] = k at *
        go_wp2_with fail
        refine KI.out.mono ?_
        rintro e w1 ⟨rfl, hb1⟩
        have HB : Hid (Below w.heap.size w w1) := hbw.trans (hb1.mono hbw.size)
        by_cases hle : weight k ≤ r
        · rw [after_yes hle]
          have HT2 : Hid (r - weight k + n + weights (ks.take (i + 1)) = left) := by
            have h1 := HT.out
            have h2 := HQ.out
            show _ = _
            omega
          generalize r - weight k = r' at *
          go_wp2_with fail
          go_roundw
          case rel => exact ⟨i + 1, r', by omega, by go_num, HT2.out, rfl, HB.out⟩
          case measure => simp [intOf]; omega
        · rw [after_no (by omega)]
          have hR : R = -1 := by
            rw [← HA.out]
            have h1 := HT.out
            have h2 := HQ.out
            have h3 := weights_le ks (i + 1)
            exact after_no (by omega)
          subst hR
          go_wp2_with fail
          go_ret
          exact ⟨rfl, HB.out⟩
      · have hR : R = (r : Int) := by
          have h1 : i = n := by omega
          have h2 := HQ.out
          rw [h1, List.take_of_length_le (by rw [HN.out]; exact Nat.le_refl _)] at h2
          rw [← HA.out, after_yes (by omega)]
          omega
        have HR2 := Lib.hid hR; clear hR
        go_wp2_with fail
        go_ret
        exact ⟨by rw [HR2.out]; rfl, hbw⟩

theorem kids_any {lo left : Nat} {ks : List E} {v : Value} {w : World} (ih : ∀ e, e ∈ ks → Ok e) (h : KidsAt lo w ks v) (hl : left ≤ 1048576) :
    Calls Try.prog 10 #[v, .int .i64 left] w fun e w' => e = .returned (.int .i64 (after left (ks.length + weights ks))) ∧ Below w.heap.size w w' := by
  obtain ⟨a, cap, rfl, hm, hc⟩ := h
  by_cases hp : 0 < ks.length
  · obtain ⟨b, off, rfl, hb, hd⟩ := hc hp
    exact kids_cons lo b off cap _ left ks w ih rfl (Nat.le_trans hm.1 hm.2) hl hd
  · have : ks = [] := List.eq_nil_of_length_eq_zero (by omega)
    subst this
    exact kids_nil a cap left w hl

set_option maxHeartbeats 1000000 in
/-- szExpr takes a tree's weight from what is left. -/
theorem any : ∀ e, Ok e := by
  refine ind fun k t n ns ks ih => ?_
  intro lo left w vn vk hl hnode
  rw [node_iff] at hnode
  obtain ⟨-, -, ht, hns, hks⟩ := hnode
  simp only [E.kind, E.text, E.num, E.names, E.kids] at *
  unfold maxLen at ht
  obtain ⟨a1, cap1, hv1, -⟩ := id hns
  obtain ⟨a2, cap2, hv2, -⟩ := id hks
  have HNS := Lib.hid hns; clear hns
  have HKS := Lib.hid hks; clear hks
  have IH := Lib.hid ih; clear ih
  have HW : Hid (weight (.mk k t n ns ks) = t.size + (ns.length + lens ns) + (ks.length + weights ks)) := by show _ = _; rw [weight]
  generalize weight (.mk k t n ns ks) = W at *
  have HV1 := Lib.hid hv1
  have HV2 := Lib.hid hv2
  clear hv1 hv2
  generalize hR : after left W = R
  have HA := Lib.hid hR; clear hR
  by_cases h1 : (left : Int) - (t.size : Int) < 0
  · have hR : R = -1 := by rw [← HA.out]; exact after_no (by have := HW.out; omega)
    subst hR
    go_enter Try.func4, Try.ntmps4
    go_wp2_with fail
    go_ret
    exact ⟨rfl, (Below.refl _ _).alloc (Nat.le_refl _) _⟩
  · obtain ⟨l1, hl1⟩ : ∃ l1 : Nat, l1 + t.size = left := ⟨left - t.size, by omega⟩
    have e1 : (left : Int) - (t.size : Int) = (l1 : Int) := by omega
    have KS := fun w' (hb : Below w.heap.size w w') => Lib.hid (sz_any (left := l1) (HNS.out.below hb) (by omega))
    go_enter Try.func4, Try.ntmps4
    go_wp2_with fail
    refine (KS _ ((Below.refl _ _).alloc (Nat.le_refl _) _)).out.mono ?_
    rintro e w1 ⟨rfl, rfl⟩
    by_cases h2 : ns.length + lens ns ≤ l1
    · rw [after_yes h2]
      obtain ⟨l2, hl2⟩ : ∃ l2 : Nat, l1 - (ns.length + lens ns) = l2 := ⟨_, rfl⟩
      have HL2 : Hid (l2 + (ns.length + lens ns) + t.size = left) := by show _ = _; omega
      have KK := fun w' (hb : Below w.heap.size w w') => Lib.hid (kids_any (left := l2) IH.out (HKS.out.below hb) (by omega))
      rw [hl2]
      clear hl2 h2
      have c3 : (w.alloc (Obj.cells #[Value.int IntKind.i64 k, Value.string t, Value.int IntKind.i64 n, vn, vk] 25)).cell? ⟨w.heap.size, 4, none⟩ = some vk := by go_simp
      go_wp2_with fail
      refine (KK _ ((Below.refl _ _).alloc (Nat.le_refl _) _)).out.mono ?_
      rintro e w1 ⟨rfl, hb1⟩
      have HB : Hid (Below w.heap.size w w1) := ((Below.refl _ _).alloc (Nat.le_refl _) _).trans (hb1.mono (by simp))
      clear hb1
      by_cases h3 : ks.length + weights ks ≤ l2
      · rw [after_yes h3]
        have hR : R = ((l2 - (ks.length + weights ks) : Nat) : Int) := by
          have h4 := HW.out
          have h5 := HL2.out
          rw [← HA.out, after_yes (by omega)]
          omega
        generalize l2 - (ks.length + weights ks) = l3 at *
        subst hR
        go_wp2_with fail
        go_ret
        exact ⟨rfl, HB.out⟩
      · rw [after_no (by omega)]
        have hR : R = -1 := by rw [← HA.out]; exact after_no (by have h4 := HW.out; have h5 := HL2.out; omega)
        subst hR
        go_wp2_with fail
        go_ret
        exact ⟨rfl, HB.out⟩
    · rw [after_no (by omega)]
      have hR : R = -1 := by rw [← HA.out]; exact after_no (by have h4 := HW.out; omega)
      subst hR
      go_wp2_with fail
      go_ret
      exact ⟨rfl, (Below.refl _ _).alloc (Nat.le_refl _) _⟩
end Go.Proofs.Ytfceglooifbljaa.TreeSz
