/-
  impl's isStatement and IsExpr: what they answer of every tree that lies in open blocks.
-/
import Derived.Test.YtdohpppkdecbdaaGreatDoorBImplMeas
import Derived.Test.YtdohpppkdecbdaaGreatDoorBImplValue
import Derived.Test.YtdohpppkdecbdaaGreatDoorBTreeTo
namespace Go.Proofs.YtdohpppkdecbdaaGreatDoor.ImplRight
open Go.RowKit
open Strs Tree Soft ImplLike ImplPlain Rights ImplVals TreeTo
open ImplTok (Part)
set_option maxHeartbeats 4000000 in
theorem stmt_mk {k : Int} {t : ByteArray} {n : Int} {ns : List ByteArray} {ks : List E} (ihv : OkV (.mk k t n ns ks)) (ih : ∀ m, m ∈ ks → OkV m) : OkS (.mk k t n ns ks) := by
  intro w a hw h
  by_cases h9 : k = 9
  case neg =>
    have KV := Lib.hid (ihv w a hw h)
    rw [stmt_not9 (show ¬ (E.mk k t n ns ks).kind = 9 from h9)]
    generalize right (.mk k t n ns ks) false = D at *
    obtain ⟨b, o, vn, x, cap, rfl, c0, -⟩ := see2 h
    simp only [E.kind] at c0
    have b9 : (k == 9) = false := by rw [beq_eq_false_iff_ne]; exact h9
    clear h hw ihv ih h9
    go_enter Tryz.func69, Tryz.ntmps69
    go_wp2_with fail
    refine KV.out.mono ?_
    rintro r w1 ⟨rfl, hb1⟩
    have B1 := Lib.hid hb1; clear hb1
    go_wp2_with fail
    go_ret
    exact ⟨rfl, B1.out⟩
  subst h9
  have KP := Lib.hid (plain_below h)
  obtain ⟨b, o, vn, x, cap, rfl, c0, c1, c2, c3, c4, hm, hx, hk⟩ := see2 h
  simp only [E.kind, E.text, E.num, E.names, E.kids] at *
  rw [weight] at hw
  unfold maxLen at hm
  have KV := fun w' (hb : Below w.heap.size w w') => Lib.hid (vals_any (cap := cap) ih (by omega) (hk.keep hb) (by unfold maxLen; omega))
  have HR : Hid (∀ P, plain 9 t n ns = P → right (.mk 9 t n ns ks) true = (P && decide (ks.length = 1) && rights false ks)) := by
    intro P hP
    cases P with
    | false => rw [not_plain hP]; rfl
    | true => rw [right_9 hP]; rfl
  have HRR := Lib.hid (HR.out _ rfl)
  clear h hk ih hx hw HR ihv
  generalize right (.mk 9 t n ns ks) true = D at *
  generalize plain 9 t n ns = P at *
  generalize rights false ks = R at *
  generalize ks.length = N at *
  cases P with
  | false =>
    have hD : D = false := by rw [HRR.out]; rfl
    subst hD
    clear HRR
    go_enter Tryz.func69, Tryz.ntmps69
    go_wp2_with fail
    refine KP.out.mono ?_
    rintro r w1 ⟨rfl, hb1⟩
    have B1 := Lib.hid hb1; clear hb1
    go_wp2_with fail
    go_ret
    exact ⟨rfl, B1.out⟩
  | true =>
    by_cases hN : N = 1
    · have hb : ((N : Int) == 1) = true := by rw [beq_iff_eq]; omega
      have hD : D = R := by rw [HRR.out, decide_eq_true hN]; rfl
      have HN := Lib.hid hN; clear hN
      subst hD
      clear HRR
      go_enter Tryz.func69, Tryz.ntmps69
      go_wp2_with fail
      refine KP.out.mono ?_
      rintro r w1 ⟨rfl, hb1⟩
      have B1 := Lib.hid hb1
      have d4 := cell_keep hb1 c4
      clear hb1
      go_wp2_with fail
      refine (KV _ B1.out).out.mono ?_
      rintro r w2 ⟨rfl, hb2⟩
      have B2 := Lib.hid (B1.out.trans (hb2.mono B1.out.size))
      clear hb2 d4
      go_wp2_with fail
      go_ret
      exact ⟨rfl, B2.out⟩
    · have hb : ((N : Int) == 1) = false := by rw [beq_eq_false_iff_ne]; omega
      have hD : D = false := by rw [HRR.out, decide_eq_false hN]; rfl
      subst hD
      clear HRR hN
      go_enter Tryz.func69, Tryz.ntmps69
      go_wp2_with fail
      refine KP.out.mono ?_
      rintro r w1 ⟨rfl, hb1⟩
      have B1 := Lib.hid hb1
      have d4 := cell_keep hb1 c4
      clear hb1
      go_wp2_with fail
      go_ret
      exact ⟨rfl, B1.out⟩
theorem right_any : ∀ e, (OkV e ∧ OkS e) ∧ ∀ g, g ∈ e.kids → OkV g := by
  refine ind fun k t n ns ks ih => ?_
  have hv : OkV (.mk k t n ns ks) := val_mk (fun m hm => (ih m hm).1) (fun m hm => (ih m hm).2)
  exact ⟨⟨hv, stmt_mk hv (fun m hm => (ih m hm).1.1)⟩, fun g hg => (ih g hg).1.1⟩
set_option maxHeartbeats 4000000 in
theorem is_expr {lo : Nat} {e : E} {v : Value} {w : World} (h : Reads lo w e v) (hs : SoftV lo w e v) (hw : weight e ≤ 1048576) :
    Calls Tryz.prog 55 #[v] w (Part (isExpr e) w) := by
  obtain ⟨vn, vk, rfl, hn⟩ := h
  obtain ⟨_, _, _, _, _, he, hs⟩ := hs
  cases he
  have hb : Below w.heap.size w (w.alloc (.cells #[.int .i64 e.kind, .string e.text, .int .i64 e.num, vn, vk] 44)) := (Below.refl _ _).alloc (Nat.le_refl _) _
  have hnd := node_box hn hs 44
  have K := Lib.hid (ImplMeas.measure_any _ _ e hnd (by have := size_weight e; omega))
  have KS := fun w' (hb : Below (w.alloc (.cells #[.int .i64 e.kind, .string e.text, .int .i64 e.num, vn, vk] 44)).heap.size (w.alloc (.cells #[.int .i64 e.kind, .string e.text, .int .i64 e.num, vn, vk] 44)) w') => Lib.hid ((right_any e).1.2 w' _ hw (hnd.keep hb))
  have HE : Hid (isExpr e = (decide (size e ≤ 300) && decide (depth e ≤ 25) && right e true)) := rfl
  have HB := Lib.hid hb
  unfold Dfs.ext at K
  clear hn hs hb hnd hw
  generalize isExpr e = D at *
  generalize right e true = R at *
  generalize size e = sz at *
  generalize depth e = dp at *
  go_enter Tryz.func55, Tryz.ntmps55
  go_wp2_with fail
  refine K.out.mono ?_
  rintro r w1 ⟨rfl, hb1⟩
  have H1 := Lib.hid (HB.out.trans (hb1.mono HB.out.size))
  have HS1 := Lib.hid hb1
  clear hb1
  by_cases hsz : sz ≤ 300
  case neg =>
    have hD : D = false := by rw [HE.out, decide_eq_false hsz]; rfl
    subst hD
    have q1 : ¬ ((sz : Int) ≤ 300) := by omega
    clear HE hsz
    go_wp2_with fail
    go_ret
    exact ⟨rfl, H1.out.alloc H1.out.size _⟩
  have q1 : (sz : Int) ≤ 300 := by omega
  by_cases hdp : dp ≤ 25
  case neg =>
    have hD : D = false := by rw [HE.out, decide_eq_false hdp]; simp
    subst hD
    have q2 : ¬ ((dp : Int) ≤ 25) := by omega
    clear HE hdp hsz
    go_wp2_with fail
    go_ret
    exact ⟨rfl, H1.out.alloc H1.out.size _⟩
  have q2 : (dp : Int) ≤ 25 := by omega
  have hD : D = R := by rw [HE.out, decide_eq_true hsz, decide_eq_true hdp]; rfl
  subst hD
  clear HE hdp hsz
  go_wp2_with fail
  refine (KS _ (HS1.out.alloc HS1.out.size _)).out.mono ?_
  rintro r w2 ⟨rfl, hb2⟩
  have H2 := Lib.hid ((H1.out.alloc H1.out.size _).trans (hb2.mono (Nat.le_trans H1.out.size (by simp))))
  clear hb2
  go_wp2_with fail
  go_ret
  exact ⟨rfl, H2.out⟩
end Go.Proofs.YtdohpppkdecbdaaGreatDoor.ImplRight
