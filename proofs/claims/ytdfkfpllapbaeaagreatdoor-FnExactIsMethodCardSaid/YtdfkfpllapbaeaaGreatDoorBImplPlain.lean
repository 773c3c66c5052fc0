/-
  impl's isPlain: whether a node has nothing in the fields beside its kids that have no meaning for its kind.
-/
import Derived.Test.YtdfkfpllapbaeaaGreatDoorBImplLike
import Derived.Test.YtdfkfpllapbaeaaGreatDoorBSpecNode
import Derived.Test.YtdfkfpllapbaeaaGreatDoorBTreeOk
namespace Go.Proofs.YtdfkfpllapbaeaaGreatDoor.ImplPlain
open Go.RowKit
open Strs Tree Soft ImplLike
def plain (k : Int) (t : ByteArray) (n : Int) (ns : List ByteArray) : Bool :=
  if k = 1 then decide (t.size = 0) && decide (ns.length = 0)
  else if k = 2 ∨ k = 3 ∨ k = 4 ∨ k = 5 ∨ k = 6 then decide (n = 0) && decide (ns.length = 0)
  else if k = 7 ∨ k = 9 then decide (t.size = 0) && decide (n = 0) && decide (ns.length = 0)
  else if k = 8 then decide (t.size = 0)
  else false
theorem text_flag (t : ByteArray) : (!t.toList.isEmpty) = !(decide (t.size = 0)) := by
  by_cases h : t.size = 0
  · rw [SpecNode.is_text h, ByteArray.toList_eq]; rfl
  · rw [SpecNode.no_text h]; simp [h]
set_option maxHeartbeats 4000000 in
theorem plain_any {w : World} {a : Addr} {e : E} (h : Nd w a e) :
    Calls Tryz.prog 62 #[.pointer (some a)] w fun r w' => r = .returned (.bool (plain e.kind e.text e.num e.names)) ∧ Drawn w w' := by
  obtain ⟨b, o, vn, x, cap, rfl, c0, c1, c2, c3, c4, hm, hm2, hx, -, -, -, -⟩ := h.see
  clear h
  obtain ⟨k, t, n, ns, ks⟩ := e
  simp only [E.kind, E.text, E.num, E.names, E.kids] at *
  obtain ⟨x3, p3, rfl, hm3, -⟩ := hx
  unfold maxLen at hm2 hm3
  generalize hD : plain k t n ns = D
  have HD := Lib.hid hD; clear hD
  go_enter Tryz.func62, Tryz.ntmps62
  go_wp2_with fail
  go_quiet (fail)
  have hD2 : D = (if k = 1 then !(!t.toList.isEmpty) && !(decide (0 < ns.length)) else if k = 2 ∨ k = 3 ∨ k = 4 ∨ k = 5 ∨ k = 6 then !(n != 0) && !(decide (0 < ns.length)) else if k = 7 ∨ k = 9 then !(!t.toList.isEmpty) && !(n != 0) && !(decide (0 < ns.length)) else if k = 8 then !(!t.toList.isEmpty) else false) := by
    have e1 : (!(n != 0)) = decide (n = 0) := by by_cases h : n = 0 <;> simp [h]
    have e2 : (!(decide (0 < ns.length))) = decide (ns.length = 0) := by by_cases h : ns.length = 0 <;> simp [h] <;> omega
    rw [← HD.out, text_flag, e1, e2, Bool.not_not]
    rfl
  generalize (!t.toList.isEmpty) = tb at *
  generalize (n != 0) = nb at *
  generalize decide (0 < ns.length) = lb at *
  generalize ns.length = L at *
  have HD2 := Lib.hid hD2
  clear hD2 HD
  by_cases h1 : k = 1
  case pos =>
    subst h1
    have hv : D = (!tb && !lb) := by rw [HD2.out]; simp
    have HV := Lib.hid hv; clear hv HD2
    cases tb <;> cases lb
    all_goals
      go_wp2_with fail
      go_ret
      exact ⟨by rw [HV.out]; rfl, _, rfl⟩
  have b1 : (k == 1) = false := by rw [beq_eq_false_iff_ne]; exact h1
  by_cases h2 : k = 2
  case pos =>
    subst h2
    have hv : D = (!nb && !lb) := by rw [HD2.out]; simp
    have HV := Lib.hid hv; clear hv HD2
    cases nb <;> cases lb
    all_goals
      go_wp2_with fail
      go_ret
      exact ⟨by rw [HV.out]; rfl, _, rfl⟩
  have b2 : (k == 2) = false := by rw [beq_eq_false_iff_ne]; exact h2
  by_cases h3 : k = 3
  case pos =>
    subst h3
    have hv : D = (!nb && !lb) := by rw [HD2.out]; simp
    have HV := Lib.hid hv; clear hv HD2
    cases nb <;> cases lb
    all_goals
      go_wp2_with fail
      go_ret
      exact ⟨by rw [HV.out]; rfl, _, rfl⟩
  have b3 : (k == 3) = false := by rw [beq_eq_false_iff_ne]; exact h3
  by_cases h4 : k = 4
  case pos =>
    subst h4
    have hv : D = (!nb && !lb) := by rw [HD2.out]; simp
    have HV := Lib.hid hv; clear hv HD2
    cases nb <;> cases lb
    all_goals
      go_wp2_with fail
      go_ret
      exact ⟨by rw [HV.out]; rfl, _, rfl⟩
  have b4 : (k == 4) = false := by rw [beq_eq_false_iff_ne]; exact h4
  by_cases h5 : k = 5
  case pos =>
    subst h5
    have hv : D = (!nb && !lb) := by rw [HD2.out]; simp
    have HV := Lib.hid hv; clear hv HD2
    cases nb <;> cases lb
    all_goals
      go_wp2_with fail
      go_ret
      exact ⟨by rw [HV.out]; rfl, _, rfl⟩
  have b5 : (k == 5) = false := by rw [beq_eq_false_iff_ne]; exact h5
  by_cases h6 : k = 6
  case pos =>
    subst h6
    have hv : D = (!nb && !lb) := by rw [HD2.out]; simp
    have HV := Lib.hid hv; clear hv HD2
    cases nb <;> cases lb
    all_goals
      go_wp2_with fail
      go_ret
      exact ⟨by rw [HV.out]; rfl, _, rfl⟩
  have b6 : (k == 6) = false := by rw [beq_eq_false_iff_ne]; exact h6
  by_cases h7 : k = 7
  case pos =>
    subst h7
    have hv : D = (!tb && !nb && !lb) := by rw [HD2.out]; simp
    have HV := Lib.hid hv; clear hv HD2
    cases tb <;> cases nb <;> cases lb
    all_goals
      go_wp2_with fail
      go_ret
      exact ⟨by rw [HV.out]; rfl, _, rfl⟩
  have b7 : (k == 7) = false := by rw [beq_eq_false_iff_ne]; exact h7
  by_cases h9 : k = 9
  case pos =>
    subst h9
    have hv : D = (!tb && !nb && !lb) := by rw [HD2.out]; simp
    have HV := Lib.hid hv; clear hv HD2
    cases tb <;> cases nb <;> cases lb
    all_goals
      go_wp2_with fail
      go_ret
      exact ⟨by rw [HV.out]; rfl, _, rfl⟩
  have b9 : (k == 9) = false := by rw [beq_eq_false_iff_ne]; exact h9
  by_cases h8 : k = 8
  case pos =>
    subst h8
    have hv : D = (!tb) := by rw [HD2.out]; simp
    have HV := Lib.hid hv; clear hv HD2
    cases tb
    all_goals
      go_wp2_with fail
      go_ret
      exact ⟨by rw [HV.out]; rfl, _, rfl⟩
  have b8 : (k == 8) = false := by rw [beq_eq_false_iff_ne]; exact h8
  have hv : D = false := by rw [HD2.out]; simp [h1, h2, h3, h4, h5, h6, h7, h8, h9]
  subst hv
  clear HD2 h1 h2 h3 h4 h5 h6 h7 h8 h9
  go_wp2_with fail
  go_ret
  exact ⟨rfl, _, rfl⟩
end Go.Proofs.YtdfkfpllapbaeaaGreatDoor.ImplPlain
