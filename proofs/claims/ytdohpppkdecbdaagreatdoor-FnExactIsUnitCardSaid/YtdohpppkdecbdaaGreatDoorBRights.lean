/-
  impl's isPlain: whether a node has nothing in the fields beside its kids that have no meaning for its kind.
  When a tree is right, kind by kind, as impl's isValue and isStatement ask it. Plain mathematics.
-/
import Derived.Test.YtdohpppkdecbdaaGreatDoorBImplLike
import Derived.Test.YtdohpppkdecbdaaGreatDoorBSpecNode7
import Derived.Test.YtdohpppkdecbdaaGreatDoorBTreeOk
namespace Go.Proofs.YtdohpppkdecbdaaGreatDoor.ImplPlain
open Go.RowKit
open Strs Tree Soft ImplLike
def plain (k : Int) (t : ByteArray) (n : Int) (ns : List ByteArray) : Bool :=
  if k = 1 then decide (t.size = 0) && decide (ns.length = 0)
  else if k = 2 ∨ k = 3 ∨ k = 4 ∨ k = 5 ∨ k = 6 then decide (n = 0) && decide (ns.length = 0)
  else if k = 7 ∨ k = 9 then decide (t.size = 0) && decide (n = 0) && decide (ns.length = 0)
  else if k = 8 then decide (t.size = 0)
  else false
theorem text_flag (t : ByteArray) : (!t.toList.isEmpty) = !(decide (t.size = 0)) := by
  by_cases h : t.size = 0
  · rw [SpecNode.is_text h, ByteArray.toList_eq]; rfl
  · rw [SpecNode.no_text h]; simp [h]
set_option maxHeartbeats 4000000 in
theorem plain_any {w : World} {a : Addr} {e : E} (h : Nd w a e) :
    Calls Tryz.prog 78 #[.pointer (some a)] w fun r w' => r = .returned (.bool (plain e.kind e.text e.num e.names)) ∧ Drawn w w' := by
  obtain ⟨b, o, vn, x, cap, rfl, c0, c1, c2, c3, c4, hm, hm2, hx, -, -, -, -⟩ := h.see
  clear h
  obtain ⟨k, t, n, ns, ks⟩ := e
  simp only [E.kind, E.text, E.num, E.names, E.kids] at *
  obtain ⟨x3, p3, rfl, hm3, -⟩ := hx
  unfold maxLen at hm2 hm3
  generalize hD : plain k t n ns = D
  have HD := Lib.hid hD; clear hD
  go_enter Tryz.func78, Tryz.ntmps78
  go_wp2_with fail
  go_quiet (fail)
  have hD2 : D = (if k = 1 then !(!t.toList.isEmpty) && !(decide (0 < ns.length)) else if k = 2 ∨ k = 3 ∨ k = 4 ∨ k = 5 ∨ k = 6 then !(n != 0) && !(decide (0 < ns.length)) else if k = 7 ∨ k = 9 then !(!t.toList.isEmpty) && !(n != 0) && !(decide (0 < ns.length)) else if k = 8 then !(!t.toList.isEmpty) else false) := by
    have e1 : (!(n != 0)) = decide (n = 0) := by by_cases h : n = 0 <;> simp [h]
    have e2 : (!(decide (0 < ns.length))) = decide (ns.length = 0) := by by_cases h : ns.length = 0 <;> simp [h] <;> omega
    rw [← HD.out, text_flag, e1, e2, Bool.not_not]
    rfl
  generalize (!t.toList.isEmpty) = tb at *
  generalize (n != 0) = nb at *
  generalize decide (0 < ns.length) = lb at *
  generalize ns.length = L at *
  have HD2 := Lib.hid hD2
  clear hD2 HD
  by_cases h1 : k = 1
  case pos =>
    subst h1
    have hv : D = (!tb && !lb) := by rw [HD2.out]; simp
    have HV := Lib.hid hv; clear hv HD2
    cases tb <;> cases lb
    all_goals
      go_wp2_with fail
      go_ret
      exact ⟨by rw [HV.out]; rfl, _, rfl⟩
  have b1 : (k == 1) = false := by rw [beq_eq_false_iff_ne]; exact h1
  by_cases h2 : k = 2
  case pos =>
    subst h2
    have hv : D = (!nb && !lb) := by rw [HD2.out]; simp
    have HV := Lib.hid hv; clear hv HD2
    cases nb <;> cases lb
    all_goals
      go_wp2_with fail
      go_ret
      exact ⟨by rw [HV.out]; rfl, _, rfl⟩
  have b2 : (k == 2) = false := by rw [beq_eq_false_iff_ne]; exact h2
  by_cases h3 : k = 3
  case pos =>
    subst h3
    have hv : D = (!nb && !lb) := by rw [HD2.out]; simp
    have HV := Lib.hid hv; clear hv HD2
    cases nb <;> cases lb
    all_goals
      go_wp2_with fail
      go_ret
      exact ⟨by rw [HV.out]; rfl, _, rfl⟩
  have b3 : (k == 3) = false := by rw [beq_eq_false_iff_ne]; exact h3
  by_cases h4 : k = 4
  case pos =>
    subst h4
    have hv : D = (!nb && !lb) := by rw [HD2.out]; simp
    have HV := Lib.hid hv; clear hv HD2
    cases nb <;> cases lb
    all_goals
      go_wp2_with fail
      go_ret
      exact ⟨by rw [HV.out]; rfl, _, rfl⟩
  have b4 : (k == 4) = false := by rw [beq_eq_false_iff_ne]; exact h4
  by_cases h5 : k = 5
  case pos =>
    subst h5
    have hv : D = (!nb && !lb) := by rw [HD2.out]; simp
    have HV := Lib.hid hv; clear hv HD2
    cases nb <;> cases lb
    all_goals
      go_wp2_with fail
      go_ret
      exact ⟨by rw [HV.out]; rfl, _, rfl⟩
  have b5 : (k == 5) = false := by rw [beq_eq_false_iff_ne]; exact h5
  by_cases h6 : k = 6
  case pos =>
    subst h6
    have hv : D = (!nb && !lb) := by rw [HD2.out]; simp
    have HV := Lib.hid hv; clear hv HD2
    cases nb <;> cases lb
    all_goals
      go_wp2_with fail
      go_ret
      exact ⟨by rw [HV.out]; rfl, _, rfl⟩
  have b6 : (k == 6) = false := by rw [beq_eq_false_iff_ne]; exact h6
  by_cases h7 : k = 7
  case pos =>
    subst h7
    have hv : D = (!tb && !nb && !lb) := by rw [HD2.out]; simp
    have HV := Lib.hid hv; clear hv HD2
    cases tb <;> cases nb <;> cases lb
    all_goals
      go_wp2_with fail
      go_ret
      exact ⟨by rw [HV.out]; rfl, _, rfl⟩
  have b7 : (k == 7) = false := by rw [beq_eq_false_iff_ne]; exact h7
  by_cases h9 : k = 9
  case pos =>
    subst h9
    have hv : D = (!tb && !nb && !lb) := by rw [HD2.out]; simp
    have HV := Lib.hid hv; clear hv HD2
    cases tb <;> cases nb <;> cases lb
    all_goals
      go_wp2_with fail
      go_ret
      exact ⟨by rw [HV.out]; rfl, _, rfl⟩
  have b9 : (k == 9) = false := by rw [beq_eq_false_iff_ne]; exact h9
  by_cases h8 : k = 8
  case pos =>
    subst h8
    have hv : D = (!tb) := by rw [HD2.out]; simp
    have HV := Lib.hid hv; clear hv HD2
    cases tb
    all_goals
      go_wp2_with fail
      go_ret
      exact ⟨by rw [HV.out]; rfl, _, rfl⟩
  have b8 : (k == 8) = false := by rw [beq_eq_false_iff_ne]; exact h8
  have hv : D = false := by rw [HD2.out]; simp [h1, h2, h3, h4, h5, h6, h7, h8, h9]
  subst hv
  clear HD2 h1 h2 h3 h4 h5 h6 h7 h8 h9
  go_wp2_with fail
  go_ret
  exact ⟨rfl, _, rfl⟩
end Go.Proofs.YtdohpppkdecbdaaGreatDoor.ImplPlain

namespace Go.Proofs.YtdohpppkdecbdaaGreatDoor.Rights
open Tree ImplPlain
theorem right_eq (k : Int) (t : ByteArray) (n : Int) (ns : List ByteArray) (ks : List E) (st : Bool) :
    right (.mk k t n ns ks) st = (node k t n ns ks.length (tailOk ks) && (decide (k ≠ 9) || st) && (if k = 7 then headOk ks else rights (decide (k = 8)) ks)) := by rw [right]
theorem value_is (e : E) : right e false = (right e true && decide (e.kind ≠ 9)) := by
  obtain ⟨k, t, n, ns, ks⟩ := e
  rw [right_eq, right_eq]
  simp only [E.kind]
  by_cases h : k = 9
  · simp [h]
  · simp [h]
theorem stmt_not9 {e : E} (h : ¬ e.kind = 9) : right e true = right e false := by
  rw [value_is]; simp [h]
theorem no_kids {ks : List E} (h : ks.length = 0) : ks = [] := List.eq_nil_of_length_eq_zero h
theorem not_plain {k : Int} {t : ByteArray} {n : Int} {ns : List ByteArray} {ks : List E} {st : Bool} (h : plain k t n ns = false) : right (.mk k t n ns ks) st = false := by
  rw [right_eq]
  have : node k t n ns ks.length (tailOk ks) = false := by
    unfold plain at h
    unfold node
    split
    · rfl
    · rename_i hc
      have hc1 : ¬ (k ≠ 8 ∧ 0 < ns.length) := fun x => hc (.inl x)
      have hc2 : ¬ (k ≠ 1 ∧ k ≠ 8 ∧ n ≠ 0) := fun x => hc (.inr x)
      by_cases h1 : k = 1
      · subst h1
        have hl : ns.length = 0 := by have := hc1; simp at this; simp [this]
        simp [hl] at h
        simp [h]
      by_cases h8 : k = 8
      · subst h8
        simp at h
        simp [h]
      have hn : n = 0 := by
        by_cases e : n = 0
        · exact e
        · exact absurd ⟨h1, h8, e⟩ hc2
      have hl : ns.length = 0 := by
        by_cases e : ns.length = 0
        · exact e
        · exact absurd ⟨h8, by omega⟩ hc1
      simp only [hn, hl] at h
      by_cases h7 : k = 7
      · subst h7; simp at h; simp [h]
      by_cases h9 : k = 9
      · subst h9; simp at h; simp [h]
      by_cases h2 : k = 2
      · simp [h2] at h
      by_cases h3 : k = 3
      · simp [h3] at h
      by_cases h4 : k = 4
      · simp [h4] at h
      by_cases h5 : k = 5
      · simp [h5] at h
      by_cases h6 : k = 6
      · simp [h6] at h
      simp [h1, h2, h3, h4, h5, h6, h7, h8, h9]
  rw [this]; rfl
section
variable {t : ByteArray} {n : Int} {ns : List ByteArray} {ks : List E}
theorem plain_1 (h : plain 1 t n ns = true) : t.size = 0 ∧ ns.length = 0 := by simpa [plain] using h
theorem plain_p {k : Int} (hk : k = 2 ∨ k = 3 ∨ k = 4 ∨ k = 5 ∨ k = 6) (h : plain k t n ns = true) : n = 0 ∧ ns.length = 0 := by
  have h1 : ¬ k = 1 := by omega
  simpa [plain, h1, hk] using h
theorem plain_q {k : Int} (hk : k = 7 ∨ k = 9) (h : plain k t n ns = true) : t.size = 0 ∧ n = 0 ∧ ns.length = 0 := by
  have h1 : ¬ k = 1 := by omega
  have h2 : ¬ (k = 2 ∨ k = 3 ∨ k = 4 ∨ k = 5 ∨ k = 6) := by omega
  have := h
  simp only [plain, if_neg h1, if_neg h2, if_pos hk, Bool.and_eq_true, decide_eq_true_eq] at this
  exact ⟨this.1.1, this.1.2, this.2⟩
theorem plain_8 (h : plain 8 t n ns = true) : t.size = 0 := by simpa [plain] using h
theorem rights_none {b : Bool} (h : ks.length = 0) : rights b ks = true := by rw [no_kids h]; rfl
theorem right_1 (h : plain 1 t n ns = true) : right (.mk 1 t n ns ks) false = (decide (0 ≤ n) && decide (n ≤ 999999999) && decide (ks.length = 0)) := by
  obtain ⟨h1, h2⟩ := plain_1 h
  rw [right_eq]
  by_cases hk : ks.length = 0
  · by_cases h0 : 0 ≤ n <;> by_cases h9 : n ≤ 999999999 <;> simp [node, h1, h2, hk, h0, h9, rights_none hk]
  · simp [node, h1, h2, hk]
theorem right_2 (h : plain 2 t n ns = true) : right (.mk 2 t n ns ks) false = (isText t && decide (ks.length = 0)) := by
  obtain ⟨h1, h2⟩ := plain_p (.inl rfl) h
  rw [right_eq]
  by_cases hk : ks.length = 0
  · simp [node, h1, h2, hk, rights_none hk]
  · simp [node, h1, h2, hk]
theorem right_3 (h : plain 3 t n ns = true) : right (.mk 3 t n ns ks) false = (Tok.sel t && decide (ks.length = 0)) := by
  obtain ⟨h1, h2⟩ := plain_p (.inr (.inl rfl)) h
  rw [right_eq]
  by_cases hk : ks.length = 0
  · simp [node, h1, h2, hk, rights_none hk]
  · simp [node, h1, h2, hk]
theorem right_4 (h : plain 4 t n ns = true) : right (.mk 4 t n ns ks) false = (Tok.isName t && decide (ks.length = 0)) := by
  obtain ⟨h1, h2⟩ := plain_p (.inr (.inr (.inl rfl))) h
  rw [right_eq]
  by_cases hk : ks.length = 0
  · simp [node, h1, h2, hk, rights_none hk]
  · simp [node, h1, h2, hk]
theorem right_5 (h : plain 5 t n ns = true) : right (.mk 5 t n ns ks) false = (Tok.isName t && decide (ks.length = 1) && rights false ks) := by
  obtain ⟨h1, h2⟩ := plain_p (by omega) h
  rw [right_eq]
  simp [node, h1, h2]
def sendB (k : Int) (t : ByteArray) (n : Int) (ns : List ByteArray) (ks : List E) (r : Int) : Bool :=
  decide (k = 6) && plain k t n ns && Tok.sel t && decide ((ks.length : Int) = r + Tok.countArgs t) && rights false ks
theorem right_6 (hs : ∀ s, Tok.sel s = decide (0 ≤ Tok.countArgs s)) (h : plain 6 t n ns = true) : right (.mk 6 t n ns ks) false = sendB 6 t n ns ks 1 := by
  obtain ⟨h1, h2⟩ := plain_p (by omega) h
  rw [right_eq]
  unfold sendB
  rw [h, hs]
  by_cases hk : (ks.length : Int) = Tok.countArgs t + 1
  · have e1 : (ks.length : Int) = 1 + Tok.countArgs t := by omega
    by_cases hc : 0 ≤ Tok.countArgs t
    · have : 0 < ks.length := by omega
      simp [node, h1, h2, hk, hc, this]
      intro hh; omega
    · have : ¬ 0 < ks.length := by omega
      simp [node, h1, h2, hk, hc, this]
  · have e1 : ¬ (ks.length : Int) = 1 + Tok.countArgs t := by omega
    simp [node, h1, h2, hk, e1]
theorem msg_is (hs : ∀ s, Tok.sel s = decide (0 ≤ Tok.countArgs s)) (k : Int) : msg (.mk k t n ns ks) = sendB k t n ns ks 0 := by
  unfold msg sendB
  simp only [E.kind, E.num, E.names, E.text, E.kids, hs, Int.zero_add]
  by_cases h6 : k = 6
  · subst h6
    rw [Bool.eq_iff_iff]
    by_cases hn : n = 0
    · by_cases hl : ns.length = 0
      · simp [plain, hn, hl]
        intro _
        exact ⟨fun h => ⟨of_decide_eq_true h.1, of_decide_eq_true h.2⟩, fun h => ⟨decide_eq_true h.1, decide_eq_true h.2⟩⟩
      · simp [plain, hn, hl]
    · simp [plain, hn]
  · simp [h6]
theorem right_7 (h : plain 7 t n ns = true) : right (.mk 7 t n ns ks) false = (decide (3 ≤ ks.length) && headOk ks && msgs (ks.drop 1)) := by
  obtain ⟨h1, h2, h3⟩ := plain_q (.inl rfl) h
  rw [right_eq]
  have : tailOk ks = msgs (ks.drop 1) := by cases ks <;> rfl
  simp [node, h1, h2, h3, this]
  generalize msgs ks.tail = m
  cases decide (3 ≤ ks.length) <;> cases headOk ks <;> cases m <;> rfl
theorem right_8 (h : plain 8 t n ns = true) : right (.mk 8 t n ns ks) false = (decide (0 ≤ n) && decide (n ≤ (ns.length : Int)) && ns.all Tok.isName && rights true ks) := by
  have h1 := plain_8 h
  rw [right_eq]
  by_cases h0 : 0 ≤ n <;> by_cases h9 : n ≤ (ns.length : Int) <;> simp [node, h1, h0, h9]
theorem right_9 (h : plain 9 t n ns = true) : right (.mk 9 t n ns ks) true = (decide (ks.length = 1) && rights false ks) := by
  obtain ⟨h1, h2, h3⟩ := plain_q (.inr rfl) h
  rw [right_eq]
  simp [node, h1, h2, h3]
theorem right_o {k : Int} (h1 : ¬ k = 1) (h2 : ¬ k = 2) (h3 : ¬ k = 3) (h4 : ¬ k = 4) (h5 : ¬ k = 5) (h6 : ¬ k = 6) (h7 : ¬ k = 7) (h8 : ¬ k = 8) : right (.mk k t n ns ks) false = false := by
  rw [right_eq]
  by_cases h9 : k = 9
  · simp [h9]
  · simp [node, h1, h2, h3, h4, h5, h6, h7, h8, h9]
theorem rights_last (ks : List E) (e : E) : rights true (ks ++ [e]) = (rights false ks && right e true) := by
  induction ks with
  | nil => simp [rights]
  | cons x xs ih =>
    rw [List.cons_append, rights, rights, ih, value_is x]
    have : (xs ++ [e]).isEmpty = false := by cases xs <;> rfl
    rw [this]
    by_cases h9 : x.kind = 9 <;> cases right x true <;> cases rights false xs <;> cases right e true <;> simp [h9]
end
end Go.Proofs.YtdohpppkdecbdaaGreatDoor.Rights
