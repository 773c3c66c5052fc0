/-
  When a tree is right, kind by kind, as impl's isValue and isStatement ask it. Plain mathematics.
-/
import Derived.Test.YtdfkfpllapbaeaaGreatDoorBImplPlain
import Derived.Test.YtdfkfpllapbaeaaGreatDoorBTreeOk
namespace Go.Proofs.YtdfkfpllapbaeaaGreatDoor.Rights
open Tree ImplPlain
theorem right_eq (k : Int) (t : ByteArray) (n : Int) (ns : List ByteArray) (ks : List E) (st : Bool) :
    right (.mk k t n ns ks) st = (node k t n ns ks.length (tailOk ks) && (decide (k ≠ 9) || st) && (if k = 7 then headOk ks else rights (decide (k = 8)) ks)) := by rw [right]
theorem value_is (e : E) : right e false = (right e true && decide (e.kind ≠ 9)) := by
  obtain ⟨k, t, n, ns, ks⟩ := e
  rw [right_eq, right_eq]
  simp only [E.kind]
  by_cases h : k = 9
  · simp [h]
  · simp [h]
theorem stmt_not9 {e : E} (h : ¬ e.kind = 9) : right e true = right e false := by
  rw [value_is]; simp [h]
theorem no_kids {ks : List E} (h : ks.length = 0) : ks = [] := List.eq_nil_of_length_eq_zero h
theorem not_plain {k : Int} {t : ByteArray} {n : Int} {ns : List ByteArray} {ks : List E} {st : Bool} (h : plain k t n ns = false) : right (.mk k t n ns ks) st = false := by
  rw [right_eq]
  have : node k t n ns ks.length (tailOk ks) = false := by
    unfold plain at h
    unfold node
    split
    · rfl
    · rename_i hc
      have hc1 : ¬ (k ≠ 8 ∧ 0 < ns.length) := fun x => hc (.inl x)
      have hc2 : ¬ (k ≠ 1 ∧ k ≠ 8 ∧ n ≠ 0) := fun x => hc (.inr x)
      by_cases h1 : k = 1
      · subst h1
        have hl : ns.length = 0 := by have := hc1; simp at this; simp [this]
        simp [hl] at h
        simp [h]
      by_cases h8 : k = 8
      · subst h8
        simp at h
        simp [h]
      have hn : n = 0 := by
        by_cases e : n = 0
        · exact e
        · exact absurd ⟨h1, h8, e⟩ hc2
      have hl : ns.length = 0 := by
        by_cases e : ns.length = 0
        · exact e
        · exact absurd ⟨h8, by omega⟩ hc1
      simp only [hn, hl] at h
      by_cases h7 : k = 7
      · subst h7; simp at h; simp [h]
      by_cases h9 : k = 9
      · subst h9; simp at h; simp [h]
      by_cases h2 : k = 2
      · simp [h2] at h
      by_cases h3 : k = 3
      · simp [h3] at h
      by_cases h4 : k = 4
      · simp [h4] at h
      by_cases h5 : k = 5
      · simp [h5] at h
      by_cases h6 : k = 6
      · simp [h6] at h
      simp [h1, h2, h3, h4, h5, h6, h7, h8, h9]
  rw [this]; rfl
section
variable {t : ByteArray} {n : Int} {ns : List ByteArray} {ks : List E}
theorem plain_1 (h : plain 1 t n ns = true) : t.size = 0 ∧ ns.length = 0 := by simpa [plain] using h
theorem plain_p {k : Int} (hk : k = 2 ∨ k = 3 ∨ k = 4 ∨ k = 5 ∨ k = 6) (h : plain k t n ns = true) : n = 0 ∧ ns.length = 0 := by
  have h1 : ¬ k = 1 := by omega
  simpa [plain, h1, hk] using h
theorem plain_q {k : Int} (hk : k = 7 ∨ k = 9) (h : plain k t n ns = true) : t.size = 0 ∧ n = 0 ∧ ns.length = 0 := by
  have h1 : ¬ k = 1 := by omega
  have h2 : ¬ (k = 2 ∨ k = 3 ∨ k = 4 ∨ k = 5 ∨ k = 6) := by omega
  have := h
  simp only [plain, if_neg h1, if_neg h2, if_pos hk, Bool.and_eq_true, decide_eq_true_eq] at this
  exact ⟨this.1.1, this.1.2, this.2⟩
theorem plain_8 (h : plain 8 t n ns = true) : t.size = 0 := by simpa [plain] using h
theorem rights_none {b : Bool} (h : ks.length = 0) : rights b ks = true := by rw [no_kids h]; rfl
theorem right_1 (h : plain 1 t n ns = true) : right (.mk 1 t n ns ks) false = (decide (0 ≤ n) && decide (n ≤ 999999999) && decide (ks.length = 0)) := by
  obtain ⟨h1, h2⟩ := plain_1 h
  rw [right_eq]
  by_cases hk : ks.length = 0
  · by_cases h0 : 0 ≤ n <;> by_cases h9 : n ≤ 999999999 <;> simp [node, h1, h2, hk, h0, h9, rights_none hk]
  · simp [node, h1, h2, hk]
theorem right_2 (h : plain 2 t n ns = true) : right (.mk 2 t n ns ks) false = (isText t && decide (ks.length = 0)) := by
  obtain ⟨h1, h2⟩ := plain_p (.inl rfl) h
  rw [right_eq]
  by_cases hk : ks.length = 0
  · simp [node, h1, h2, hk, rights_none hk]
  · simp [node, h1, h2, hk]
theorem right_3 (h : plain 3 t n ns = true) : right (.mk 3 t n ns ks) false = (Tok.sel t && decide (ks.length = 0)) := by
  obtain ⟨h1, h2⟩ := plain_p (.inr (.inl rfl)) h
  rw [right_eq]
  by_cases hk : ks.length = 0
  · simp [node, h1, h2, hk, rights_none hk]
  · simp [node, h1, h2, hk]
theorem right_4 (h : plain 4 t n ns = true) : right (.mk 4 t n ns ks) false = (Tok.isName t && decide (ks.length = 0)) := by
  obtain ⟨h1, h2⟩ := plain_p (.inr (.inr (.inl rfl))) h
  rw [right_eq]
  by_cases hk : ks.length = 0
  · simp [node, h1, h2, hk, rights_none hk]
  · simp [node, h1, h2, hk]
theorem right_5 (h : plain 5 t n ns = true) : right (.mk 5 t n ns ks) false = (Tok.isName t && decide (ks.length = 1) && rights false ks) := by
  obtain ⟨h1, h2⟩ := plain_p (by omega) h
  rw [right_eq]
  simp [node, h1, h2]
def sendB (k : Int) (t : ByteArray) (n : Int) (ns : List ByteArray) (ks : List E) (r : Int) : Bool :=
  decide (k = 6) && plain k t n ns && Tok.sel t && decide ((ks.length : Int) = r + Tok.countArgs t) && rights false ks
theorem right_6 (hs : ∀ s, Tok.sel s = decide (0 ≤ Tok.countArgs s)) (h : plain 6 t n ns = true) : right (.mk 6 t n ns ks) false = sendB 6 t n ns ks 1 := by
  obtain ⟨h1, h2⟩ := plain_p (by omega) h
  rw [right_eq]
  unfold sendB
  rw [h, hs]
  by_cases hk : (ks.length : Int) = Tok.countArgs t + 1
  · have e1 : (ks.length : Int) = 1 + Tok.countArgs t := by omega
    by_cases hc : 0 ≤ Tok.countArgs t
    · have : 0 < ks.length := by omega
      simp [node, h1, h2, hk, hc, this]
      intro hh; omega
    · have : ¬ 0 < ks.length := by omega
      simp [node, h1, h2, hk, hc, this]
  · have e1 : ¬ (ks.length : Int) = 1 + Tok.countArgs t := by omega
    simp [node, h1, h2, hk, e1]
theorem msg_is (hs : ∀ s, Tok.sel s = decide (0 ≤ Tok.countArgs s)) (k : Int) : msg (.mk k t n ns ks) = sendB k t n ns ks 0 := by
  unfold msg sendB
  simp only [E.kind, E.num, E.names, E.text, E.kids, hs, Int.zero_add]
  by_cases h6 : k = 6
  · subst h6
    rw [Bool.eq_iff_iff]
    by_cases hn : n = 0
    · by_cases hl : ns.length = 0
      · simp [plain, hn, hl]
        intro _
        exact ⟨fun h => ⟨of_decide_eq_true h.1, of_decide_eq_true h.2⟩, fun h => ⟨decide_eq_true h.1, decide_eq_true h.2⟩⟩
      · simp [plain, hn, hl]
    · simp [plain, hn]
  · simp [h6]
theorem right_7 (h : plain 7 t n ns = true) : right (.mk 7 t n ns ks) false = (decide (3 ≤ ks.length) && headOk ks && msgs (ks.drop 1)) := by
  obtain ⟨h1, h2, h3⟩ := plain_q (.inl rfl) h
  rw [right_eq]
  have : tailOk ks = msgs (ks.drop 1) := by cases ks <;> rfl
  simp [node, h1, h2, h3, this]
  generalize msgs ks.tail = m
  cases decide (3 ≤ ks.length) <;> cases headOk ks <;> cases m <;> rfl
theorem right_8 (h : plain 8 t n ns = true) : right (.mk 8 t n ns ks) false = (decide (0 ≤ n) && decide (n ≤ (ns.length : Int)) && ns.all Tok.isName && rights true ks) := by
  have h1 := plain_8 h
  rw [right_eq]
  by_cases h0 : 0 ≤ n <;> by_cases h9 : n ≤ (ns.length : Int) <;> simp [node, h1, h0, h9]
theorem right_9 (h : plain 9 t n ns = true) : right (.mk 9 t n ns ks) true = (decide (ks.length = 1) && rights false ks) := by
  obtain ⟨h1, h2, h3⟩ := plain_q (.inr rfl) h
  rw [right_eq]
  simp [node, h1, h2, h3]
theorem right_o {k : Int} (h1 : ¬ k = 1) (h2 : ¬ k = 2) (h3 : ¬ k = 3) (h4 : ¬ k = 4) (h5 : ¬ k = 5) (h6 : ¬ k = 6) (h7 : ¬ k = 7) (h8 : ¬ k = 8) : right (.mk k t n ns ks) false = false := by
  rw [right_eq]
  by_cases h9 : k = 9
  · simp [h9]
  · simp [node, h1, h2, h3, h4, h5, h6, h7, h8, h9]
theorem rights_last (ks : List E) (e : E) : rights true (ks ++ [e]) = (rights false ks && right e true) := by
  induction ks with
  | nil => simp [rights]
  | cons x xs ih =>
    rw [List.cons_append, rights, rights, ih, value_is x]
    have : (xs ++ [e]).isEmpty = false := by cases xs <;> rfl
    rw [this]
    by_cases h9 : x.kind = 9 <;> cases right x true <;> cases rights false xs <;> cases right e true <;> simp [h9]
end
end Go.Proofs.YtdfkfpllapbaeaaGreatDoor.Rights
