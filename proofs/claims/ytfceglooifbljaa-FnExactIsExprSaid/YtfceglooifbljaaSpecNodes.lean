/-
  spec.l3Node put together: what it answers of every node.
-/
import Derived.Test.YtfceglooifbljaaSpecMsgs
namespace Go.Proofs.Ytfceglooifbljaa.SpecRight
open Go.RowKit
open Strs Tree Texts TreeBox SpecNode

theorem msgs_any (lo : Nat) (ms : List E) (v : Value) (w : World) (ih : ∀ m, m ∈ ms → ∀ g, g ∈ m.kids → Ok g) (hw : weights ms ≤ 1048576) (h : KidsAt lo w ms v) :
    Calls Try.prog 31 #[v] w fun r w' => r = .returned (.bool (msgs ms)) ∧ Below w.heap.size w w' := by
  obtain ⟨a, cap, rfl, hm, hc⟩ := h
  by_cases hp : 0 < ms.length
  · obtain ⟨b, off, rfl, _, hr⟩ := hc hp
    exact msgs_cons lo b off cap _ ms w ih hw rfl (Nat.le_trans hm.1 hm.2) hr
  · have : ms = [] := List.eq_nil_of_length_eq_zero (by omega)
    subst this
    exact msgs_nil a cap w

theorem lens_mem {xs : List ByteArray} {x : ByteArray} (h : x ∈ xs) : x.size ≤ lens xs := by
  obtain ⟨j, hj, rfl⟩ := List.getElem_of_mem h
  exact len_kid xs j hj

/-- spec.l3Node, at every node whose kids' kids are known. -/
theorem node_any (lo : Nat) (k : Int) (t : ByteArray) (n : Int) (ns : List ByteArray) (ks : List E) (w : World) (vn vk : Value) (ih : ∀ m, m ∈ ks → ∀ g, g ∈ m.kids → Ok g)
    (hw : weight (.mk k t n ns ks) ≤ 1048576) (hnode : NodeAt lo w (.mk k t n ns ks) vn vk) :
    Calls Try.prog 21 #[.agg #[.int .i64 k, .string t, .int .i64 n, vn, vk]] w fun r w' => r = .returned (.bool (node k t n ns ks.length (tailOk ks))) ∧ Below w.heap.size w w' := by
  rw [weight] at hw
  obtain ⟨-, -, -, hns, hks⟩ := node_iff.1 hnode
  simp only [E.names, E.kids] at hns hks
  obtain ⟨a1, cap1, rfl, hm1, hc1⟩ := id hks
  have ht : t.size ≤ 1048576 := by omega
  by_cases h8 : k = 8
  · subst h8
    have e : node 8 t n ns ks.length (tailOk ks) = (ns.all Tok.isName && (decide (t.size = 0) && decide (0 ≤ n ∧ n ≤ (ns.length : Int)))) := by simp [node]
    rw [e]
    exact kind8 lo t n ns vn a1 _ cap1 w hns (fun x hx => by have := lens_mem hx; omega)
  obtain ⟨a3, cap3, rfl, hm3, -⟩ := hns
  by_cases hM : 0 < ns.length
  · have e : node k t n ns ks.length (tailOk ks) = false := if_pos (.inl ⟨h8, hM⟩)
    rw [e]
    exact bad1 k n t _ a3 a1 cap3 _ cap1 w h8 hM
  have hM0 : ns.length = 0 := by omega
  rw [hM0]
  by_cases h1 : k = 1
  · subst h1
    have e : node 1 t n ns ks.length (tailOk ks) = (decide (t.size = 0) && (decide (0 ≤ n ∧ n ≤ 999999999) && decide (ks.length = 0))) := by simp [node, hM0]
    rw [e]
    exact kind1 t n a3 a1 cap3 _ cap1 w
  by_cases hn : n = 0
  case neg =>
    have e : node k t n ns ks.length (tailOk ks) = false := if_pos (.inr ⟨h1, h8, hn⟩)
    rw [e]
    exact bad2 k n t a3 a1 cap3 _ cap1 w (ne_of h8) (ne_of h1) (ne_of hn)
  subst hn
  have e0 : ∀ len ms, node k t 0 ns len ms = (if k = 2 then isText t && decide (len = 0) else if k = 3 then Tok.sel t && decide (len = 0) else if k = 4 then Tok.isName t && decide (len = 0) else if k = 5 then Tok.isName t && decide (len = 1)
      else if k = 6 then decide ((len : Int) = Tok.countArgs t + 1) && decide (0 < len) else if k = 7 then decide (t.size = 0) && (decide (3 ≤ len) && ms) else if k = 9 then decide (t.size = 0) && decide (len = 1) else false) := by
    intro len ms
    unfold node
    rw [if_neg (by omega), if_neg h1, if_neg h8]
  rw [e0]
  by_cases h2 : k = 2
  · subst h2; exact kind2 t a3 a1 cap3 _ cap1 w ht
  rw [if_neg h2]
  by_cases h3 : k = 3
  · subst h3; exact kind3 t a3 a1 cap3 _ cap1 w ht
  rw [if_neg h3]
  by_cases h4 : k = 4
  · subst h4; exact kind4 t a3 a1 cap3 _ cap1 w ht
  rw [if_neg h4]
  by_cases h5 : k = 5
  · subst h5; exact kind5 t a3 a1 cap3 _ cap1 w ht
  rw [if_neg h5]
  by_cases h6 : k = 6
  · subst h6; exact kind6 t a3 a1 cap3 _ cap1 w ht
  rw [if_neg h6]
  by_cases h7 : k = 7
  · subst h7
    rw [if_pos rfl]
    refine kind7 t (tailOk ks) a3 a1 cap3 _ cap1 w hm1 (fun h => ?_) (fun h bl off w' ha hb => ?_)
    · obtain ⟨b, off, e, _⟩ := hc1 (by omega); exact ⟨b, off, e⟩
    · obtain ⟨b, off', e, hlo, hr⟩ := hc1 (by omega)
      rw [ha] at e
      obtain ⟨rfl, rfl⟩ : bl = b ∧ off = off' := by injection e with e; injection e with e1 e2 e3; exact ⟨e1, e2⟩
      cases ks with
      | nil => simp at h
      | cons x xs =>
        rw [weights] at hw
        rw [Row] at hr
        have hrow := hr.2
        have hk : KidsAt lo w xs (.slice (some ⟨bl, off + 5, none⟩) ((x :: xs).length - 1) (cap1 - 1)) :=
          ⟨some ⟨bl, off + 5, none⟩, cap1 - 1, by rw [List.length_cons, Nat.add_sub_cancel], ⟨by have := hm1.1; rw [List.length_cons] at this; omega, by have := hm1.2; omega⟩, fun _ => ⟨bl, off + 5, rfl, hlo, hrow⟩⟩
        exact msgs_any lo xs _ w' (fun m hmem => ih m (by simp [hmem])) (by omega) (hk.below hb)
  rw [if_neg h7]
  by_cases h9 : k = 9
  · subst h9; exact kind9 t a3 a1 cap3 _ cap1 w
  rw [if_neg h9]
  exact other k t a3 a1 cap3 _ cap1 w h1 h2 h3 h4 h5 h6 h7 h8 h9
end Go.Proofs.Ytfceglooifbljaa.SpecRight
