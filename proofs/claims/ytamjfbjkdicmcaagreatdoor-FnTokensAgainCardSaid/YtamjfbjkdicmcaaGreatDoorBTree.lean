/-
  Trees of nodes (a kind, a text, a number, names, kids): what they are, how many nodes and levels they have, what they weigh; when a value reads as one, and that it goes on doing so where nothing of it is written.
-/
import Derived.Test.YtamjfbjkdicmcaaGreatDoorBAt
namespace Go.Proofs.YtamjfbjkdicmcaaGreatDoor.Tree
open Go.RowKit
open Strs
inductive E where
  | mk (kind : Int) (text : ByteArray) (num : Int) (names : List ByteArray) (kids : List E)
namespace E
def kind : E → Int | mk k _ _ _ _ => k
def text : E → ByteArray | mk _ t _ _ _ => t
def num : E → Int | mk _ _ n _ _ => n
def names : E → List ByteArray | mk _ _ _ ns _ => ns
def kids : E → List E | mk _ _ _ _ ks => ks
end E
instance : Inhabited E := ⟨.mk 0 ByteArray.empty 0 [] []⟩
theorem ind {P : E → Prop} (h : ∀ k t n ns ks, (∀ e, e ∈ ks → P e) → P (.mk k t n ns ks)) : ∀ e, P e := by
  intro e
  refine E.rec (motive_1 := P) (motive_2 := fun l => ∀ e, e ∈ l → P e) ?_ ?_ ?_ e
  · intro k t n ns ks ih; exact h k t n ns ks ih
  · intro e he; cases he
  · intro a l ha hl e he
    cases he with
    | head => exact ha
    | tail _ h => exact hl e h
mutual
def size : E → Nat
  | .mk _ _ _ _ ks => sizes ks + 1
def sizes : List E → Nat
  | [] => 0
  | e :: es => size e + sizes es
end
mutual
def depth : E → Nat
  | .mk _ _ _ _ ks => depths ks + 1
def depths : List E → Nat
  | [] => 0
  | e :: es => max (depth e) (depths es)
end
def lens : List ByteArray → Nat
  | [] => 0
  | x :: xs => x.size + lens xs
mutual
def weight : E → Nat
  | .mk _ t _ ns ks => t.size + (ns.length + lens ns) + (ks.length + weights ks)
def weights : List E → Nat
  | [] => 0
  | e :: es => weight e + weights es
end
theorem sizes_append (a b : List E) : sizes (a ++ b) = sizes a + sizes b := by
  induction a with
  | nil => simp [sizes]
  | cons e es ih => simp [sizes, ih]; omega
theorem depths_append (a b : List E) : depths (a ++ b) = max (depths a) (depths b) := by
  induction a with
  | nil => simp [depths]
  | cons e es ih => simp only [depths, List.cons_append, ih]; omega
theorem weights_append (a b : List E) : weights (a ++ b) = weights a + weights b := by
  induction a with
  | nil => simp [weights]
  | cons e es ih => simp [weights, ih]; omega
theorem lens_append (a b : List ByteArray) : lens (a ++ b) = lens a + lens b := by
  induction a with
  | nil => simp [lens]
  | cons e es ih => simp [lens, ih]; omega
theorem sizes_take (ks : List E) (i : Nat) (h : i < ks.length) : sizes (ks.take (i + 1)) = sizes (ks.take i) + size ks[i] := by
  rw [List.take_succ_eq_append_getElem h, sizes_append]; simp [sizes]
theorem depths_take (ks : List E) (i : Nat) (h : i < ks.length) : depths (ks.take (i + 1)) = max (depths (ks.take i)) (depth ks[i]) := by
  rw [List.take_succ_eq_append_getElem h, depths_append]; simp [depths]
theorem weights_take (ks : List E) (i : Nat) (h : i < ks.length) : weights (ks.take (i + 1)) = weights (ks.take i) + weight ks[i] := by
  rw [List.take_succ_eq_append_getElem h, weights_append]; simp [weights]
theorem lens_take (ks : List ByteArray) (i : Nat) (h : i < ks.length) : lens (ks.take (i + 1)) = lens (ks.take i) + ks[i].size := by
  rw [List.take_succ_eq_append_getElem h, lens_append]; simp [lens]
theorem sizes_le (ks : List E) (i : Nat) : sizes (ks.take i) ≤ sizes ks := by
  conv => rhs; rw [← List.take_append_drop i ks, sizes_append]
  omega
theorem depths_le (ks : List E) (i : Nat) : depths (ks.take i) ≤ depths ks := by
  conv => rhs; rw [← List.take_append_drop i ks, depths_append]
  omega
theorem weights_le (ks : List E) (i : Nat) : weights (ks.take i) ≤ weights ks := by
  conv => rhs; rw [← List.take_append_drop i ks, weights_append]
  omega
theorem lens_le (ks : List ByteArray) (i : Nat) : lens (ks.take i) ≤ lens ks := by
  conv => rhs; rw [← List.take_append_drop i ks, lens_append]
  omega
theorem size_kid (ks : List E) (i : Nat) (h : i < ks.length) : size ks[i] ≤ sizes ks := by
  have := sizes_take ks i h; have := sizes_le ks (i + 1); omega
theorem depth_kid (ks : List E) (i : Nat) (h : i < ks.length) : depth ks[i] ≤ depths ks := by
  have := depths_take ks i h; have := depths_le ks (i + 1); omega
theorem weight_kid (ks : List E) (i : Nat) (h : i < ks.length) : weight ks[i] ≤ weights ks := by
  have := weights_take ks i h; have := weights_le ks (i + 1); omega
theorem len_kid (ks : List ByteArray) (i : Nat) (h : i < ks.length) : ks[i].size ≤ lens ks := by
  have := lens_take ks i h; have := lens_le ks (i + 1); omega
theorem size_weight : ∀ e, size e ≤ weight e + 1 := by
  refine ind fun k t n ns ks ih => ?_
  rw [size, weight]
  have : ∀ l : List E, (∀ e, e ∈ l → size e ≤ weight e + 1) → sizes l ≤ l.length + weights l := by
    intro l
    induction l with
    | nil => intro _; simp [sizes]
    | cons e es ihl =>
      intro h
      have h1 := h e (by simp)
      have h2 := ihl fun e he => h e (by simp [he])
      rw [sizes, weights, List.length_cons]; omega
  have := this ks ih
  omega
theorem depth_size : ∀ e, depth e ≤ size e := by
  refine ind fun k t n ns ks ih => ?_
  rw [size, depth]
  have : ∀ l : List E, (∀ e, e ∈ l → depth e ≤ size e) → depths l ≤ sizes l := by
    intro l
    induction l with
    | nil => intro _; simp [depths]
    | cons e es ihl =>
      intro h
      have h1 := h e (by simp)
      have h2 := ihl fun e he => h e (by simp [he])
      rw [sizes, depths]; omega
  have := this ks ih
  omega
noncomputable def eqE (a b : E) : Bool := @decide (a = b) (Classical.propDecidable _)
theorem eqE_yes {a b : E} (h : a = b) : eqE a b = true := @decide_eq_true _ (Classical.propDecidable _) h
theorem eqE_no {a b : E} (h : ¬ a = b) : eqE a b = false := @decide_eq_false _ (Classical.propDecidable _) h
def Texts (lo : Nat) (w : World) (xs : List ByteArray) (v : Value) : Prop :=
  ∃ a cap, v = .slice a xs.length cap ∧ (xs.length ≤ cap ∧ cap ≤ maxLen) ∧ (∀ x, x ∈ xs → x.size ≤ maxLen) ∧ (0 < xs.length → ∃ b off, a = some ⟨b, off, none⟩ ∧ lo ≤ b ∧ ∀ j (h : j < xs.length), w.cell? ⟨b, off + j, none⟩ = some (.string xs[j]))
mutual
def NodeAt (lo : Nat) (w : World) : E → Value → Value → Prop
  | .mk k t n ns ks, vn, vk => (Lit.int .i64 k).wf = true ∧ (Lit.int .i64 n).wf = true ∧ t.size ≤ maxLen ∧ Texts lo w ns vn ∧
      ∃ a cap, vk = .slice a ks.length cap ∧ (ks.length ≤ cap ∧ cap ≤ maxLen) ∧ (0 < ks.length → ∃ b off, a = some ⟨b, off, none⟩ ∧ lo ≤ b ∧ Row lo w b ks off)
def Row (lo : Nat) (w : World) (b : Nat) : List E → Nat → Prop
  | [], _ => True
  | e :: es, o => (∃ vn vk, w.cell? ⟨b, o, none⟩ = some (.int .i64 e.kind) ∧ w.cell? ⟨b, o + 1, none⟩ = some (.string e.text) ∧ w.cell? ⟨b, o + 2, none⟩ = some (.int .i64 e.num) ∧ w.cell? ⟨b, o + 3, none⟩ = some vn ∧ w.cell? ⟨b, o + 4, none⟩ = some vk ∧ NodeAt lo w e vn vk) ∧ Row lo w b es (o + 5)
end
def KidsAt (lo : Nat) (w : World) (ks : List E) (v : Value) : Prop :=
  ∃ a cap, v = .slice a ks.length cap ∧ (ks.length ≤ cap ∧ cap ≤ maxLen) ∧ (0 < ks.length → ∃ b off, a = some ⟨b, off, none⟩ ∧ lo ≤ b ∧ Row lo w b ks off)
def Spot (lo : Nat) (w : World) (b o : Nat) (e : E) : Prop :=
  ∃ vn vk, w.cell? ⟨b, o, none⟩ = some (.int .i64 e.kind) ∧ w.cell? ⟨b, o + 1, none⟩ = some (.string e.text) ∧ w.cell? ⟨b, o + 2, none⟩ = some (.int .i64 e.num) ∧ w.cell? ⟨b, o + 3, none⟩ = some vn ∧ w.cell? ⟨b, o + 4, none⟩ = some vk ∧ NodeAt lo w e vn vk
def Reads (lo : Nat) (w : World) (e : E) (v : Value) : Prop := ∃ vn vk, v = .agg #[.int .i64 e.kind, .string e.text, .int .i64 e.num, vn, vk] ∧ NodeAt lo w e vn vk
theorem node_iff {lo : Nat} {w : World} {e : E} {vn vk : Value} : NodeAt lo w e vn vk ↔ (Lit.int .i64 e.kind).wf = true ∧ (Lit.int .i64 e.num).wf = true ∧ e.text.size ≤ maxLen ∧ Texts lo w e.names vn ∧ KidsAt lo w e.kids vk := by
  cases e with
  | mk k t n ns ks => rw [NodeAt]; exact Iff.rfl
theorem row_iff {lo : Nat} {w : World} {b : Nat} (ks : List E) (o : Nat) : Row lo w b ks o ↔ ∀ i (h : i < ks.length), Spot lo w b (o + i * 5) ks[i] := by
  induction ks generalizing o with
  | nil => simp [Row]
  | cons e es ih =>
    rw [Row, ih]
    constructor
    · rintro ⟨h0, h1⟩ i hi
      cases i with
      | zero => rw [show o + 0 * 5 = o by omega]; exact h0
      | succ i =>
        have := h1 i (by simpa using hi)
        rw [show o + (i + 1) * 5 = o + 5 + i * 5 by omega]
        simpa using this
    · intro h
      refine ⟨?_, fun i hi => ?_⟩
      · have h0 : Spot lo w b (o + 0 * 5) e := h 0 (by simp)
        rw [show o + 0 * 5 = o by omega] at h0
        exact h0
      have := h (i + 1) (by simpa using hi)
      rw [show o + (i + 1) * 5 = o + 5 + i * 5 by omega] at this
      simpa using this
def Kept (lo : Nat) (w w' : World) : Prop := ∀ b o v, lo ≤ b → w.cell? ⟨b, o, none⟩ = some v → w'.cell? ⟨b, o, none⟩ = some v
theorem kept_below {lo : Nat} {w w' : World} (h : Below w.heap.size w w') : Kept lo w w' := fun _ _ _ _ hc => cell_keep h hc
theorem Kept.trans {lo : Nat} {w w' w'' : World} (h : Kept lo w w') (h' : Kept lo w' w'') : Kept lo w w'' := fun b o v hb hc => h' b o v hb (h b o v hb hc)
theorem Kept.mono {lo hi : Nat} {w w' : World} (h : Kept lo w w') (hl : lo ≤ hi) : Kept hi w w' := fun b o v hb hc => h b o v (Nat.le_trans hl hb) hc
theorem kept_set {lo : Nat} (w : World) (a : Addr) (v : Value) (h : a.block < lo) : Kept lo w (w.setCell a v) := by
  intro b o u hb hc
  exact (World.cell?_setCell_other _ _ _ _ (by intro e; subst e; exact absurd hb (by show ¬ lo ≤ b; exact Nat.not_le.2 h))).trans hc
theorem Texts.keep {lo hi : Nat} {w w' : World} {xs : List ByteArray} {v : Value} (h : Texts hi w xs v) (hl : lo ≤ hi) (hk : Kept hi w w') : Texts lo w' xs v := by
  obtain ⟨a, cap, rfl, hm, hs, hc⟩ := h
  refine ⟨a, cap, rfl, hm, hs, fun hp => ?_⟩
  obtain ⟨b, off, rfl, hb, hd⟩ := hc hp
  exact ⟨b, off, rfl, Nat.le_trans hl hb, fun j hj => hk _ _ _ hb (hd j hj)⟩
theorem NodeAt.keep {lo hi : Nat} {w w' : World} (hl : lo ≤ hi) (hk : Kept hi w w') : ∀ e vn vk, NodeAt hi w e vn vk → NodeAt lo w' e vn vk := by
  refine ind fun k t n ns ks ih => ?_
  intro vn vk h
  rw [node_iff] at h ⊢
  obtain ⟨h1, h2, h3, h4, a, cap, rfl, hm, hc⟩ := h
  refine ⟨h1, h2, h3, h4.keep hl hk, a, cap, rfl, hm, fun hp => ?_⟩
  obtain ⟨b, off, rfl, hb, hr⟩ := hc hp
  refine ⟨b, off, rfl, Nat.le_trans hl hb, ?_⟩
  rw [row_iff] at hr ⊢
  intro i hi
  obtain ⟨wn, wk, c0, c1, c2, c3, c4, hn⟩ := hr i hi
  exact ⟨wn, wk, hk _ _ _ hb c0, hk _ _ _ hb c1, hk _ _ _ hb c2, hk _ _ _ hb c3, hk _ _ _ hb c4, ih _ (List.getElem_mem _) _ _ hn⟩
theorem KidsAt.keep {lo hi : Nat} {w w' : World} {ks : List E} {v : Value} (h : KidsAt hi w ks v) (hl : lo ≤ hi) (hk : Kept hi w w') : KidsAt lo w' ks v := by
  obtain ⟨a, cap, rfl, hm, hc⟩ := h
  refine ⟨a, cap, rfl, hm, fun hp => ?_⟩
  obtain ⟨b, off, rfl, hb, hr⟩ := hc hp
  refine ⟨b, off, rfl, Nat.le_trans hl hb, ?_⟩
  rw [row_iff] at hr ⊢
  intro i hi
  obtain ⟨wn, wk, c0, c1, c2, c3, c4, hn⟩ := hr i hi
  exact ⟨wn, wk, hk _ _ _ hb c0, hk _ _ _ hb c1, hk _ _ _ hb c2, hk _ _ _ hb c3, hk _ _ _ hb c4, NodeAt.keep hl hk _ _ _ hn⟩
theorem Reads.keep {lo hi : Nat} {w w' : World} {e : E} {v : Value} (h : Reads hi w e v) (hl : lo ≤ hi) (hk : Kept hi w w') : Reads lo w' e v := by
  obtain ⟨vn, vk, rfl, hn⟩ := h
  exact ⟨vn, vk, rfl, NodeAt.keep hl hk _ _ _ hn⟩
theorem Reads.below {lo : Nat} {w w' : World} {e : E} {v : Value} (h : Reads lo w e v) (hb : Below w.heap.size w w') : Reads lo w' e v := h.keep (Nat.le_refl _) (kept_below hb)
theorem NodeAt.below {lo : Nat} {w w' : World} {e : E} {vn vk : Value} (h : NodeAt lo w e vn vk) (hb : Below w.heap.size w w') : NodeAt lo w' e vn vk := NodeAt.keep (Nat.le_refl _) (kept_below hb) _ _ _ h
theorem KidsAt.below {lo : Nat} {w w' : World} {ks : List E} {v : Value} (h : KidsAt lo w ks v) (hb : Below w.heap.size w w') : KidsAt lo w' ks v := h.keep (Nat.le_refl _) (kept_below hb)
theorem Texts.below {lo : Nat} {w w' : World} {xs : List ByteArray} {v : Value} (h : Texts lo w xs v) (hb : Below w.heap.size w w') : Texts lo w' xs v := h.keep (Nat.le_refl _) (kept_below hb)
end Go.Proofs.YtamjfbjkdicmcaaGreatDoor.Tree
