/-
  Nodes of the core (a kind, a text, a number, a depth, kids): what they are, how many there are and how deep; when a value reads as one, and that it goes on doing so where nothing of it is written.
-/
import Derived.Test.YtkmclgofghaeoaaBTreeOk
namespace Go.Proofs.Ytkmclgofghaeoaa.Core
open Go.RowKit
open Strs Tree
inductive K where
  | mk (kind : Int) (text : ByteArray) (num dep : Int) (kids : List K)
namespace K
def kind : K → Int | mk k _ _ _ _ => k
def text : K → ByteArray | mk _ t _ _ _ => t
def num : K → Int | mk _ _ n _ _ => n
def dep : K → Int | mk _ _ _ d _ => d
def kids : K → List K | mk _ _ _ _ ks => ks
end K
instance : Inhabited K := ⟨.mk 0 ByteArray.empty 0 0 []⟩
theorem indK {P : K → Prop} (h : ∀ k t n d ks, (∀ e, e ∈ ks → P e) → P (.mk k t n d ks)) : ∀ e, P e := by
  intro e
  refine K.rec (motive_1 := P) (motive_2 := fun l => ∀ e, e ∈ l → P e) ?_ ?_ ?_ e
  · intro k t n d ks ih; exact h k t n d ks ih
  · intro e he; cases he
  · intro a l ha hl e he
    cases he with
    | head => exact ha
    | tail _ h => exact hl e h
mutual
def ksize : K → Nat
  | .mk _ _ _ _ ks => ksizes ks + 1
def ksizes : List K → Nat
  | [] => 0
  | e :: es => ksize e + ksizes es
end
mutual
def kdeep : K → Nat
  | .mk k _ _ d ks => if k = 16 ∧ 30 < d then 1000 else kdeeps ks + 1
def kdeeps : List K → Nat
  | [] => 0
  | e :: es => max (kdeep e) (kdeeps es)
end
mutual
def kweight : K → Nat
  | .mk _ t _ _ ks => t.size + (ks.length + kweights ks)
def kweights : List K → Nat
  | [] => 0
  | e :: es => kweight e + kweights es
end
theorem ksizes_append (a b : List K) : ksizes (a ++ b) = ksizes a + ksizes b := by
  induction a with
  | nil => simp [ksizes]
  | cons e es ih => simp [ksizes, ih]; omega
theorem kdeeps_append (a b : List K) : kdeeps (a ++ b) = max (kdeeps a) (kdeeps b) := by
  induction a with
  | nil => simp [kdeeps]
  | cons e es ih => simp only [kdeeps, List.cons_append, ih]; omega
theorem kweights_append (a b : List K) : kweights (a ++ b) = kweights a + kweights b := by
  induction a with
  | nil => simp [kweights]
  | cons e es ih => simp [kweights, ih]; omega
theorem ksizes_take (ks : List K) (i : Nat) (h : i < ks.length) : ksizes (ks.take (i + 1)) = ksizes (ks.take i) + ksize ks[i] := by
  rw [List.take_succ_eq_append_getElem h, ksizes_append]; simp [ksizes]
theorem kdeeps_take (ks : List K) (i : Nat) (h : i < ks.length) : kdeeps (ks.take (i + 1)) = max (kdeeps (ks.take i)) (kdeep ks[i]) := by
  rw [List.take_succ_eq_append_getElem h, kdeeps_append]; simp [kdeeps]
theorem kweights_take (ks : List K) (i : Nat) (h : i < ks.length) : kweights (ks.take (i + 1)) = kweights (ks.take i) + kweight ks[i] := by
  rw [List.take_succ_eq_append_getElem h, kweights_append]; simp [kweights]
theorem ksizes_le (ks : List K) (i : Nat) : ksizes (ks.take i) ≤ ksizes ks := by
  conv => rhs; rw [← List.take_append_drop i ks, ksizes_append]
  omega
theorem kweights_le (ks : List K) (i : Nat) : kweights (ks.take i) ≤ kweights ks := by
  conv => rhs; rw [← List.take_append_drop i ks, kweights_append]
  omega
theorem ksize_kid (ks : List K) (i : Nat) (h : i < ks.length) : ksize ks[i] ≤ ksizes ks := by
  have := ksizes_take ks i h; have := ksizes_le ks (i + 1); omega
theorem kweight_kid (ks : List K) (i : Nat) (h : i < ks.length) : kweight ks[i] ≤ kweights ks := by
  have := kweights_take ks i h; have := kweights_le ks (i + 1); omega
theorem ksize_pos (e : K) : 1 ≤ ksize e := by cases e; rw [ksize]; omega
theorem kdeep_pos (e : K) : 1 ≤ kdeep e := by cases e; rw [kdeep]; split <;> omega
theorem klen_size (ks : List K) : ks.length ≤ ksizes ks := by
  induction ks with
  | nil => simp
  | cons e es ih => rw [ksizes, List.length_cons]; have := ksize_pos e; omega
theorem kdeep_le : ∀ e, kdeep e ≤ ksize e + 999 := by
  refine indK fun k t n d ks ih => ?_
  rw [ksize, kdeep]
  split
  · omega
  have : ∀ l : List K, (∀ e, e ∈ l → kdeep e ≤ ksize e + 999) → kdeeps l ≤ ksizes l + 999 := by
    intro l
    induction l with
    | nil => intro _; simp [kdeeps]
    | cons e es ihl =>
      intro h
      have h1 := h e (by simp)
      have h2 := ihl fun e he => h e (by simp [he])
      rw [ksizes, kdeeps]; omega
  have := this ks ih
  omega
mutual
def KAt (lo : Nat) (w : World) : K → Value → Prop
  | .mk k t n d ks, vk => (Lit.int .i64 k).wf = true ∧ (Lit.int .i64 n).wf = true ∧ (Lit.int .i64 d).wf = true ∧ t.size ≤ maxLen ∧
      ∃ a cap, vk = .slice a ks.length cap ∧ (ks.length ≤ cap ∧ cap ≤ maxLen) ∧ (0 < ks.length → ∃ b off, a = some ⟨b, off, none⟩ ∧ lo ≤ b ∧ KRow lo w b ks off)
def KRow (lo : Nat) (w : World) (b : Nat) : List K → Nat → Prop
  | [], _ => True
  | e :: es, o => (∃ vk, w.cell? ⟨b, o, none⟩ = some (.int .i64 e.kind) ∧ w.cell? ⟨b, o + 1, none⟩ = some (.string e.text) ∧ w.cell? ⟨b, o + 2, none⟩ = some (.int .i64 e.num) ∧ w.cell? ⟨b, o + 3, none⟩ = some (.int .i64 e.dep) ∧ w.cell? ⟨b, o + 4, none⟩ = some vk ∧ KAt lo w e vk) ∧ KRow lo w b es (o + 5)
end
def KsAt (lo : Nat) (w : World) (ks : List K) (v : Value) : Prop :=
  ∃ a cap, v = .slice a ks.length cap ∧ (ks.length ≤ cap ∧ cap ≤ maxLen) ∧ (0 < ks.length → ∃ b off, a = some ⟨b, off, none⟩ ∧ lo ≤ b ∧ KRow lo w b ks off)
def KSpot (lo : Nat) (w : World) (b o : Nat) (e : K) : Prop :=
  ∃ vk, w.cell? ⟨b, o, none⟩ = some (.int .i64 e.kind) ∧ w.cell? ⟨b, o + 1, none⟩ = some (.string e.text) ∧ w.cell? ⟨b, o + 2, none⟩ = some (.int .i64 e.num) ∧ w.cell? ⟨b, o + 3, none⟩ = some (.int .i64 e.dep) ∧ w.cell? ⟨b, o + 4, none⟩ = some vk ∧ KAt lo w e vk
def KReads (lo : Nat) (w : World) (e : K) (v : Value) : Prop := ∃ vk, v = .agg #[.int .i64 e.kind, .string e.text, .int .i64 e.num, .int .i64 e.dep, vk] ∧ KAt lo w e vk
theorem kat_iff {lo : Nat} {w : World} {e : K} {vk : Value} : KAt lo w e vk ↔ (Lit.int .i64 e.kind).wf = true ∧ (Lit.int .i64 e.num).wf = true ∧ (Lit.int .i64 e.dep).wf = true ∧ e.text.size ≤ maxLen ∧ KsAt lo w e.kids vk := by
  cases e with
  | mk k t n d ks => rw [KAt]; exact Iff.rfl
theorem krow_iff {lo : Nat} {w : World} {b : Nat} (ks : List K) (o : Nat) : KRow lo w b ks o ↔ ∀ i (h : i < ks.length), KSpot lo w b (o + i * 5) ks[i] := by
  induction ks generalizing o with
  | nil => simp [KRow]
  | cons e es ih =>
    rw [KRow, ih]
    constructor
    · rintro ⟨h0, h1⟩ i hi
      cases i with
      | zero => rw [show o + 0 * 5 = o by omega]; exact h0
      | succ i =>
        have := h1 i (by simpa using hi)
        rw [show o + (i + 1) * 5 = o + 5 + i * 5 by omega]
        simpa using this
    · intro h
      refine ⟨?_, fun i hi => ?_⟩
      · have h0 : KSpot lo w b (o + 0 * 5) e := h 0 (by simp)
        rw [show o + 0 * 5 = o by omega] at h0
        exact h0
      have := h (i + 1) (by simpa using hi)
      rw [show o + (i + 1) * 5 = o + 5 + i * 5 by omega] at this
      simpa using this
theorem KAt.keep {lo hi : Nat} {w w' : World} (hl : lo ≤ hi) (hk : Kept hi w w') : ∀ e vk, KAt hi w e vk → KAt lo w' e vk := by
  refine indK fun k t n d ks ih => ?_
  intro vk h
  rw [kat_iff] at h ⊢
  obtain ⟨h1, h2, h3, h4, a, cap, rfl, hm, hc⟩ := h
  refine ⟨h1, h2, h3, h4, a, cap, rfl, hm, fun hp => ?_⟩
  obtain ⟨b, off, rfl, hb, hr⟩ := hc hp
  refine ⟨b, off, rfl, Nat.le_trans hl hb, ?_⟩
  rw [krow_iff] at hr ⊢
  intro i hi
  obtain ⟨wk, c0, c1, c2, c3, c4, hn⟩ := hr i hi
  exact ⟨wk, hk _ _ _ hb c0, hk _ _ _ hb c1, hk _ _ _ hb c2, hk _ _ _ hb c3, hk _ _ _ hb c4, ih _ (List.getElem_mem _) _ hn⟩
theorem KsAt.keep {lo hi : Nat} {w w' : World} {ks : List K} {v : Value} (h : KsAt hi w ks v) (hl : lo ≤ hi) (hk : Kept hi w w') : KsAt lo w' ks v := by
  obtain ⟨a, cap, rfl, hm, hc⟩ := h
  refine ⟨a, cap, rfl, hm, fun hp => ?_⟩
  obtain ⟨b, off, rfl, hb, hr⟩ := hc hp
  refine ⟨b, off, rfl, Nat.le_trans hl hb, ?_⟩
  rw [krow_iff] at hr ⊢
  intro i hi
  obtain ⟨wk, c0, c1, c2, c3, c4, hn⟩ := hr i hi
  exact ⟨wk, hk _ _ _ hb c0, hk _ _ _ hb c1, hk _ _ _ hb c2, hk _ _ _ hb c3, hk _ _ _ hb c4, KAt.keep hl hk _ _ hn⟩
theorem KSpot.keep {lo hi b o : Nat} {w w' : World} {e : K} (h : KSpot hi w b o e) (hb : hi ≤ b) (hl : lo ≤ hi) (hk : Kept hi w w') : KSpot lo w' b o e := by
  obtain ⟨wk, c0, c1, c2, c3, c4, hn⟩ := h
  exact ⟨wk, hk _ _ _ hb c0, hk _ _ _ hb c1, hk _ _ _ hb c2, hk _ _ _ hb c3, hk _ _ _ hb c4, KAt.keep hl hk _ _ hn⟩
theorem KReads.keep {lo hi : Nat} {w w' : World} {e : K} {v : Value} (h : KReads hi w e v) (hl : lo ≤ hi) (hk : Kept hi w w') : KReads lo w' e v := by
  obtain ⟨vk, rfl, hn⟩ := h
  exact ⟨vk, rfl, KAt.keep hl hk _ _ hn⟩
theorem KAt.below {lo : Nat} {w w' : World} {e : K} {vk : Value} (h : KAt lo w e vk) (hb : Below w.heap.size w w') : KAt lo w' e vk := KAt.keep (Nat.le_refl _) (kept_below hb) _ _ h
theorem KsAt.below {lo : Nat} {w w' : World} {ks : List K} {v : Value} (h : KsAt lo w ks v) (hb : Below w.heap.size w w') : KsAt lo w' ks v := h.keep (Nat.le_refl _) (kept_below hb)
theorem KSpot.below {lo b o : Nat} {w w' : World} {e : K} (h : KSpot lo w b o e) (hb : Below w.heap.size w w') : KSpot lo w' b o e := by
  obtain ⟨wk, c0, c1, c2, c3, c4, hn⟩ := h
  exact ⟨wk, cell_keep hb c0, cell_keep hb c1, cell_keep hb c2, cell_keep hb c3, cell_keep hb c4, hn.below hb⟩
theorem KReads.below {lo : Nat} {w w' : World} {e : K} {v : Value} (h : KReads lo w e v) (hb : Below w.heap.size w w') : KReads lo w' e v := h.keep (Nat.le_refl _) (kept_below hb)
theorem KsAt.at {lo : Nat} {w : World} {ks : List K} {a : Option Addr} {n cap : Nat} (h : KsAt lo w ks (.slice a n cap)) {i : Nat} (hi : i < ks.length) : ∃ b off, a = some ⟨b, off, none⟩ ∧ lo ≤ b ∧ KSpot lo w b (off + i * 5) ks[i] := by
  obtain ⟨a', cap', he, hm, hc⟩ := h
  simp only [Value.slice.injEq] at he
  obtain ⟨rfl, -, rfl⟩ := he
  obtain ⟨b, off, rfl, hb, hr⟩ := hc (by omega)
  exact ⟨b, off, rfl, hb, (krow_iff _ _).1 hr i hi⟩
end Go.Proofs.Ytkmclgofghaeoaa.Core
