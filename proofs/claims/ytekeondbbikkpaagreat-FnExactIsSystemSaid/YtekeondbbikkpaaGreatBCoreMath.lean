/-
  Nodes of the core (a kind, a text, a number, a depth, kids): what they are, how many there are and how deep; when a value reads as one, and that it goes on doing so where nothing of it is written.
  Plain mathematics of the core: how many nodes are left of a number, when a node is right at its place, when routines, classes and systems are right.
-/
import Derived.Test.YtekeondbbikkpaaGreatBSpecMax
import Derived.Test.YtekeondbbikkpaaGreatBTreeOk
namespace Go.Proofs.YtekeondbbikkpaaGreat.Core
open Go.RowKit
open Strs Tree
inductive K where
  | mk (kind : Int) (text : ByteArray) (num dep : Int) (kids : List K)
namespace K
def kind : K → Int | mk k _ _ _ _ => k
def text : K → ByteArray | mk _ t _ _ _ => t
def num : K → Int | mk _ _ n _ _ => n
def dep : K → Int | mk _ _ _ d _ => d
def kids : K → List K | mk _ _ _ _ ks => ks
end K
instance : Inhabited K := ⟨.mk 0 ByteArray.empty 0 0 []⟩
theorem indK {P : K → Prop} (h : ∀ k t n d ks, (∀ e, e ∈ ks → P e) → P (.mk k t n d ks)) : ∀ e, P e := by
  intro e
  refine K.rec (motive_1 := P) (motive_2 := fun l => ∀ e, e ∈ l → P e) ?_ ?_ ?_ e
  · intro k t n d ks ih; exact h k t n d ks ih
  · intro e he; cases he
  · intro a l ha hl e he
    cases he with
    | head => exact ha
    | tail _ h => exact hl e h
mutual
def ksize : K → Nat
  | .mk _ _ _ _ ks => ksizes ks + 1
def ksizes : List K → Nat
  | [] => 0
  | e :: es => ksize e + ksizes es
end
mutual
def kdeep : K → Nat
  | .mk k _ _ d ks => if k = 16 ∧ 30 < d then 1000 else kdeeps ks + 1
def kdeeps : List K → Nat
  | [] => 0
  | e :: es => max (kdeep e) (kdeeps es)
end
mutual
def kweight : K → Nat
  | .mk _ t _ _ ks => t.size + (ks.length + kweights ks)
def kweights : List K → Nat
  | [] => 0
  | e :: es => kweight e + kweights es
end
theorem ksizes_append (a b : List K) : ksizes (a ++ b) = ksizes a + ksizes b := by
  induction a with
  | nil => simp [ksizes]
  | cons e es ih => simp [ksizes, ih]; omega
theorem kdeeps_append (a b : List K) : kdeeps (a ++ b) = max (kdeeps a) (kdeeps b) := by
  induction a with
  | nil => simp [kdeeps]
  | cons e es ih => simp only [kdeeps, List.cons_append, ih]; omega
theorem kweights_append (a b : List K) : kweights (a ++ b) = kweights a + kweights b := by
  induction a with
  | nil => simp [kweights]
  | cons e es ih => simp [kweights, ih]; omega
theorem ksizes_take (ks : List K) (i : Nat) (h : i < ks.length) : ksizes (ks.take (i + 1)) = ksizes (ks.take i) + ksize ks[i] := by
  rw [List.take_succ_eq_append_getElem h, ksizes_append]; simp [ksizes]
theorem kdeeps_take (ks : List K) (i : Nat) (h : i < ks.length) : kdeeps (ks.take (i + 1)) = max (kdeeps (ks.take i)) (kdeep ks[i]) := by
  rw [List.take_succ_eq_append_getElem h, kdeeps_append]; simp [kdeeps]
theorem kweights_take (ks : List K) (i : Nat) (h : i < ks.length) : kweights (ks.take (i + 1)) = kweights (ks.take i) + kweight ks[i] := by
  rw [List.take_succ_eq_append_getElem h, kweights_append]; simp [kweights]
theorem ksizes_le (ks : List K) (i : Nat) : ksizes (ks.take i) ≤ ksizes ks := by
  conv => rhs; rw [← List.take_append_drop i ks, ksizes_append]
  omega
theorem kweights_le (ks : List K) (i : Nat) : kweights (ks.take i) ≤ kweights ks := by
  conv => rhs; rw [← List.take_append_drop i ks, kweights_append]
  omega
theorem ksize_kid (ks : List K) (i : Nat) (h : i < ks.length) : ksize ks[i] ≤ ksizes ks := by
  have := ksizes_take ks i h; have := ksizes_le ks (i + 1); omega
theorem kweight_kid (ks : List K) (i : Nat) (h : i < ks.length) : kweight ks[i] ≤ kweights ks := by
  have := kweights_take ks i h; have := kweights_le ks (i + 1); omega
theorem ksize_pos (e : K) : 1 ≤ ksize e := by cases e; rw [ksize]; omega
theorem kdeep_pos (e : K) : 1 ≤ kdeep e := by cases e; rw [kdeep]; split <;> omega
theorem klen_size (ks : List K) : ks.length ≤ ksizes ks := by
  induction ks with
  | nil => simp
  | cons e es ih => rw [ksizes, List.length_cons]; have := ksize_pos e; omega
theorem kdeep_le : ∀ e, kdeep e ≤ ksize e + 999 := by
  refine indK fun k t n d ks ih => ?_
  rw [ksize, kdeep]
  split
  · omega
  have : ∀ l : List K, (∀ e, e ∈ l → kdeep e ≤ ksize e + 999) → kdeeps l ≤ ksizes l + 999 := by
    intro l
    induction l with
    | nil => intro _; simp [kdeeps]
    | cons e es ihl =>
      intro h
      have h1 := h e (by simp)
      have h2 := ihl fun e he => h e (by simp [he])
      rw [ksizes, kdeeps]; omega
  have := this ks ih
  omega
mutual
def KAt (lo : Nat) (w : World) : K → Value → Prop
  | .mk k t n d ks, vk => (Lit.int .i64 k).wf = true ∧ (Lit.int .i64 n).wf = true ∧ (Lit.int .i64 d).wf = true ∧ t.size ≤ maxLen ∧
      ∃ a cap, vk = .slice a ks.length cap ∧ (ks.length ≤ cap ∧ cap ≤ maxLen) ∧ (0 < ks.length → ∃ b off, a = some ⟨b, off, none⟩ ∧ lo ≤ b ∧ KRow lo w b ks off)
def KRow (lo : Nat) (w : World) (b : Nat) : List K → Nat → Prop
  | [], _ => True
  | e :: es, o => (∃ vk, w.cell? ⟨b, o, none⟩ = some (.int .i64 e.kind) ∧ w.cell? ⟨b, o + 1, none⟩ = some (.string e.text) ∧ w.cell? ⟨b, o + 2, none⟩ = some (.int .i64 e.num) ∧ w.cell? ⟨b, o + 3, none⟩ = some (.int .i64 e.dep) ∧ w.cell? ⟨b, o + 4, none⟩ = some vk ∧ KAt lo w e vk) ∧ KRow lo w b es (o + 5)
end
def KsAt (lo : Nat) (w : World) (ks : List K) (v : Value) : Prop :=
  ∃ a cap, v = .slice a ks.length cap ∧ (ks.length ≤ cap ∧ cap ≤ maxLen) ∧ (0 < ks.length → ∃ b off, a = some ⟨b, off, none⟩ ∧ lo ≤ b ∧ KRow lo w b ks off)
def KSpot (lo : Nat) (w : World) (b o : Nat) (e : K) : Prop :=
  ∃ vk, w.cell? ⟨b, o, none⟩ = some (.int .i64 e.kind) ∧ w.cell? ⟨b, o + 1, none⟩ = some (.string e.text) ∧ w.cell? ⟨b, o + 2, none⟩ = some (.int .i64 e.num) ∧ w.cell? ⟨b, o + 3, none⟩ = some (.int .i64 e.dep) ∧ w.cell? ⟨b, o + 4, none⟩ = some vk ∧ KAt lo w e vk
def KReads (lo : Nat) (w : World) (e : K) (v : Value) : Prop := ∃ vk, v = .agg #[.int .i64 e.kind, .string e.text, .int .i64 e.num, .int .i64 e.dep, vk] ∧ KAt lo w e vk
theorem kat_iff {lo : Nat} {w : World} {e : K} {vk : Value} : KAt lo w e vk ↔ (Lit.int .i64 e.kind).wf = true ∧ (Lit.int .i64 e.num).wf = true ∧ (Lit.int .i64 e.dep).wf = true ∧ e.text.size ≤ maxLen ∧ KsAt lo w e.kids vk := by
  cases e with
  | mk k t n d ks => rw [KAt]; exact Iff.rfl
theorem krow_iff {lo : Nat} {w : World} {b : Nat} (ks : List K) (o : Nat) : KRow lo w b ks o ↔ ∀ i (h : i < ks.length), KSpot lo w b (o + i * 5) ks[i] := by
  induction ks generalizing o with
  | nil => simp [KRow]
  | cons e es ih =>
    rw [KRow, ih]
    constructor
    · rintro ⟨h0, h1⟩ i hi
      cases i with
      | zero => rw [show o + 0 * 5 = o by omega]; exact h0
      | succ i =>
        have := h1 i (by simpa using hi)
        rw [show o + (i + 1) * 5 = o + 5 + i * 5 by omega]
        simpa using this
    · intro h
      refine ⟨?_, fun i hi => ?_⟩
      · have h0 : KSpot lo w b (o + 0 * 5) e := h 0 (by simp)
        rw [show o + 0 * 5 = o by omega] at h0
        exact h0
      have := h (i + 1) (by simpa using hi)
      rw [show o + (i + 1) * 5 = o + 5 + i * 5 by omega] at this
      simpa using this
theorem KAt.keep {lo hi : Nat} {w w' : World} (hl : lo ≤ hi) (hk : Kept hi w w') : ∀ e vk, KAt hi w e vk → KAt lo w' e vk := by
  refine indK fun k t n d ks ih => ?_
  intro vk h
  rw [kat_iff] at h ⊢
  obtain ⟨h1, h2, h3, h4, a, cap, rfl, hm, hc⟩ := h
  refine ⟨h1, h2, h3, h4, a, cap, rfl, hm, fun hp => ?_⟩
  obtain ⟨b, off, rfl, hb, hr⟩ := hc hp
  refine ⟨b, off, rfl, Nat.le_trans hl hb, ?_⟩
  rw [krow_iff] at hr ⊢
  intro i hi
  obtain ⟨wk, c0, c1, c2, c3, c4, hn⟩ := hr i hi
  exact ⟨wk, hk _ _ _ hb c0, hk _ _ _ hb c1, hk _ _ _ hb c2, hk _ _ _ hb c3, hk _ _ _ hb c4, ih _ (List.getElem_mem _) _ hn⟩
theorem KsAt.keep {lo hi : Nat} {w w' : World} {ks : List K} {v : Value} (h : KsAt hi w ks v) (hl : lo ≤ hi) (hk : Kept hi w w') : KsAt lo w' ks v := by
  obtain ⟨a, cap, rfl, hm, hc⟩ := h
  refine ⟨a, cap, rfl, hm, fun hp => ?_⟩
  obtain ⟨b, off, rfl, hb, hr⟩ := hc hp
  refine ⟨b, off, rfl, Nat.le_trans hl hb, ?_⟩
  rw [krow_iff] at hr ⊢
  intro i hi
  obtain ⟨wk, c0, c1, c2, c3, c4, hn⟩ := hr i hi
  exact ⟨wk, hk _ _ _ hb c0, hk _ _ _ hb c1, hk _ _ _ hb c2, hk _ _ _ hb c3, hk _ _ _ hb c4, KAt.keep hl hk _ _ hn⟩
theorem KSpot.keep {lo hi b o : Nat} {w w' : World} {e : K} (h : KSpot hi w b o e) (hb : hi ≤ b) (hl : lo ≤ hi) (hk : Kept hi w w') : KSpot lo w' b o e := by
  obtain ⟨wk, c0, c1, c2, c3, c4, hn⟩ := h
  exact ⟨wk, hk _ _ _ hb c0, hk _ _ _ hb c1, hk _ _ _ hb c2, hk _ _ _ hb c3, hk _ _ _ hb c4, KAt.keep hl hk _ _ hn⟩
theorem KReads.keep {lo hi : Nat} {w w' : World} {e : K} {v : Value} (h : KReads hi w e v) (hl : lo ≤ hi) (hk : Kept hi w w') : KReads lo w' e v := by
  obtain ⟨vk, rfl, hn⟩ := h
  exact ⟨vk, rfl, KAt.keep hl hk _ _ hn⟩
theorem KAt.below {lo : Nat} {w w' : World} {e : K} {vk : Value} (h : KAt lo w e vk) (hb : Below w.heap.size w w') : KAt lo w' e vk := KAt.keep (Nat.le_refl _) (kept_below hb) _ _ h
theorem KsAt.below {lo : Nat} {w w' : World} {ks : List K} {v : Value} (h : KsAt lo w ks v) (hb : Below w.heap.size w w') : KsAt lo w' ks v := h.keep (Nat.le_refl _) (kept_below hb)
theorem KSpot.below {lo b o : Nat} {w w' : World} {e : K} (h : KSpot lo w b o e) (hb : Below w.heap.size w w') : KSpot lo w' b o e := by
  obtain ⟨wk, c0, c1, c2, c3, c4, hn⟩ := h
  exact ⟨wk, cell_keep hb c0, cell_keep hb c1, cell_keep hb c2, cell_keep hb c3, cell_keep hb c4, hn.below hb⟩
theorem KReads.below {lo : Nat} {w w' : World} {e : K} {v : Value} (h : KReads lo w e v) (hb : Below w.heap.size w w') : KReads lo w' e v := h.keep (Nat.le_refl _) (kept_below hb)
theorem KsAt.at {lo : Nat} {w : World} {ks : List K} {a : Option Addr} {n cap : Nat} (h : KsAt lo w ks (.slice a n cap)) {i : Nat} (hi : i < ks.length) : ∃ b off, a = some ⟨b, off, none⟩ ∧ lo ≤ b ∧ KSpot lo w b (off + i * 5) ks[i] := by
  obtain ⟨a', cap', he, hm, hc⟩ := h
  simp only [Value.slice.injEq] at he
  obtain ⟨rfl, -, rfl⟩ := he
  obtain ⟨b, off, rfl, hb, hr⟩ := hc (by omega)
  exact ⟨b, off, rfl, hb, (krow_iff _ _).1 hr i hi⟩
end Go.Proofs.YtekeondbbikkpaaGreat.Core

namespace Go.Proofs.YtekeondbbikkpaaGreat.Core
open Go.RowKit
open Strs Tree
def lf (n : Nat) (m : Int) : Int := if (n : Int) ≤ m then m - n else -1
theorem lf_step (a b : Nat) (m : Int) (h : 0 ≤ lf a m) : lf b (lf a m) = lf (a + b) m := by
  unfold lf at *; split at h <;> (repeat' split) <;> omega
theorem lf_more (a b : Nat) (m : Int) (h : ¬ 0 ≤ lf a m) : lf (a + b) m = lf a m := by
  unfold lf at *; split at h <;> (repeat' split) <;> omega
theorem lf_ge (a : Nat) (m : Int) : -1 ≤ lf a m := by unfold lf; split <;> omega
theorem lf_le (a : Nat) (m : Int) (h : -1 ≤ m) : lf a m ≤ m := by unfold lf; split <;> omega
theorem lf_zero (m : Int) (h : -1 ≤ m) : lf 0 m = m := by unfold lf; split <;> omega
def fits (e : K) (l p : Nat) : Bool := decide (ksize e ≤ l) && decide (kdeep e ≤ p)
def fitsAll (ks : List K) (l p : Nat) : Bool := decide (ksizes ks ≤ l) && decide (kdeeps ks ≤ p)
theorem fits_mk (k : Int) (t : ByteArray) (n d : Int) (ks : List K) (l p : Nat) (hp : p < 1000) : fits (.mk k t n d ks) l p = (decide (l ≠ 0) && (decide (p ≠ 0) && (!(decide (k = 16) && decide (30 < d)) && fitsAll ks (l - 1) (p - 1)))) := by
  unfold fits fitsAll
  rw [ksize, kdeep]
  rw [Bool.eq_iff_iff]
  simp only [Bool.and_eq_true, decide_eq_true_eq, Bool.not_eq_true', Bool.and_eq_false_imp, decide_eq_false_iff_not]
  by_cases h : k = 16 ∧ 30 < d
  · rw [if_pos h]
    obtain ⟨h1, h2⟩ := h
    constructor
    · rintro ⟨a, b⟩; omega
    · rintro ⟨a, b, c, _⟩; exact absurd h2 (c h1)
  · rw [if_neg h]
    constructor
    · rintro ⟨a, b⟩
      exact ⟨by omega, by omega, fun h1 h2 => h ⟨h1, h2⟩, by omega, by omega⟩
    · rintro ⟨a, b, c, d1, d2⟩
      exact ⟨by omega, by omega⟩
theorem fitsAll_take (ks : List K) (l p : Nat) (i : Nat) (h : i < ks.length) (hi : fitsAll (ks.take i) l p = true) (he : fits ks[i] (l - ksizes (ks.take i)) p = true) : fitsAll (ks.take (i + 1)) l p = true := by
  unfold fitsAll fits at *
  simp only [Bool.and_eq_true, decide_eq_true_eq] at *
  rw [ksizes_take _ _ h, kdeeps_take _ _ h]
  omega
theorem kdeep_kid (ks : List K) (i : Nat) (h : i < ks.length) : kdeep ks[i] ≤ kdeeps ks := by
  have h1 := kdeeps_take ks i h
  have h2 : kdeeps (ks.take (i + 1)) ≤ kdeeps ks := by
    conv => rhs; rw [← List.take_append_drop (i + 1) ks, kdeeps_append]
    omega
  omega
theorem fitsAll_no (ks : List K) (l p : Nat) (i : Nat) (h : i < ks.length) (he : fits ks[i] (l - ksizes (ks.take i)) p = false) : fitsAll ks l p = false := by
  unfold fitsAll fits at *
  have h1 := ksizes_take ks i h
  have h2 := ksizes_le ks (i + 1)
  have h3 := kdeep_kid ks i h
  have h4 := ksize_pos ks[i]
  rw [← Bool.not_eq_true] at he ⊢
  simp only [Bool.and_eq_true, decide_eq_true_eq] at *
  rintro ⟨a, b⟩
  exact he ⟨by omega, by omega⟩
abbrev Lv := List (Int × Int)
def plainB (k : Int) (t : ByteArray) (n d : Int) : Bool :=
  if k = 2 ∨ k = 3 ∨ k = 10 ∨ k = 11 ∨ k = 13 then decide (n = 0) && decide (d = 0)
  else if k = 1 ∨ k = 12 ∨ k = 20 ∨ k = 21 then decide (t.size = 0) && decide (d = 0)
  else if k = 8 ∨ k = 9 ∨ k = 16 then decide (t.size = 0)
  else if k = 14 then decide (d = 0)
  else decide (t.size = 0) && (decide (n = 0) && decide (d = 0))
def countB (k : Int) (t : ByteArray) (c : Nat) : Bool :=
  if k = 1 ∨ k = 2 ∨ k = 3 ∨ k = 4 ∨ k = 5 ∨ k = 6 ∨ k = 7 ∨ k = 8 ∨ k = 10 ∨ k = 12 then decide (c = 0)
  else if k = 9 ∨ k = 11 ∨ k = 16 ∨ k = 18 then decide (c = 1)
  else if k = 20 then decide (c = 2)
  else if k = 19 ∨ k = 21 then decide (c = 3)
  else if k = 15 ∨ k = 17 then decide (2 ≤ c)
  else if k = 13 then decide ((c : Int) = 1 + Tok.countArgs t)
  else if k = 14 then decide ((c : Int) = Tok.countArgs t)
  else false
def lvl (L : Lv) (d : Int) : Option (Int × Int) := if 0 ≤ d ∧ d < L.length then L[L.length - 1 - d.toNat]? else none
def slotB (L : Lv) (d n : Int) : Bool := match lvl L d with
  | some q => decide (0 ≤ n) && decide (n < q.2)
  | none => false
def varB (L : Lv) (d n : Int) : Bool := match lvl L d with
  | some q => (decide (0 ≤ n) && decide (n < q.2)) && decide (q.1 ≤ n)
  | none => false
def clsB (C : Nat) (n : Int) : Bool := decide (0 ≤ n) && decide (n < C)
def fieldB (C : Nat) (L : Lv) (k : Int) (t : ByteArray) (n d : Int) : Bool :=
  if k = 1 then decide (0 ≤ n) && decide (n ≤ 999999999)
  else if k = 2 then Tree.isText t
  else if k = 3 ∨ k = 13 then Tok.sel t
  else if k = 8 then slotB L d n
  else if k = 9 ∨ k = 21 then varB L d n
  else if k = 10 ∨ k = 11 then Tok.isName t
  else if k = 12 then clsB C n
  else if k = 14 then clsB C n && Tok.sel t
  else if k = 16 then decide (0 ≤ n) && decide (n ≤ d)
  else if k = 20 then decide (n = 0) || decide (n = 1)
  else true
def ownB (C : Nat) (L : Lv) (k : Int) (t : ByteArray) (n d : Int) (c : Nat) : Bool := plainB k t n d && (countB k t c && fieldB C L k t n d)
mutual
def kright (C : Nat) (L : Lv) : K → Bool
  | .mk k t n d ks => ownB C L k t n d ks.length && (if k = 16 then krights C (L ++ [(n, d)]) ks else if k = 15 then khead C L ks else krights C L ks)
def krights (C : Nat) (L : Lv) : List K → Bool
  | [] => true
  | e :: es => kright C L e && krights C L es
def khead (C : Nat) (L : Lv) : List K → Bool
  | [] => true
  | e :: es => kright C L e && kmsgs C L es
def kmsgs (C : Nat) (L : Lv) : List K → Bool
  | [] => true
  | e :: es => kmsg C L e && kmsgs C L es
def kmsg (C : Nat) (L : Lv) : K → Bool
  | .mk k t n d ks => decide (k = 13) && (plainB k t n d && (decide ((ks.length : Int) = Tok.countArgs t) && krights C L ks))
end
theorem krights_iff (C : Nat) (L : Lv) (ks : List K) : krights C L ks = ks.all (kright C L) := by
  induction ks with
  | nil => rw [krights]; rfl
  | cons e es ih => rw [krights, ih]; rfl
theorem kmsgs_iff (C : Nat) (L : Lv) (ks : List K) : kmsgs C L ks = ks.all (kmsg C L) := by
  induction ks with
  | nil => rw [kmsgs]; rfl
  | cons e es ih => rw [kmsgs, ih]; rfl
theorem kright_mk (C : Nat) (L : Lv) (k : Int) (t : ByteArray) (n d : Int) (ks : List K) : kright C L (.mk k t n d ks) = (ownB C L k t n d ks.length && (if k = 16 then krights C (L ++ [(n, d)]) ks else if k = 15 then khead C L ks else krights C L ks)) := by rw [kright]
structure R where
  sel : ByteArray
  owner : Int
  cls : Bool
  params : Int
  slots : Int
  body : K
structure I where
  name : ByteArray
  parent : Int
  fields : List ByteArray
structure S where
  classes : List I
  routines : List R
  main : R
def limitsB (r : R) : Bool := decide (r.slots ≤ 30) && fits r.body 500 40
def bodyB (C : Nat) (r : R) : Bool := limitsB r && ((decide (0 ≤ r.params) && decide (r.params ≤ r.slots)) && kright C [(r.params, r.slots)] r.body)
def mainB (C : Nat) (r : R) : Bool := (decide (r.sel = ⟨#[109, 97, 105, 110]⟩) && (decide (r.owner = -1) && (!r.cls && decide (r.params = 0)))) && bodyB C r
def methB (C : Nat) (r : R) : Bool := (Tok.sel r.sel && (decide (Tok.countArgs r.sel = r.params) && (decide (16 ≤ r.owner) && decide (r.owner < C)))) && bodyB C r
def same (a b : R) : Bool := decide (a.sel = b.sel) && (decide (a.owner = b.owner) && decide (a.cls = b.cls))
def routB (C : Nat) (rs : List R) (i : Nat) : Bool := match rs[i]? with
  | some r => !(rs.take i).any (same r) && methB C r
  | none => true
def bparents : List Int := [-1, 0, 1, 2, 2, 0, 0, 0, 0, 0, 0, 0, 0, 0, 0, 0]
def bfields (i : Nat) : List ByteArray := if 1 ≤ i ∧ i ≤ 4 then [⟨#[116, 101, 120, 116]⟩] else []
def builtin (i : Nat) : I := ⟨Builtin.names.getD i ByteArray.empty, bparents.getD i 0, bfields i⟩
def freshB (fs : List ByteArray) (j : Nat) : Bool := !Tok.has (fs.take j) (fs.getD j ByteArray.empty)
def fieldsB (fs inh : List ByteArray) : Bool := decide (fs.length ≤ 8) && (fs.all Tok.isName && ((List.range fs.length).all (freshB fs) && (decide (inh.length ≤ fs.length) && decide (fs.take inh.length = inh))))
def placeB (cs : List I) (i : Nat) (c : I) : Bool := Tok.isName c.name && (!(cs.take i).any (fun x => decide (x.name = c.name)) && ((decide (0 ≤ c.parent) && decide (c.parent < i)) && !(decide (4 < c.parent) && decide (c.parent < 16))))
def isB (c b : I) : Bool := decide (c.name = b.name) && (decide (c.parent = b.parent) && decide (c.fields = b.fields))
def infoB (cs : List I) (i : Nat) : Bool := match cs[i]? with
  | some c => if i < 16 then isB c (builtin i) else placeB cs i c && (match cs[c.parent.toNat]? with
    | some p => fieldsB c.fields p.fields
    | none => true)
  | none => true
def infosB (cs : List I) : Bool := (decide (16 ≤ cs.length) && decide (cs.length ≤ 24)) && (List.range cs.length).all (infoB cs)
def sysB (s : S) : Bool := infosB s.classes && (decide (s.routines.length ≤ 96) && (mainB s.classes.length s.main && (List.range s.routines.length).all (routB s.classes.length s.routines)))
theorem range_take {p : Nat → Bool} {n : Nat} (h : (List.range n).all p = true) (hp : p n = true) : (List.range (n + 1)).all p = true := by
  rw [List.range_succ, List.all_append, h, List.all_cons, hp]; rfl
theorem range_no {p : Nat → Bool} {n i : Nat} (hi : i < n) (hp : p i = false) : (List.range n).all p = false := by
  rw [List.all_eq_false]
  exact ⟨i, List.mem_range.2 hi, by rw [hp]; exact Bool.false_ne_true⟩
end Go.Proofs.YtekeondbbikkpaaGreat.Core
