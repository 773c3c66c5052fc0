/-
  Maps whose keys are pointers, or pairs of pointers, to plain memory: what is found in one and what a store into one does.
-/
import Derived.Test.YtekeondbbikkpaaGreatBSpecMax
import Derived.MapKept
import Derived.Maps.Own
import Derived.Maps.OwnOps
import Derived.Maps.OwnSet
import Derived.Laws.StructEq
import Derived.Laws.Pointers
namespace Go.Proofs.YtekeondbbikkpaaGreat.PMap
open Go.RowKit Go.MapKept
open Strs
def Fine (w : World) (a : Addr) : Prop := a.spot = none ∧ (∃ v, w.cell? a = some v) ∧ ∀ o, w.frozen? ⟨a.block, o, none⟩ = false
theorem Fine.keep {w w' : World} {a : Addr} (h : Fine w a) (hb : Below w.heap.size w w') : Fine w' a := by
  obtain ⟨b, o, s⟩ := a
  obtain ⟨h1, ⟨v, hv⟩, h3⟩ := h
  simp only at h1
  subst h1
  have hlt := cell_lt hv
  exact ⟨rfl, ⟨v, cell_keep hb hv⟩, fun o' => (hb.frozen (p := ⟨b, o', none⟩) hlt).trans (h3 o')⟩
theorem shape_of {w : World} {a : Addr} {v : Value} (h : w.cell? a = some v) : ∃ e n, w.shape? a.block = some (e, n) := by
  unfold World.cell? at h
  unfold World.shape?
  split at h
  · rename_i c e z hh
    exact ⟨e, c.size, rfl⟩
  · cases h
theorem same_addr {P : Program} {w : World} {a b : Addr} (ha : Fine w a) (hb : Fine w b) : (sameAddr a b).run P w = .ok (decide (a = b)) w := by
  obtain ⟨ba, oa, sa⟩ := a
  obtain ⟨bb, ob, sb⟩ := b
  obtain ⟨ha1, ⟨va, hva⟩, ha3⟩ := ha
  obtain ⟨hb1, ⟨vb, hvb⟩, hb3⟩ := hb
  simp only at ha1 hb1 ha3 hb3
  subst ha1 hb1
  obtain ⟨ea, na, hsa⟩ := shape_of hva
  obtain ⟨eb, nb, hsb⟩ := shape_of hvb
  simp only at hsa hsb
  by_cases h : ba = bb
  · subst h
    simp [sameAddr]
    exact Bool.eq_iff_iff.2 (by simp)
  · simp [sameAddr, h, ha3, hb3, noView, viewAt, mayBeOne, stringish, hsa, hsb]
theorem equal_ptr {P : Program} {w : World} {t e : TypeId} {i : TypeInfo} (ht : P.underlying t = some (.pointer e)) (hi : P.info? e = some i) (hz : i.size ≠ 0) {a b : Addr} (ha : Fine w a) (hb : Fine w b) (d : Nat) :
    (Op.equalIn (d + 1) t (.pointer (some a)) (.pointer (some b))).run P w = .ok (decide (a = b)) w := by
  simp [Op.equalIn, run_underlying ht, sizeOf, typeInfo, hi, hz, same_addr ha hb]
theorem no_now {P : Program} {w : World} {K : TypeId} {d : TypeDesc} (hd : P.underlying K = some d) (hnow : ∀ a b, Instr.sameNow d a b = none) (k : Value) (es : List MapEntry) :
    (Instr.findKey K k es).run P w = (Instr.findAsking K k es).run P w := by
  have h : Instr.findNow d k es 0 = none ∨ es = [] := by
    cases es with
    | nil => exact .inr rfl
    | cons e es => left; simp [Instr.findNow, hnow]
  rcases h with h | rfl
  · simp [Instr.findKey, run_underlying hd, h]
  · simp [Instr.findKey, run_underlying hd, Instr.findNow, Instr.findAsking]
section
variable {κ : Type} [DecidableEq κ] (enc : κ → Value) (dom : κ → Prop)
def seek (k : κ) : List (κ × Value) → Nat → Option (Nat × Value)
  | [], _ => none
  | e :: es, i => if k = e.1 then some (i, e.2) else seek k es (i + 1)
def Is (w : World) (B : Nat) (M : κ → Option Value) : Prop :=
  ∃ (es : Array MapEntry) (clock : Nat) (l : List (κ × Value)), w.heap[B]? = some (.map es clock) ∧ es.toList.map (fun e => (e.key, e.val)) = l.map (fun e => (enc e.1, e.2)) ∧ (∀ e ∈ l, dom e.1) ∧ ∀ k, M k = (seek k l 0).map (·.2)
variable {enc dom}
theorem Is.lt {w : World} {B : Nat} {M : κ → Option Value} (h : Is enc dom w B M) : B < w.heap.size := by
  obtain ⟨es, clock, l, hb, _⟩ := h
  exact (Array.getElem?_eq_some_iff.1 hb).1
theorem Is.kept {w w' : World} {B : Nat} {M : κ → Option Value} (h : Is enc dom w B M) (hk : w'.heap[B]? = w.heap[B]?) : Is enc dom w' B M := by
  obtain ⟨es, clock, l, hb, h2, h3, h4⟩ := h
  exact ⟨es, clock, l, hk.trans hb, h2, h3, h4⟩
theorem Is.step {w w' : World} {B : Nat} {M : κ → Option Value} (h : Is enc dom w B M) (hb : Below w.heap.size w w') : Is enc dom w' B M := h.kept (hb.block B h.lt)
theorem is_new (w : World) : Is enc dom (w.alloc (.map #[] 0)) w.heap.size (fun _ => none) :=
  ⟨#[], 0, [], (MapKept.heap_alloc w _).1, rfl, by simp, fun k => rfl⟩
theorem seek_shift (k : κ) : ∀ (l : List (κ × Value)) (i j : Nat), seek k l (i + j) = (seek k l i).map fun x => (x.1 + j, x.2)
  | [], _, _ => rfl
  | e :: es, i, j => by
    unfold seek
    split
    · rfl
    · rw [show i + j + 1 = (i + 1) + j by omega]; exact seek_shift k es (i + 1) j
theorem seek_some (k : κ) : ∀ (l : List (κ × Value)) (i j : Nat) (v : Value), seek k l i = some (j, v) → ∃ q, j = i + q ∧ ∃ h : q < l.length, l[q] = (k, v)
  | [], _, _, _, h => by cases h
  | e :: es, i, j, v, h => by
    unfold seek at h
    split at h
    · rename_i he
      cases h
      exact ⟨0, rfl, by simp, by simp [he]⟩
    · obtain ⟨q, rfl, hq, hv⟩ := seek_some k es (i + 1) j v h
      exact ⟨q + 1, by omega, by simp; omega, by simpa using hv⟩
variable {P : Program} {w : World} {K E t : TypeId} {d : TypeDesc}
theorem asks (heq : ∀ k k', dom k → dom k' → (Op.equal K (enc k) (enc k')).run P w = .ok (decide (k = k')) w) {k : κ} (hk : dom k) : ∀ (es : List MapEntry) (l : List (κ × Value)) (i : Nat), es.map (fun e => (e.key, e.val)) = l.map (fun e => (enc e.1, e.2)) → (∀ e ∈ l, dom e.1) →
    (Instr.findAsking K (enc k) es i).run P w = .ok (seek k l i) w
  | [], [], _, _, _ => by simp [Instr.findAsking, seek]
  | [], _ :: _, _, h, _ => by simp at h
  | _ :: _, [], _, h, _ => by simp at h
  | e :: es, x :: l, i, h, hd => by
    simp only [List.map_cons, List.cons.injEq, Prod.mk.injEq] at h
    obtain ⟨⟨h1, h2⟩, h3⟩ := h
    have hx := heq k x.1 hk (hd x (by simp))
    have ih := asks heq hk es l (i + 1) h3 (fun y hy => hd y (by simp [hy]))
    unfold seek
    by_cases hkx : k = x.1
    · subst hkx
      simp [Instr.findAsking, h1, hx, h2]
    · simp [Instr.findAsking, h1, hx, hkx, ih]
structure Law (P : Program) (enc : κ → Value) (dom : κ → Prop) (t K E : TypeId) (z : Value) (w : World) : Prop where
  map : P.underlying t = some (.map K E)
  now : ∃ d, P.underlying K = some d ∧ ∀ a b, Instr.sameNow d a b = none
  check : ∀ em k, dom k → (Instr.checkKey em 10000 K (enc k)).run P w = .ok () w
  eq : ∀ k k', dom k → dom k' → (Op.equal K (enc k) (enc k')).run P w = .ok (decide (k = k')) w
  stays : ∀ k, dom k → (Instr.keyThatStays (enc k) (enc k)).run P w = .ok (enc k) w
  zero : (zeroValue E).run P w = .ok z w
theorem Law.find {z : Value} (L : Law P enc dom t K E z w) {k : κ} (hk : dom k) {es : List MapEntry} {l : List (κ × Value)} (h : es.map (fun e => (e.key, e.val)) = l.map (fun e => (enc e.1, e.2))) (hd : ∀ e ∈ l, dom e.1) :
    (Instr.findKey K (enc k) es).run P w = .ok (seek k l 0) w := by
  obtain ⟨d, h1, h2⟩ := L.now
  rw [no_now h1 h2, asks L.eq hk es l 0 h hd]
theorem Is.look {z : Value} {B : Nat} {M : κ → Option Value} (h : Is enc dom w B M) (L : Law P enc dom t K E z w) {k : κ} (hk : dom k) (c : Bool) :
    (Instr.lookup t (.map (some B)) (enc k) c).run P w = .ok (if c then .tuple #[(M k).getD z, .bool (M k).isSome] else (M k).getD z) w := by
  obtain ⟨es, clock, l, hb, h2, h3, h4⟩ := h
  have hf := L.find hk h2 h3
  rw [h4 k]
  cases hs : seek k l 0 with
  | none =>
    rw [hs] at hf
    simp [Instr.lookup, run_underlying L.map, MapKept.run_getObj_map hb, L.check _ k hk, hf, L.zero]
  | some x =>
    obtain ⟨i, v⟩ := x
    rw [hs] at hf
    simp [Instr.lookup, run_underlying L.map, MapKept.run_getObj_map hb, L.check _ k hk, hf]
theorem seek_append (k k' : κ) (v : Value) : ∀ (l : List (κ × Value)) (i : Nat), seek k l i = none → (seek k' (l ++ [(k, v)]) i).map (·.2) = if k' = k then some v else (seek k' l i).map (·.2)
  | [], i, _ => by by_cases h : k' = k <;> simp [seek, h]
  | e :: es, i, h => by
    have h' : k ≠ e.1 ∧ seek k es (i + 1) = none := by
      unfold seek at h
      split at h
      · cases h
      · rename_i hne; exact ⟨hne, h⟩
    have ih := seek_append k k' v es (i + 1) h'.2
    simp only [List.cons_append, seek]
    by_cases h1 : k' = e.1
    · have h2 : ¬ e.1 = k := fun x => h'.1 x.symm
      simp [h1, h2]
    · simp only [h1, if_false]
      exact ih
theorem seek_set (k k' : κ) (v : Value) : ∀ (l : List (κ × Value)) (q : Nat), (∀ i, ∃ u, seek k l i = some (i + q, u)) → (∀ i, (seek k' (l.set q (k, v)) i).map (·.2) = if k' = k then some v else (seek k' l i).map (·.2))
  | [], q, h, _ => by obtain ⟨u, h⟩ := h 0; cases h
  | e :: es, 0, h, i => by
    obtain ⟨u, h⟩ := h 0
    have hk : k = e.1 := by
      unfold seek at h
      split at h
      · assumption
      · obtain ⟨j, h1, _⟩ := seek_some k es (0 + 1) _ _ h
        omega
    simp only [List.set_cons_zero, seek]
    by_cases h1 : k' = k
    · simp [h1]
    · simp [h1, ← hk]
  | e :: es, q + 1, h, i => by
    have hk : ¬ k = e.1 := by
      intro hk
      obtain ⟨u, h⟩ := h 0
      simp [seek, hk] at h
    have ih := seek_set k k' v es q (fun i => by
      obtain ⟨u, h⟩ := h 0
      simp only [seek, hk, if_false] at h
      have := seek_shift k es 0 1
      rw [h] at this
      cases h0 : seek k es 0 with
      | none => rw [h0] at this; cases this
      | some x =>
        obtain ⟨j, y⟩ := x
        rw [h0] at this
        simp at this
        refine ⟨y, ?_⟩
        have h5 := seek_shift k es 0 i
        rw [h0] at h5
        simp at h5
        rw [h5]
        simp
        omega) (i + 1)
    simp only [List.set_cons_succ, seek]
    by_cases h1 : k' = e.1
    · have h2 : ¬ e.1 = k := fun x => hk x.symm
      simp [h1, h2]
    · simp only [h1, if_false]
      exact ih
theorem Is.store {z : Value} {B : Nat} {M : κ → Option Value} (h : Is enc dom w B M) (L : Law P enc dom t K E z w) {k : κ} (hk : dom k) (v : Value) :
    ∃ w', (Instr.mapUpdate t (.map (some B)) (enc k) v).run P w = .ok () w' ∧ Is enc dom w' B (fun k' => if k' = k then some v else M k') ∧ w.grownBy w' (some B) := by
  obtain ⟨es, clock, l, hb, h2, h3, h4⟩ := h
  have hf := L.find hk h2 h3
  have grow : ∀ o, w.grownBy (ChangeMaps.setBlock w B o) (some B) := fun o =>
    ⟨rfl, rfl, rfl, by simp [ChangeMaps.setBlock], fun i _ hi => ChangeMaps.heap_setBlock_other hb _ (fun e => hi (by rw [e]))⟩
  cases hs : seek k l 0 with
  | none =>
    rw [hs] at hf
    refine ⟨ChangeMaps.setBlock w B (.map (es.push ⟨enc k, v, clock⟩) (clock + 1)), ?_, ⟨_, _, l ++ [(k, v)], ChangeMaps.heap_setBlock_same hb _, by simp [h2], ?_, ?_⟩, grow _⟩
    · simp [Instr.mapUpdate, run_underlying L.map, MapKept.run_getObj_map hb, L.check _ k hk, hf, MapKept.run_setObj_map _ hb, ChangeMaps.setBlock]
    · intro e he
      rcases List.mem_append.1 he with he | he
      · exact h3 e he
      · simp at he; subst he; exact hk
    · intro k'
      rw [seek_append k k' v l 0 hs, ← h4 k']
  | some x =>
    obtain ⟨j, u⟩ := x
    rw [hs] at hf
    obtain ⟨q, hq, hql, hqv⟩ := seek_some k l 0 j u hs
    obtain rfl : j = q := by omega
    have hlen : es.toList.length = l.length := by simpa using congrArg List.length h2
    have hjs : j < es.size := by simpa [← hlen] using hql
    have hkey : es[j].key = enc k := by
      have h5 := congrArg (fun l => l[j]?) h2
      simp [hql, hqv, hjs] at h5
      exact h5.1
    refine ⟨ChangeMaps.setBlock w B (.map (es.modify j fun e => { e with key := enc k, val := v }) clock), ?_, ⟨_, _, l.set j (k, v), ChangeMaps.heap_setBlock_same hb _, ?_, ?_, ?_⟩, grow _⟩
    · simp [Instr.mapUpdate, run_underlying L.map, MapKept.run_getObj_map hb, L.check _ k hk, hf, hjs, hkey, L.stays k hk, MapKept.run_setObj_map _ hb, ChangeMaps.setBlock]
    · apply List.ext_getElem?
      intro i
      have h5 := congrArg (fun l => l[i]?) h2
      simp at h5
      by_cases hij : i = j
      · subst hij
        simp [hjs, hql]
      · have hji : ¬ j = i := fun x => hij x.symm
        simp [hji, h5]
    · intro e he
      rcases List.mem_or_eq_of_mem_set he with he | he
      · exact h3 e he
      · subst he; exact hk
    · intro k'
      rw [seek_set k k' v l j (fun i => ⟨u, ?_⟩) 0, ← h4 k']
      have h5 := seek_shift k l 0 i
      rw [hs] at h5
      simp only [Nat.zero_add, Option.map_some] at h5
      rw [h5, Nat.add_comm]
theorem wp_store {z : Value} {B : Nat} {M : κ → Option Value} (w : World) {ops : Array Oper} {rest : List Oper} {o : Oper} {a : Act} {Q : Exit → Act → World → Prop}
    (hg : o.guard = none) (m x v : Operand) (t : TypeId) (hop : o.op = Op.mapUpdate t m x v ∨ o.op = Op.insert t m x v) (K E : TypeId) (L : Law P enc dom t K E z w) (h : Is enc dom w B M) {k : κ} (hk : dom k) (u : Value)
    (hm : a.eval m = .map (some B)) (hx : a.eval x = enc k) (hv : a.eval v = u)
    (hK : ∀ w', Is enc dom w' B (fun k' => if k' = k then some u else M k') → w.grownBy w' (some B) → wpList P ops Q rest (a.put o.dst undef) w') :
    wpList P ops Q (o :: rest) a w := by
  refine wpList_plain hg fun K' hK' => ?_
  obtain ⟨w', hrun, r1, r2⟩ := h.store L hk u
  unfold Oper.wp
  rcases hop with hop | hop
  all_goals
    simp [execOp, hop, hm, hx, hv, hrun, Result.andThen]
    exact hK' _ _ (hK w' r1 r2)
end
end Go.Proofs.YtekeondbbikkpaaGreat.PMap
