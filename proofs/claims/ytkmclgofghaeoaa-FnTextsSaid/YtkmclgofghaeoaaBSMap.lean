/-
  Maps that the call made, whose keys are texts or structs: what is found, stored, deleted, copied.
-/
import Derived.Test.YtkmclgofghaeoaaBButs
import Derived.Test.YtkmclgofghaeoaaBPMap
namespace Go.Proofs.Ytkmclgofghaeoaa.SMap
open Go.RowKit Go.MapKept
open Strs PMap Chk
section
variable {κ : Type} [DecidableEq κ] (enc : κ → Value)
def Mp (w : World) (B : Nat) (M : κ → Option Value) : Prop :=
  ∃ (es : Array MapEntry) (clock : Nat) (l : List (κ × Value)), w.heap[B]? = some (.map es clock) ∧ es.toList.map (fun e => (e.key, e.val)) = l.map (fun e => (enc e.1, e.2)) ∧ (l.map (·.1)).Nodup ∧ ∀ k, M k = (seek k l 0).map (·.2)
variable {enc}
theorem Mp.lt {w : World} {B : Nat} {M : κ → Option Value} (h : Mp enc w B M) : B < w.heap.size := by
  obtain ⟨es, clock, l, hb, _⟩ := h
  exact (Array.getElem?_eq_some_iff.1 hb).1
theorem Mp.kept {w w' : World} {B : Nat} {M : κ → Option Value} (h : Mp enc w B M) (hk : w'.heap[B]? = w.heap[B]?) : Mp enc w' B M := by
  obtain ⟨es, clock, l, hb, h2, h3, h4⟩ := h
  exact ⟨es, clock, l, hk.trans hb, h2, h3, h4⟩
theorem Mp.step {w w' : World} {B : Nat} {M : κ → Option Value} (h : Mp enc w B M) (hb : Below w.heap.size w w') : Mp enc w' B M := h.kept (hb.block B h.lt)
theorem Mp.but {w w' : World} {B X : Nat} {M : κ → Option Value} (h : Mp enc w B M) (hb : But X w w') (hx : B ≠ X) : Mp enc w' B M := h.kept (hb.block B h.lt hx)
theorem Mp.no_cell {w : World} {B : Nat} {M : κ → Option Value} (h : Mp enc w B M) (o : Nat) (v : Value) : w.cell? ⟨B, o, none⟩ ≠ some v := by
  obtain ⟨es, clock, l, hb, _⟩ := h
  intro e
  unfold World.cell? at e
  simp only [hb] at e
  cases e
theorem Mp.cast {w : World} {B : Nat} {M M' : κ → Option Value} (h : Mp enc w B M) (e : ∀ k, M' k = M k) : Mp enc w B M' := by
  obtain ⟨es, clock, l, hb, h2, h3, h4⟩ := h
  exact ⟨es, clock, l, hb, h2, h3, fun k => (e k).trans (h4 k)⟩
theorem mp_new (w : World) : Mp enc (w.alloc (.map #[] 0)) w.heap.size (fun _ => none) :=
  ⟨#[], 0, [], (MapKept.heap_alloc w _).1, rfl, List.nodup_nil, fun _ => rfl⟩
theorem seek_none {k : κ} : ∀ {l : List (κ × Value)} {i : Nat}, seek k l i = none → k ∉ l.map (·.1)
  | [], _, _ => by simp
  | e :: es, i, h => by
    unfold seek at h
    split at h
    · cases h
    · rename_i hne
      have := seek_none h
      simp only [List.map_cons, List.mem_cons, not_or]
      exact ⟨hne, this⟩
theorem seek_out {k : κ} : ∀ {l : List (κ × Value)} {i : Nat}, k ∉ l.map (·.1) → seek k l i = none
  | [], _, _ => rfl
  | e :: es, i, h => by
    simp only [List.map_cons, List.mem_cons, not_or] at h
    unfold seek
    rw [if_neg h.1]
    exact seek_out h.2
theorem erase_map {α β : Type} (f : α → β) : ∀ (l : List α) (j : Nat), (l.eraseIdx j).map f = (l.map f).eraseIdx j
  | [], _ => by simp
  | _ :: _, 0 => by simp
  | a :: l, j + 1 => by simp [erase_map f l j]
theorem seek_erase (k k' : κ) : ∀ (l : List (κ × Value)) (q i : Nat), (l.map (·.1)).Nodup → (∃ v, l[q]? = some (k, v)) → (seek k' (l.eraseIdx q) i).map (·.2) = if k' = k then none else (seek k' l i).map (·.2)
  | [], q, _, _, h => by obtain ⟨v, h⟩ := h; simp at h
  | e :: es, 0, i, hn, h => by
    obtain ⟨v, h⟩ := h
    simp at h
    subst h
    simp only [List.map_cons, List.nodup_cons] at hn
    simp only [List.eraseIdx_cons_zero]
    by_cases hk : k' = k
    · subst hk
      rw [if_pos rfl, seek_out hn.1]
      rfl
    · rw [if_neg hk]
      conv => rhs; unfold seek
      rw [if_neg hk]
      have h1 := seek_shift k' es i 1
      rw [h1]
      cases seek k' es i <;> rfl
  | e :: es, q + 1, i, hn, h => by
    simp only [List.map_cons, List.nodup_cons] at hn
    obtain ⟨v, h⟩ := h
    simp only [List.getElem?_cons_succ] at h
    have ih := seek_erase k k' es q (i + 1) hn.2 ⟨v, h⟩
    simp only [List.eraseIdx_cons_succ]
    unfold seek
    by_cases he : k' = e.1
    · rw [if_pos he, if_pos he]
      have hne : ¬ k' = k := fun hk => hn.1 (by
        rw [← he, hk]
        exact List.mem_map.2 ⟨(k, v), List.mem_of_getElem? h, rfl⟩)
      rw [if_neg hne]
    · rw [if_neg he, if_neg he]
      exact ih
variable {P : Program} {w : World} {K E t : TypeId}
structure Law2 (P : Program) (enc : κ → Value) (t K E : TypeId) (z : Value) (w : World) : Prop where
  map : P.underlying t = some (.map K E)
  check : ∀ em k, (Instr.checkKey em 10000 K (enc k)).run P w = .ok () w
  find : ∀ k (es : List MapEntry) (l : List (κ × Value)), es.map (fun e => (e.key, e.val)) = l.map (fun e => (enc e.1, e.2)) → (Instr.findKey K (enc k) es).run P w = .ok (seek k l 0) w
  stays : ∀ k, (Instr.keyThatStays (enc k) (enc k)).run P w = .ok (enc k) w
  zero : (zeroValue E).run P w = .ok z w
theorem Mp.look {z : Value} {B : Nat} {M : κ → Option Value} (h : Mp enc w B M) (L : Law2 P enc t K E z w) (k : κ) (c : Bool) :
    (Instr.lookup t (.map (some B)) (enc k) c).run P w = .ok (if c then .tuple #[(M k).getD z, .bool (M k).isSome] else (M k).getD z) w := by
  obtain ⟨es, clock, l, hb, h2, h3, h4⟩ := h
  have hf := L.find k _ _ h2
  rw [h4 k]
  cases hs : seek k l 0 with
  | none =>
    rw [hs] at hf
    simp [Instr.lookup, run_underlying L.map, MapKept.run_getObj_map hb, L.check _ k, hf, L.zero]
  | some x =>
    obtain ⟨i, v⟩ := x
    rw [hs] at hf
    simp [Instr.lookup, run_underlying L.map, MapKept.run_getObj_map hb, L.check _ k, hf]
theorem but_block {B : Nat} {o' : Obj} {es : Array MapEntry} {clock : Nat} (hb : w.heap[B]? = some (.map es clock)) : But B w (ChangeMaps.setBlock w B o') :=
  ⟨rfl, rfl, rfl, by simp [ChangeMaps.setBlock], fun i _ hi => ChangeMaps.heap_setBlock_other hb _ hi⟩
theorem Mp.store {z : Value} {B : Nat} {M : κ → Option Value} (h : Mp enc w B M) (L : Law2 P enc t K E z w) (k : κ) (v : Value) :
    ∃ w', (Instr.mapUpdate t (.map (some B)) (enc k) v).run P w = .ok () w' ∧ Mp enc w' B (fun k' => if k' = k then some v else M k') ∧ But B w w' := by
  obtain ⟨es, clock, l, hb, h2, h3, h4⟩ := h
  have hf := L.find k _ _ h2
  cases hs : seek k l 0 with
  | none =>
    rw [hs] at hf
    refine ⟨ChangeMaps.setBlock w B (.map (es.push ⟨enc k, v, clock⟩) (clock + 1)), ?_, ⟨_, _, l ++ [(k, v)], ChangeMaps.heap_setBlock_same hb _, by simp [h2], ?_, ?_⟩, but_block hb⟩
    · simp [Instr.mapUpdate, run_underlying L.map, MapKept.run_getObj_map hb, L.check _ k, hf, MapKept.run_setObj_map _ hb, ChangeMaps.setBlock]
    · rw [List.map_append, List.nodup_append]
      refine ⟨h3, by simp, fun a ha b hb' e => ?_⟩
      simp at hb'
      subst hb' e
      exact seek_none hs ha
    · intro k'
      rw [seek_append k k' v l 0 hs, ← h4 k']
  | some x =>
    obtain ⟨j, u⟩ := x
    rw [hs] at hf
    obtain ⟨q, hq, hql, hqv⟩ := seek_some k l 0 j u hs
    obtain rfl : j = q := by omega
    have hlen : es.toList.length = l.length := by simpa using congrArg List.length h2
    have hjs : j < es.size := by simpa [← hlen] using hql
    have hkey : es[j].key = enc k := by
      have h5 := congrArg (fun l => l[j]?) h2
      simp [hql, hqv, hjs] at h5
      exact h5.1
    refine ⟨ChangeMaps.setBlock w B (.map (es.modify j fun e => { e with key := enc k, val := v }) clock), ?_, ⟨_, _, l.set j (k, v), ChangeMaps.heap_setBlock_same hb _, ?_, ?_, ?_⟩, but_block hb⟩
    · simp [Instr.mapUpdate, run_underlying L.map, MapKept.run_getObj_map hb, L.check _ k, hf, hjs, hkey, L.stays k, MapKept.run_setObj_map _ hb, ChangeMaps.setBlock]
    · apply List.ext_getElem?
      intro i
      have h5 := congrArg (fun l => l[i]?) h2
      simp at h5
      by_cases hij : i = j
      · subst hij
        simp [hjs, hql]
      · have hji : ¬ j = i := fun x => hij x.symm
        simp [hji, h5]
    · have e : (l.set j (k, v)).map (·.1) = l.map (·.1) := by
        rw [List.map_set]
        apply List.ext_getElem?
        intro i
        by_cases hij : j = i
        · subst hij
          simp [hql, hqv]
        · simp [hij]
      rw [e]
      exact h3
    · intro k'
      rw [seek_set k k' v l j (fun i => ⟨u, ?_⟩) 0, ← h4 k']
      have h5 := seek_shift k l 0 i
      rw [hs] at h5
      simp only [Nat.zero_add, Option.map_some] at h5
      rw [h5, Nat.add_comm]
theorem Mp.drop {z : Value} {B : Nat} {M : κ → Option Value} (h : Mp enc w B M) (L : Law2 P enc t K E z w) (k : κ) (ty : TypeId) :
    ∃ w', (Builtin.delete_ #[t, K] ty #[.map (some B), enc k]).run P w = .ok (.tuple #[]) w' ∧ Mp enc w' B (fun k' => if k' = k then none else M k') ∧ But B w w' := by
  obtain ⟨es, clock, l, hb, h2, h3, h4⟩ := h
  have hf := L.find k _ _ h2
  cases hs : seek k l 0 with
  | none =>
    rw [hs] at hf
    refine ⟨ChangeMaps.setBlock w B (.map es clock), ?_, ⟨_, _, l, ChangeMaps.heap_setBlock_same hb _, h2, h3, fun k' => ?_⟩, but_block hb⟩
    · simp [Builtin.delete_, run_underlying L.map, MapKept.run_getObj_map hb, L.check _ k, hf, MapKept.run_setObj_map _ hb, ChangeMaps.setBlock]
    · show (if k' = k then none else M k') = _
      by_cases hk : k' = k
      · rw [if_pos hk, hk, hs]; rfl
      · rw [if_neg hk, h4 k']
  | some x =>
    obtain ⟨j, u⟩ := x
    rw [hs] at hf
    obtain ⟨q, hq, hql, hqv⟩ := seek_some k l 0 j u hs
    obtain rfl : j = q := by omega
    refine ⟨ChangeMaps.setBlock w B (.map (es.eraseIdxIfInBounds j) clock), ?_, ⟨_, _, l.eraseIdx j, ChangeMaps.heap_setBlock_same hb _, ?_, ?_, fun k' => ?_⟩, but_block hb⟩
    · simp [Builtin.delete_, run_underlying L.map, MapKept.run_getObj_map hb, L.check _ k, hf, MapKept.run_setObj_map _ hb, ChangeMaps.setBlock]
    · have e : (es.eraseIdxIfInBounds j).toList = es.toList.eraseIdx j := by simp
      rw [e, erase_map, h2, erase_map]
    · rw [erase_map]
      exact h3.sublist (List.eraseIdx_sublist _ _)
    · rw [seek_erase k k' l j 0 h3 ⟨u, by rw [List.getElem?_eq_getElem hql, hqv]⟩, ← h4 k']
theorem wp_store2 {z : Value} {B : Nat} {M : κ → Option Value} {ops : Array Oper} {rest : List Oper} {o : Oper} {a : Act} {Q : Exit → Act → World → Prop}
    (hg : o.guard = none) (m x v : Operand) (t : TypeId) (hop : o.op = Op.mapUpdate t m x v ∨ o.op = Op.insert t m x v) (K E : TypeId) (L : Law2 P enc t K E z w) (h : Mp enc w B M) (k : κ) (u : Value)
    (hm : a.eval m = .map (some B)) (hx : a.eval x = enc k) (hv : a.eval v = u)
    (hK : ∀ w', Mp enc w' B (fun k' => if k' = k then some u else M k') → But B w w' → wpList P ops Q rest (a.put o.dst undef) w') :
    wpList P ops Q (o :: rest) a w := by
  refine wpList_plain hg fun K' hK' => ?_
  obtain ⟨w', hrun, r1, r2⟩ := h.store L k u
  unfold Oper.wp
  rcases hop with hop | hop
  all_goals
    simp [execOp, hop, hm, hx, hv, hrun, Result.andThen]
    exact hK' _ _ (hK w' r1 r2)
theorem wp_drop2 {z : Value} {B : Nat} {M : κ → Option Value} {ops : Array Oper} {rest : List Oper} {o : Oper} {a : Act} {Q : Exit → Act → World → Prop}
    (hg : o.guard = none) (m x : Operand) (t K : TypeId) (hop : o.op = Op.call { callee := Callee.builtin Builtin.delete, args := #[m, x], argTypes := #[t, K] }) (E : TypeId) (L : Law2 P enc t K E z w) (h : Mp enc w B M) (k : κ)
    (hm : a.eval m = .map (some B)) (hx : a.eval x = enc k)
    (hK : ∀ w', Mp enc w' B (fun k' => if k' = k then none else M k') → But B w w' → wpList P ops Q rest (a.put o.dst (.tuple #[])) w') :
    wpList P ops Q (o :: rest) a w := by
  refine wpList_plain hg fun K' hK' => ?_
  obtain ⟨w', hrun, r1, r2⟩ := h.drop L k o.type
  unfold Oper.wp
  simp [execOp, hop, resolve, invoke, builtin, hm, hx, hrun, Result.andThen]
  exact hK' _ _ (hK w' r1 r2)
end
theorem now_str (k : ByteArray) : ∀ (es : List MapEntry) (l : List (ByteArray × Value)) (i : Nat), es.map (fun e => (e.key, e.val)) = l.map (fun e => (Value.string e.1, e.2)) → Instr.findNow .string (.string k) es i = some (seek k l i)
  | [], [], _, _ => rfl
  | [], _ :: _, _, h => by simp at h
  | _ :: _, [], _, h => by simp at h
  | e :: es, x :: l, i, h => by
    simp only [List.map_cons, List.cons.injEq, Prod.mk.injEq] at h
    obtain ⟨⟨h1, h2⟩, h3⟩ := h
    have ih := now_str k es l (i + 1) h3
    unfold Instr.findNow seek
    rw [h1]
    simp only [Instr.sameNow]
    by_cases hk : k = x.1
    · have hb : (k == x.1) = true := (bytes_beq _ _).2 hk
      rw [hb, if_pos hk, h2]
    · have hb : (k == x.1) = false := by
        rw [← Bool.not_eq_true]
        exact fun h => hk ((bytes_beq _ _).1 h)
      rw [hb, if_neg hk]
      exact ih
theorem law_str {P : Program} {t K E : TypeId} {z : Value} {w : World} (ht : P.underlying t = some (.map K E)) (hk : P.underlying K = some .string) (hz : (zeroValue E).run P w = .ok z w) : Law2 P Value.string t K E z w := by
  refine ⟨ht, fun em k => ?_, fun k es l h => ?_, fun k => ?_, hz⟩
  · show (Instr.checkKey em (9999 + 1) K (.string k)).run P w = _
    unfold Instr.checkKey
    simp only [Sem.run_bind, run_underlying hk, Result.andThen]
    rfl
  · simp [Instr.findKey, run_underlying hk, now_str k es l 0 h]
  · have h : Instr.sameBits 10000 (.string k) (.string k) = true := by
      show Instr.sameBits (9999 + 1) (.string k) (.string k) = true
      unfold Instr.sameBits
      exact (bytes_beq _ _).2 rfl
    simp only [Instr.keyThatStays, h, if_true]
    rfl
end Go.Proofs.Ytkmclgofghaeoaa.SMap
