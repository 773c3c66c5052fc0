/-
  Rows of numbers: reading, and append of numbers from any row to a row of the call's own.
-/
import Derived.Test.YtekeondbbikkpaaGreatBOutRow
namespace Go.Proofs.YtekeondbbikkpaaGreat.Ints
open Go.RowKit
open Strs Tree Go.Proofs.YtekeondbbikkpaaGreat.Data
def NAt (w : World) (v : Value) (xs : List Int) : Prop :=
  ∃ a cap, v = .slice a xs.length cap ∧ (xs.length ≤ cap ∧ cap ≤ maxLen) ∧ (0 < xs.length → ∃ b off, a = some ⟨b, off, none⟩ ∧ ∀ j x, xs[j]? = some x → w.cell? ⟨b, off + j, none⟩ = some (.int .i64 x))
theorem NAt.below {w w' : World} {v : Value} {xs : List Int} (h : NAt w v xs) (hb : Below w.heap.size w w') : NAt w' v xs := by
  obtain ⟨a, cap, rfl, hm, hc⟩ := h
  refine ⟨a, cap, rfl, hm, fun hp => ?_⟩
  obtain ⟨b, off, rfl, hd⟩ := hc hp
  exact ⟨b, off, rfl, fun j x hj => cell_keep hb (hd j x hj)⟩
theorem NAt.at {w : World} {a : Option Addr} {n c : Nat} {xs : List Int} (h : NAt w (.slice a n c) xs) {i : Nat} {x : Int} (hi : xs[i]? = some x) : ∃ b off, a = some ⟨b, off, none⟩ ∧ w.cell? ⟨b, off + i, none⟩ = some (.int .i64 x) := by
  obtain ⟨a', c', e, hc, h⟩ := h
  cases e
  have := (List.getElem?_eq_some_iff.1 hi).1
  obtain ⟨b, o, rfl, h'⟩ := h (by omega)
  exact ⟨b, o, rfl, h' i x hi⟩
theorem nat_own {w : World} {base : Nat} {T : TypeId} {v : Value} {xs : List Int} (h : w.ownsRow base T 1 v xs.length (xs.map (Value.int .i64))) : NAt w v xs := by
  have h' := h
  obtain ⟨_, ⟨rfl, hn⟩ | ⟨g, cap, cur, rfl, hbg, hg, hnc, hcm, _, _⟩⟩ := h
  · exact ⟨none, 0, by rw [hn], by rw [hn]; exact ⟨Nat.le_refl _, by unfold maxLen; omega⟩, fun hp => by omega⟩
  · refine ⟨_, cap, rfl, ⟨hnc, hcm⟩, fun hp => ⟨g, 0, rfl, fun j x hj => ?_⟩⟩
    have hl := (List.getElem?_eq_some_iff.1 hj).1
    rw [Nat.zero_add, h'.cellAt j (by omega)]
    rw [List.getElem?_map, hj]; rfl
theorem infoN : (Tryz.prog.info? 3).map (fun i => (i.zero, i.size, i.bytes)) = some (some (.int .i64 0), 1, 8) := by kernel_rfl
theorem wpList_append_ints {w : World} {ops : Array Oper} {rest : List Oper} {o : Oper} {a : Act} {Q : Exit → Act → World → Prop} (hgd : o.guard = none) (s x : Operand)
    (ho : o.op = .call { callee := .builtin .append, args := #[s, x], argTypes := #[80, 80] })
    (base : Nat) (v : Value) (xs : List Int) (hs : a.eval s = v) (hown : w.ownsRow base 3 1 v xs.length (xs.map (Value.int .i64)))
    (b of c : Nat) (ys : List Int) (hx : a.eval x = .slice (some ⟨b, of, none⟩) ys.length c) (hy : ∀ j y, ys[j]? = some y → w.cell? ⟨b, of + j, none⟩ = some (.int .i64 y)) (hbytes : xs.length + ys.length ≤ 4398046511104) (hbase : base ≤ w.heap.size)
    (h : ∀ v' w', w'.ownsRow base 3 1 v' (xs ++ ys).length ((xs ++ ys).map (Value.int .i64)) → Below base w w' → wpList Tryz.prog ops Q rest (a.put o.dst v') w') : wpList Tryz.prog ops Q (o :: rest) a w := by
  obtain ⟨i0, hi, hz0, hz1, hz2⟩ := info_parts infoN
  refine wpList_append_own _ hgd s x 80 ho base 3 i0 (.int .i64 0) 1 8 Tryz.underlying80 hi hz0 hz1 hz2 rfl (by decide) v xs.length _ hs hown ⟨b, of, none⟩ ys.length c (ys.map (Value.int .i64)) hx (by simp) (fun j u hj => ?_) (fun u hu => ?_) (by unfold maxLen; omega) (by omega) hbase ?_
  · have hl := (List.getElem?_eq_some_iff.1 hj).1
    have hv := (List.getElem?_eq_some_iff.1 hj).2
    rw [List.length_map] at hl
    rw [List.getElem_map] at hv
    rw [add_at, hy j _ (List.getElem?_eq_getElem hl), hv]
  · obtain ⟨y, _, rfl⟩ := List.mem_map.1 hu
    rfl
  · intro v' w' hown' hgr _
    exact h v' w' (by rw [List.length_append, List.map_append]; exact hown') ((Below.refl _ _).grown hgr hbase (fun k hk => (hown.lt k hk).1))
end Go.Proofs.YtekeondbbikkpaaGreat.Ints
