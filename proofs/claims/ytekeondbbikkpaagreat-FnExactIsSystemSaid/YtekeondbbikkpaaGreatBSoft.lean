/-
  Trees whose nodes lie in blocks of which no cell is frozen; a pointer to a node of one; which tree that is, and where its kids lie.
-/
import Derived.Test.YtekeondbbikkpaaGreatBPMap
import Derived.Test.YtekeondbbikkpaaGreatBTreeOk
namespace Go.Proofs.YtekeondbbikkpaaGreat.Soft
open Go.RowKit
open Strs Tree PMap
mutual
def Soft (lo : Nat) (w : World) : E → Value → Prop
  | .mk _ _ _ _ ks, vk => ∃ a cap, vk = .slice a ks.length cap ∧ (0 < ks.length → ∃ b off, a = some ⟨b, off, none⟩ ∧ lo ≤ b ∧ (∀ o, w.frozen? ⟨b, o, none⟩ = false) ∧ SoftRow lo w b ks off)
def SoftRow (lo : Nat) (w : World) (b : Nat) : List E → Nat → Prop
  | [], _ => True
  | e :: es, o => (∃ vk, w.cell? ⟨b, o + 4, none⟩ = some vk ∧ Soft lo w e vk) ∧ SoftRow lo w b es (o + 5)
end
def SoftKids (lo : Nat) (w : World) (ks : List E) (vk : Value) : Prop :=
  ∃ a cap, vk = .slice a ks.length cap ∧ (0 < ks.length → ∃ b off, a = some ⟨b, off, none⟩ ∧ lo ≤ b ∧ (∀ o, w.frozen? ⟨b, o, none⟩ = false) ∧ SoftRow lo w b ks off)
theorem soft_iff {lo : Nat} {w : World} {e : E} {vk : Value} : Soft lo w e vk ↔ SoftKids lo w e.kids vk := by
  cases e with
  | mk k t n ns ks => rw [Soft]; exact Iff.rfl
theorem softrow_iff {lo : Nat} {w : World} {b : Nat} (ks : List E) (o : Nat) : SoftRow lo w b ks o ↔ ∀ i (h : i < ks.length), ∃ vk, w.cell? ⟨b, o + i * 5 + 4, none⟩ = some vk ∧ Soft lo w ks[i] vk := by
  induction ks generalizing o with
  | nil => simp [SoftRow]
  | cons e es ih =>
    rw [SoftRow, ih]
    constructor
    · rintro ⟨h0, h1⟩ i hi
      cases i with
      | zero => rw [show o + 0 * 5 + 4 = o + 4 by omega]; exact h0
      | succ i =>
        have := h1 i (by simpa using hi)
        rw [show o + (i + 1) * 5 + 4 = o + 5 + i * 5 + 4 by omega]
        simpa using this
    · intro h
      refine ⟨?_, fun i hi => ?_⟩
      · have h0 := h 0 (by simp)
        rw [show o + 0 * 5 + 4 = o + 4 by omega] at h0
        exact h0
      have := h (i + 1) (by simpa using hi)
      rw [show o + (i + 1) * 5 + 4 = o + 5 + i * 5 + 4 by omega] at this
      simpa using this
def KeptF (lo : Nat) (w w' : World) : Prop := Kept lo w w' ∧ ∀ b o, lo ≤ b → (∃ o' v, w.cell? ⟨b, o', none⟩ = some v) → w.frozen? ⟨b, o, none⟩ = false → w'.frozen? ⟨b, o, none⟩ = false
theorem keptF_below {lo : Nat} {w w' : World} (h : Below w.heap.size w w') : KeptF lo w w' :=
  ⟨kept_below h, fun b o _ ⟨_, _, hc⟩ hf => (h.frozen (p := ⟨b, o, none⟩) (show b < _ from cell_lt hc)).trans hf⟩
theorem KeptF.trans {lo : Nat} {w w' w'' : World} (h : KeptF lo w w') (h' : KeptF lo w' w'') : KeptF lo w w'' :=
  ⟨h.1.trans h'.1, fun b o hb ⟨o', v, hc⟩ hf => h'.2 b o hb ⟨o', v, h.1 _ _ _ hb hc⟩ (h.2 b o hb ⟨o', v, hc⟩ hf)⟩
theorem keptF_set {lo : Nat} (w : World) (a : Addr) (v : Value) (h : a.block < lo) : KeptF lo w (w.setCell a v) :=
  ⟨kept_set w a v h, fun b o _ _ hf => by simpa using hf⟩
theorem Soft.keep {lo hi : Nat} {w w' : World} (hl : lo ≤ hi) (hk : KeptF hi w w') : ∀ e vk, Soft hi w e vk → Soft lo w' e vk := by
  refine ind fun k t n ns ks ih => ?_
  intro vk h
  rw [soft_iff] at h ⊢
  obtain ⟨a, cap, rfl, hc⟩ := h
  refine ⟨a, cap, rfl, fun hp => ?_⟩
  obtain ⟨b, off, rfl, hb, hf, hr⟩ := hc hp
  rw [softrow_iff] at hr
  refine ⟨b, off, rfl, Nat.le_trans hl hb, fun o => ?_, ?_⟩
  · obtain ⟨vk, hc, _⟩ := hr 0 hp
    exact hk.2 b o hb ⟨_, _, hc⟩ (hf o)
  · rw [softrow_iff]
    intro i hi
    obtain ⟨vk, hc, hs⟩ := hr i hi
    exact ⟨vk, hk.1 _ _ _ hb hc, ih _ (List.getElem_mem _) _ hs⟩
theorem SoftKids.keep {lo hi : Nat} {w w' : World} {ks : List E} {vk : Value} (h : SoftKids hi w ks vk) (hl : lo ≤ hi) (hk : KeptF hi w w') : SoftKids lo w' ks vk := by
  have := Soft.keep hl hk (.mk 0 ByteArray.empty 0 [] ks) vk (soft_iff.2 h)
  exact soft_iff.1 this
def Nd (w : World) (a : Addr) (e : E) : Prop :=
  a.spot = none ∧ (∀ o, w.frozen? ⟨a.block, o, none⟩ = false) ∧ ∃ vn vk, w.cell? ⟨a.block, a.off, none⟩ = some (.int .i64 e.kind) ∧ w.cell? ⟨a.block, a.off + 1, none⟩ = some (.string e.text) ∧ w.cell? ⟨a.block, a.off + 2, none⟩ = some (.int .i64 e.num) ∧
    w.cell? ⟨a.block, a.off + 3, none⟩ = some vn ∧ w.cell? ⟨a.block, a.off + 4, none⟩ = some vk ∧ NodeAt 0 w e vn vk ∧ Soft 0 w e vk
theorem Nd.fine {w : World} {a : Addr} {e : E} (h : Nd w a e) : Fine w a := by
  obtain ⟨b, o, s⟩ := a
  obtain ⟨h1, h2, vn, vk, h3, _⟩ := h
  simp only at h1
  subst h1
  exact ⟨rfl, ⟨_, h3⟩, h2⟩
theorem Nd.keep {w w' : World} {a : Addr} {e : E} (h : Nd w a e) (hb : Below w.heap.size w w') : Nd w' a e := by
  obtain ⟨h1, h2, vn, vk, c0, c1, c2, c3, c4, hn, hs⟩ := h
  exact ⟨h1, fun o => (hb.frozen (p := ⟨a.block, o, none⟩) (show a.block < _ from cell_lt (a := ⟨a.block, a.off, none⟩) c0)).trans (h2 o), vn, vk, cell_keep hb c0, cell_keep hb c1, cell_keep hb c2, cell_keep hb c3, cell_keep hb c4, hn.below hb, Soft.keep (Nat.le_refl _) (keptF_below hb) _ _ hs⟩
def kid (w : World) (a : Addr) (i : Nat) : Addr :=
  match w.cell? ⟨a.block, a.off + 4, none⟩ with
  | some (.slice (some x) _ _) => ⟨x.block, x.off + i * 5, none⟩
  | _ => a
theorem Nd.kid_is {w : World} {a : Addr} {e : E} (h : Nd w a e) {i : Nat} (hi : i < e.kids.length) : Nd w (kid w a i) e.kids[i] := by
  obtain ⟨h1, h2, vn, vk, c0, c1, c2, c3, c4, hn, hs⟩ := h
  obtain ⟨-, -, -, -, x, cap, rfl, -, hc⟩ := node_iff.1 hn
  obtain ⟨b, off, rfl, -, hr⟩ := hc (by omega)
  obtain ⟨x', cap', he, hc'⟩ := soft_iff.1 hs
  cases he
  obtain ⟨b', off', hx, -, hf, hr'⟩ := hc' (by omega)
  cases hx
  obtain ⟨wn, wk, d0, d1, d2, d3, d4, hm⟩ := (row_iff _ _).1 hr i hi
  obtain ⟨wk', d4', hs'⟩ := (softrow_iff _ _).1 hr' i hi
  rw [d4] at d4'
  cases d4'
  unfold kid
  rw [c4]
  exact ⟨rfl, hf, wn, wk, d0, d1, d2, d3, d4, hm, hs'⟩
theorem Nd.see {w : World} {a : Addr} {e : E} (h : Nd w a e) : ∃ b o vn x cap, a = ⟨b, o, none⟩ ∧ w.cell? ⟨b, o, none⟩ = some (.int .i64 e.kind) ∧ w.cell? ⟨b, o + 1, none⟩ = some (.string e.text) ∧ w.cell? ⟨b, o + 2, none⟩ = some (.int .i64 e.num) ∧
    w.cell? ⟨b, o + 3, none⟩ = some vn ∧ w.cell? ⟨b, o + 4, none⟩ = some (.slice x e.kids.length cap) ∧ e.kids.length ≤ cap ∧ cap ≤ maxLen ∧ Texts 0 w e.names vn ∧ e.text.size ≤ maxLen ∧ (Lit.int .i64 e.kind).wf = true ∧ (Lit.int .i64 e.num).wf = true ∧
    ∀ i, i < e.kids.length → ∃ kb ko, x = some ⟨kb, ko, none⟩ ∧ kid w a i = ⟨kb, ko + i * 5, none⟩ := by
  obtain ⟨b, o, s⟩ := a
  obtain ⟨h1, h2, vn, vk, c0, c1, c2, c3, c4, hn, hs⟩ := h
  simp only at h1 c0 c1 c2 c3 c4
  subst h1
  obtain ⟨n1, n2, n3, n4, x, cap, rfl, hm, hc⟩ := node_iff.1 hn
  refine ⟨b, o, vn, x, cap, rfl, c0, c1, c2, c3, c4, hm.1, hm.2, n4, n3, n1, n2, fun i hi => ?_⟩
  obtain ⟨kb, ko, rfl, -, -⟩ := hc (by omega)
  refine ⟨kb, ko, rfl, ?_⟩
  unfold kid
  rw [c4]
theorem texts_one {lo lo' : Nat} {w : World} {xs ys : List ByteArray} {v : Value} (h : Texts lo w xs v) (h' : Texts lo' w ys v) : xs = ys := by
  obtain ⟨a, cap, rfl, -, -, hc⟩ := h
  obtain ⟨a', cap', he, -, -, hc'⟩ := h'
  simp only [Value.slice.injEq] at he
  obtain ⟨rfl, hl, rfl⟩ := he
  apply List.ext_getElem hl
  intro i h1 h2
  obtain ⟨b, off, rfl, -, hd⟩ := hc (by omega)
  obtain ⟨b', off', hx, -, hd'⟩ := hc' (by omega)
  cases hx
  have e1 := hd i h1
  have e2 := hd' i h2
  rw [e1] at e2
  injection e2 with e3
  injection e3
theorem Nd.one {w : World} : ∀ (e : E) {a : Addr} {e' : E}, Nd w a e → Nd w a e' → e = e' := by
  refine ind fun k t n ns ks ih => ?_
  intro a e' h h'
  have hk := fun i => h.kid_is (i := i)
  have hk' := fun i => h'.kid_is (i := i)
  obtain ⟨-, -, vn, vk, c0, c1, c2, c3, c4, hn, -⟩ := h
  obtain ⟨-, -, vn', vk', c0', c1', c2', c3', c4', hn', -⟩ := h'
  obtain ⟨k', t', n', ns', ks'⟩ := e'
  simp only [E.kind, E.text, E.num, E.kids] at *
  rw [c0] at c0'; rw [c1] at c1'; rw [c2] at c2'; rw [c3] at c3'; rw [c4] at c4'
  cases c0'; cases c1'; cases c2'; cases c3'; cases c4'
  obtain ⟨-, -, -, hx, y, cap, rfl, -, -⟩ := node_iff.1 hn
  obtain ⟨-, -, -, hx', y', cap', he, -, -⟩ := node_iff.1 hn'
  obtain rfl := texts_one hx hx'
  simp only [Value.slice.injEq] at he
  obtain ⟨rfl, hl, rfl⟩ := he
  simp only [E.kids, E.names] at *
  congr 1
  apply List.ext_getElem hl
  intro i h1 h2
  exact ih _ (List.getElem_mem h1) (hk i h1) (hk' i h2)
noncomputable def treeAt (w : World) (a : Addr) : E := @dite _ (∃ e, Nd w a e) (Classical.propDecidable _) (fun h => h.choose) (fun _ => default)
theorem Nd.tree {w : World} {a : Addr} {e : E} (h : Nd w a e) : treeAt w a = e := by
  unfold treeAt
  rw [dif_pos ⟨e, h⟩]
  exact Nd.one _ (Exists.choose_spec (⟨e, h⟩ : ∃ e, Nd w a e)) h
theorem node_box {w : World} {lo : Nat} {e : E} {vn vk : Value} (hn : NodeAt lo w e vn vk) (hs : Soft lo w e vk) (T : TypeId) :
    Nd (w.alloc (.cells #[.int .i64 e.kind, .string e.text, .int .i64 e.num, vn, vk] T)) ⟨w.heap.size, 0, none⟩ e := by
  have hb : Below w.heap.size w (w.alloc (.cells #[.int .i64 e.kind, .string e.text, .int .i64 e.num, vn, vk] T)) := (Below.refl _ _).alloc (Nat.le_refl _) _
  refine ⟨rfl, fun o => by go_simp, vn, vk, ?_, ?_, ?_, ?_, ?_, NodeAt.keep (Nat.zero_le _) (kept_below hb) _ _ _ hn, Soft.keep (Nat.zero_le _) (keptF_below hb) _ _ hs⟩
  all_goals go_simp
end Go.Proofs.YtekeondbbikkpaaGreat.Soft
