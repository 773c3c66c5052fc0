/-
  A walk through a tree that keeps its path: what is known of the path and of what has been measured; each step keeps it, and there are no more steps than twice the nodes. Plain mathematics.
  The map from pointers to nodes to extents: its laws in every world that has kept the nodes.
  The nodes of a world, as a graph.
-/
import Derived.Test.YtdohpppkdecbdaaGreatDoorBSoft
import Derived.Test.YtdohpppkdecbdaaGreatDoorBTexts
import Derived.Test.YtdohpppkdecbdaaGreatDoorBTreeOk
namespace Go.Proofs.YtdohpppkdecbdaaGreatDoor.Dfs
open Tree
theorem sizes_drop (ks : List E) (i : Nat) (h : i < ks.length) : sizes (ks.drop i) = size ks[i] + sizes (ks.drop (i + 1)) := by
  rw [List.drop_eq_getElem_cons h, sizes]
theorem size_mk (e : E) : size e = sizes e.kids + 1 := by cases e with | mk k t n ns ks => rw [size]; rfl
theorem depth_mk (e : E) : depth e = depths e.kids + 1 := by cases e with | mk k t n ns ks => rw [depth]; rfl
theorem size_pos (e : E) : 0 < size e := by rw [size_mk]; omega
theorem kid_lt (e : E) (i : Nat) (h : i < e.kids.length) : size e.kids[i] < size e := by
  have := size_kid e.kids i h
  rw [size_mk e]; omega
def ext (e : E) : Value := .agg #[.int .i64 (size e), .int .i64 (depth e)]
section
variable {A : Type} (N : A → Prop) (T : A → E) (kid : A → Nat → A) (root : A) (M : A → Option Value)
def Done (x : A) : Prop := N x ∧ M x = some (ext (T x))
def Rest : A → List (A × Nat) → Prop
  | c, [] => c = root
  | c, (a, i) :: q => N a ∧ i < (T a).kids.length ∧ c = kid a i ∧ (∀ k, k < i → Done N T M (kid a k)) ∧ Rest a q
def Inv (q : List (A × Nat)) : Prop :=
  (∀ x v, M x = some v → Done N T M x ∨ ∃ i, (x, i) ∈ q) ∧
  match q with
  | [] => Done N T M root
  | (a, i) :: q => N a ∧ i ≤ (T a).kids.length ∧ (∀ k, k < i → Done N T M (kid a k)) ∧ ∃ p, Rest N T kid root M a p ∧ q = p.map fun x => (x.1, x.2 + 1)
def mu : List (A × Nat) → Nat
  | [] => 0
  | (a, i) :: q => 1 + 2 * sizes ((T a).kids.drop i) + mu q
variable {N T kid root M}
def Kids (N : A → Prop) (T : A → E) (kid : A → Nat → A) : Prop := ∀ a i, N a → i < (T a).kids.length → N (kid a i) ∧ T (kid a i) = (T a).kids[i]!
theorem kid_size (H : Kids N T kid) {a : A} {i : Nat} (ha : N a) (hi : i < (T a).kids.length) : size (T (kid a i)) < size (T a) := by
  rw [(H a i ha hi).2, getElem!_pos _ i hi]
  exact kid_lt _ _ hi
theorem rest_size (H : Kids N T kid) : ∀ (q : List (A × Nat)) (c : A), Rest N T kid root M c q → size (T c) + q.length ≤ size (T root) ∧ ∀ x ∈ q, size (T c) < size (T x.1)
  | [], c, h => by
    have h' : c = root := h
    subst h'
    exact ⟨by simp, fun x hx => by cases hx⟩
  | (a, i) :: q, c, h => by
    obtain ⟨h1, h2, rfl, _, h5⟩ := h
    have h6 := kid_size H h1 h2
    obtain ⟨h7, h8⟩ := rest_size H q a h5
    refine ⟨by simp; omega, fun x hx => ?_⟩
    rcases List.mem_cons.1 hx with rfl | hx
    · exact h6
    · have := h8 x hx; omega
theorem inv_len (H : Kids N T kid) {a : A} {i : Nat} {q : List (A × Nat)} (h : Inv N T kid root M ((a, i) :: q)) : q.length + 1 ≤ size (T root) := by
  obtain ⟨_, h1, h2, h3, p, h4, rfl⟩ := h
  have := (rest_size H p a h4).1
  have := size_pos (T a)
  simp; omega
theorem inv_size (H : Kids N T kid) {a : A} {i : Nat} {q : List (A × Nat)} (h : Inv N T kid root M ((a, i) :: q)) : size (T a) ≤ size (T root) := by
  obtain ⟨_, h1, h2, h3, p, h4, rfl⟩ := h
  have := (rest_size H p a h4).1
  omega
theorem done_put [DecidableEq A] {x c : A} {v : Value} (hv : x = c → N c → v = ext (T c)) (h : Done N T M x) : Done N T (fun y => if y = c then some v else M y) x := by
  refine ⟨h.1, ?_⟩
  by_cases e : x = c
  · subst e; simp [hv rfl h.1]
  · simp [e, h.2]
theorem rest_mono {M' : A → Option Value} (hm : ∀ x, Done N T M x → Done N T M' x) : ∀ (q : List (A × Nat)) (c : A), Rest N T kid root M c q → Rest N T kid root M' c q
  | [], _, h => h
  | (a, _) :: q, _, h => ⟨h.1, h.2.1, h.2.2.1, fun k hk => hm _ (h.2.2.2.1 k hk), rest_mono hm q a h.2.2.2.2⟩
theorem inv_start [DecidableEq A] {v : Value} (hN : N root) (hM : M = fun y => if y = root then some v else none) : Inv N T kid root M [(root, 0)] := by
  subst hM
  refine ⟨fun x v hx => ?_, hN, Nat.zero_le _, fun k hk => by omega, [], rfl, rfl⟩
  by_cases e : x = root
  · subst e; exact .inr ⟨0, by simp⟩
  · simp [e] at hx
theorem inv_pop [DecidableEq A] {a : A} {i : Nat} {q : List (A × Nat)} (h : Inv N T kid root M ((a, i) :: q)) (hi : i = (T a).kids.length) :
    (∀ k, k < (T a).kids.length → M (kid a k) = some (ext (T (kid a k)))) ∧ Inv N T kid root (fun y => if y = a then some (ext (T a)) else M y) q ∧ mu T q < mu T ((a, i) :: q) := by
  obtain ⟨h0, h1, h2, h3, p, h4, rfl⟩ := h
  refine ⟨fun k hk => (h3 k (by omega)).2, ⟨fun x v hx => ?_, ?_⟩, by simp only [mu]; omega⟩
  · by_cases e : x = a
    · subst e; exact .inl ⟨h1, by simp⟩
    · simp only [e, if_false] at hx
      rcases h0 x v hx with hd | ⟨j, hj⟩
      · exact .inl (done_put (fun _ _ => rfl) hd)
      · rcases List.mem_cons.1 hj with hj | hj
        · cases hj; exact absurd rfl e
        · exact .inr ⟨j, hj⟩
  · have hdone : ∀ x, Done N T M x → Done N T (fun y => if y = a then some (ext (T a)) else M y) x := fun x hx => done_put (fun _ _ => rfl) hx
    cases p with
    | nil =>
      have h4' : a = root := h4
      subst h4'
      exact ⟨h1, by simp⟩
    | cons y p =>
      obtain ⟨b, j⟩ := y
      obtain ⟨g1, g2, g3, g4, g5⟩ := h4
      refine ⟨g1, g2, fun k hk => ?_, p, rest_mono hdone p b g5, rfl⟩
      by_cases e : k = j
      · subst e; rw [← g3]; exact ⟨h1, by simp⟩
      · exact hdone _ (g4 k (by omega))
theorem inv_push [DecidableEq A] (H : Kids N T kid) {a : A} {i : Nat} {q : List (A × Nat)} {v : Value} (h : Inv N T kid root M ((a, i) :: q)) (hi : i < (T a).kids.length) (hM : M (kid a i) = none) :
    Inv N T kid root (fun y => if y = kid a i then some v else M y) ((kid a i, 0) :: (a, i + 1) :: q) ∧ mu T ((kid a i, 0) :: (a, i + 1) :: q) < mu T ((a, i) :: q) := by
  obtain ⟨h0, h1, h2, h3, p, h4, rfl⟩ := h
  obtain ⟨k1, k2⟩ := H a i h1 hi
  have hdone : ∀ x, Done N T M x → Done N T (fun y => if y = kid a i then some v else M y) x := fun x hx => by
    have : x ≠ kid a i := fun e => by subst e; have h9 := hx.2; rw [hM] at h9; cases h9
    exact ⟨hx.1, by simp [this, hx.2]⟩
  refine ⟨⟨fun x u hx => ?_, k1, Nat.zero_le _, fun k hk => by omega, (a, i) :: p, ⟨h1, hi, rfl, fun k hk => hdone _ (h3 k hk), rest_mono hdone p a h4⟩, by simp⟩, ?_⟩
  · by_cases e : x = kid a i
    · subst e; exact .inr ⟨0, by simp⟩
    · simp only [e, if_false] at hx
      rcases h0 x u hx with hd | ⟨j, hj⟩
      · exact .inl (hdone _ hd)
      · rcases List.mem_cons.1 hj with hj | hj
        · cases hj; exact .inr ⟨i + 1, by simp⟩
        · exact .inr ⟨j, by simp [hj]⟩
  · simp only [mu, k2, List.drop_zero]
    rw [sizes_drop _ i hi, getElem!_pos _ i hi, size_mk (T a).kids[i]]
    omega
theorem inv_skip (H : Kids N T kid) {a : A} {i : Nat} {q : List (A × Nat)} {v : Value} (h : Inv N T kid root M ((a, i) :: q)) (hi : i < (T a).kids.length) (hM : M (kid a i) = some v) :
    v = ext (T (kid a i)) ∧ Inv N T kid root M ((a, i + 1) :: q) ∧ mu T ((a, i + 1) :: q) < mu T ((a, i) :: q) := by
  obtain ⟨h0, h1, h2, h3, p, h4, rfl⟩ := h
  have hs := kid_size H h1 hi
  have hd : Done N T M (kid a i) := by
    rcases h0 _ v hM with hd | ⟨j, hj⟩
    · exact hd
    · rcases List.mem_cons.1 hj with hj | hj
      · simp only [Prod.mk.injEq] at hj; rw [hj.1] at hs; omega
      · obtain ⟨y, hy, hyj⟩ := List.mem_map.1 hj
        have := (rest_size H p a h4).2 y hy
        simp only [Prod.mk.injEq] at hyj
        rw [hyj.1] at this
        omega
  refine ⟨by have h9 := hd.2; rw [hM] at h9; exact Option.some.inj h9, ⟨fun x u hx => ?_, h1, hi, fun k hk => ?_, p, h4, rfl⟩, ?_⟩
  · rcases h0 x u hx with hd | ⟨j, hj⟩
    · exact .inl hd
    · rcases List.mem_cons.1 hj with hj | hj
      · cases hj; exact .inr ⟨i + 1, by simp⟩
      · exact .inr ⟨j, by simp [hj]⟩
  · by_cases e : k = i
    · subst e; exact hd
    · exact h3 k (by omega)
  · simp only [mu]
    rw [sizes_drop _ i hi]
    have := size_pos (T a).kids[i]
    omega
end
end Go.Proofs.YtdohpppkdecbdaaGreatDoor.Dfs

namespace Go.Proofs.YtdohpppkdecbdaaGreatDoor.PtrMap
open Go.RowKit
open Strs Tree PMap Soft
def encP (a : Addr) : Value := .pointer (some a)
theorem infoE : (Tryz.prog.info? 44).map (fun i => i.size) = some 5 := by kernel_rfl
theorem zeroX (w : World) : (zeroValue 113).run Tryz.prog w = .ok (.agg #[.int .i64 0, .int .i64 0]) w := by kernel_rfl
theorem law {w0 w : World} (hb : Below w0.heap.size w0 w) : Law Tryz.prog encP (Fine w0) 121 120 113 (.agg #[.int .i64 0, .int .i64 0]) w := by
  refine ⟨Tryz.underlying121, ⟨_, Tryz.underlying120, fun a b => rfl⟩, fun em k _ => ?_, fun k k' hk hk' => ?_, fun k _ => ?_, zeroX w⟩
  · show (Instr.checkKey em (9999 + 1) 120 (.pointer (some k))).run Tryz.prog w = _
    unfold Instr.checkKey
    simp only [Sem.run_bind, run_underlying Tryz.underlying120, Result.andThen]
    rfl
  · obtain ⟨i, hi, hz⟩ := Option.map_eq_some_iff.1 infoE
    exact equal_ptr Tryz.underlying120 hi (by rw [hz]; decide) (hk.keep hb) (hk'.keep hb) 9999
  · have h : Instr.sameBits 10000 (encP k) (encP k) = true := by
      show (some k == some k) = true
      simp
    simp only [Instr.keyThatStays, h, if_true]
    rfl
end Go.Proofs.YtdohpppkdecbdaaGreatDoor.PtrMap

namespace Go.Proofs.YtdohpppkdecbdaaGreatDoor.ImplMeas
open Go.RowKit
open Strs Tree PMap Soft Dfs
def N0 (w : World) (x : Addr) : Prop := ∃ e, Nd w x e
theorem nd_tree {w : World} {x : Addr} (h : N0 w x) : Nd w x (treeAt w x) := by
  obtain ⟨e, he⟩ := h
  rw [he.tree]; exact he
theorem kids0 (w : World) : Dfs.Kids (N0 w) (treeAt w) (kid w) := by
  intro a i ha hi
  have h := (nd_tree ha).kid_is hi
  exact ⟨⟨_, h⟩, by rw [h.tree, getElem!_pos _ i hi]⟩
theorem two_cells (w : World) (u v : Value) (t : TypeId) : ∀ (j : Nat) (x : Value), [u, v][j]? = some x → (w.alloc (.cells #[u, v] t)).cell? ((⟨w.heap.size, 0, none⟩ : Addr).add j) = some x := by
  intro j x hj
  match j, hj with
  | 0, hj => simp at hj; subst hj; simp [Addr.add]
  | 1, hj => simp at hj; subst hj; simp [Addr.add]
end Go.Proofs.YtdohpppkdecbdaaGreatDoor.ImplMeas
