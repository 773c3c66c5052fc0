/-
  Soft TreeBox Dfs Pairs SpecEqual ImplLike PtrMap Nd
-/
import Derived.Test.YtnlgdkfenipmfaaGreatDoorB0
import Derived.Test.YtnlgdkfenipmfaaGreatDoorB7
namespace Go.Proofs.YtnlgdkfenipmfaaGreatDoor.Soft
open Go.RowKit
open Strs Tree PMap
mutual
def Soft (lo : Nat) (w : World) : E -> Value -> Prop
  | .mk _ _ _ _ ks, vk => ∃ a cap, vk = .slice a ks.length cap /\ (0 < ks.length -> ∃ b off, a = some ⟨b, off, none⟩ /\ lo <= b /\ (∀ o, w.frozen? ⟨b, o, none⟩ = false) /\ SoftRow lo w b ks off)
def SoftRow (lo : Nat) (w : World) (b : Nat) : List E -> Nat -> Prop
  | [], _ => True
  | e :: es, o => (∃ vk, w.cell? ⟨b, o + 4, none⟩ = some vk /\ Soft lo w e vk) /\ SoftRow lo w b es (o + 5)
end
def SoftKids (lo : Nat) (w : World) (ks : List E) (vk : Value) : Prop :=
  ∃ a cap, vk = .slice a ks.length cap /\ (0 < ks.length -> ∃ b off, a = some ⟨b, off, none⟩ /\ lo <= b /\ (∀ o, w.frozen? ⟨b, o, none⟩ = false) /\ SoftRow lo w b ks off)
theorem soft_iff {lo : Nat} {w : World} {e : E} {vk : Value} : Soft lo w e vk ↔ SoftKids lo w e.kids vk := by
  cases e with
  | mk k t n ns ks => rw [Soft]; exact Iff.rfl
theorem softrow_iff {lo : Nat} {w : World} {b : Nat} (ks : List E) (o : Nat) : SoftRow lo w b ks o ↔ ∀ i (h : i < ks.length), ∃ vk, w.cell? ⟨b, o + i * 5 + 4, none⟩ = some vk /\ Soft lo w ks[i] vk := by
  induction ks generalizing o with
  | nil => simp [SoftRow]
  | cons e es ih =>
    rw [SoftRow, ih]
    constructor
    · rintro ⟨h0, h1⟩ i hi
      cases i with
      | zero => rw [show o + 0 * 5 + 4 = o + 4 by omega]; exact h0
      | succ i =>
        have := h1 i (by simpa using hi)
        rw [show o + (i + 1) * 5 + 4 = o + 5 + i * 5 + 4 by omega]
        simpa using this
    · intro h
      refine ⟨?_, fun i hi => ?_⟩
      · have h0 := h 0 (by simp)
        rw [show o + 0 * 5 + 4 = o + 4 by omega] at h0
        exact h0
      have := h (i + 1) (by simpa using hi)
      rw [show o + (i + 1) * 5 + 4 = o + 5 + i * 5 + 4 by omega] at this
      simpa using this
def KeptF (lo : Nat) (w w' : World) : Prop := Kept lo w w' /\ ∀ b o, lo <= b -> (∃ o' v, w.cell? ⟨b, o', none⟩ = some v) -> w.frozen? ⟨b, o, none⟩ = false -> w'.frozen? ⟨b, o, none⟩ = false
theorem keptF_below {lo : Nat} {w w' : World} (h : Below w.heap.size w w') : KeptF lo w w' :=
  ⟨kept_below h, fun b o _ ⟨_, _, hc⟩ hf => (h.frozen (p := ⟨b, o, none⟩) (show b < _ from cell_lt hc)).trans hf⟩
theorem KeptF.trans {lo : Nat} {w w' w'' : World} (h : KeptF lo w w') (h' : KeptF lo w' w'') : KeptF lo w w'' :=
  ⟨h.1.trans h'.1, fun b o hb ⟨o', v, hc⟩ hf => h'.2 b o hb ⟨o', v, h.1 _ _ _ hb hc⟩ (h.2 b o hb ⟨o', v, hc⟩ hf)⟩
theorem Soft.keep {lo hi : Nat} {w w' : World} (hl : lo <= hi) (hk : KeptF hi w w') : ∀ e vk, Soft hi w e vk -> Soft lo w' e vk := by
  refine ind fun k t n ns ks ih => ?_
  intro vk h
  rw [soft_iff] at h ⊢
  obtain ⟨a, cap, rfl, hc⟩ := h
  refine ⟨a, cap, rfl, fun hp => ?_⟩
  obtain ⟨b, off, rfl, hb, hf, hr⟩ := hc hp
  rw [softrow_iff] at hr
  refine ⟨b, off, rfl, Nat.le_trans hl hb, fun o => ?_, ?_⟩
  · obtain ⟨vk, hc, _⟩ := hr 0 hp
    exact hk.2 b o hb ⟨_, _, hc⟩ (hf o)
  · rw [softrow_iff]
    intro i hi
    obtain ⟨vk, hc, hs⟩ := hr i hi
    exact ⟨vk, hk.1 _ _ _ hb hc, ih _ (List.getElem_mem _) _ hs⟩
theorem SoftKids.keep {lo hi : Nat} {w w' : World} {ks : List E} {vk : Value} (h : SoftKids hi w ks vk) (hl : lo <= hi) (hk : KeptF hi w w') : SoftKids lo w' ks vk := by
  have := Soft.keep hl hk (.mk 0 ByteArray.empty 0 [] ks) vk (soft_iff.2 h)
  exact soft_iff.1 this
def Nd (w : World) (a : Addr) (e : E) : Prop :=
  a.spot = none /\ (∀ o, w.frozen? ⟨a.block, o, none⟩ = false) /\ ∃ vn vk, w.cell? ⟨a.block, a.off, none⟩ = some (.int .i64 e.kind) /\ w.cell? ⟨a.block, a.off + 1, none⟩ = some (.string e.text) /\ w.cell? ⟨a.block, a.off + 2, none⟩ = some (.int .i64 e.num) /\
    w.cell? ⟨a.block, a.off + 3, none⟩ = some vn /\ w.cell? ⟨a.block, a.off + 4, none⟩ = some vk /\ NodeAt 0 w e vn vk /\ Soft 0 w e vk
theorem Nd.fine {w : World} {a : Addr} {e : E} (h : Nd w a e) : Fine w a := by
  obtain ⟨b, o, s⟩ := a
  obtain ⟨h1, h2, vn, vk, h3, _⟩ := h
  simp only at h1
  subst h1
  exact ⟨rfl, ⟨_, h3⟩, h2⟩
theorem Nd.keep {w w' : World} {a : Addr} {e : E} (h : Nd w a e) (hb : Below w.heap.size w w') : Nd w' a e := by
  obtain ⟨h1, h2, vn, vk, c0, c1, c2, c3, c4, hn, hs⟩ := h
  exact ⟨h1, fun o => (hb.frozen (p := ⟨a.block, o, none⟩) (show a.block < _ from cell_lt (a := ⟨a.block, a.off, none⟩) c0)).trans (h2 o), vn, vk, cell_keep hb c0, cell_keep hb c1, cell_keep hb c2, cell_keep hb c3, cell_keep hb c4, hn.below hb, Soft.keep (zL _) (keptF_below hb) _ _ hs⟩
def kid (w : World) (a : Addr) (i : Nat) : Addr :=
  match w.cell? ⟨a.block, a.off + 4, none⟩ with
  | some (.slice (some x) _ _) => ⟨x.block, x.off + i * 5, none⟩
  | _ => a
theorem Nd.kid_is {w : World} {a : Addr} {e : E} (h : Nd w a e) {i : Nat} (hi : i < e.kids.length) : Nd w (kid w a i) e.kids[i] := by
  obtain ⟨h1, h2, vn, vk, c0, c1, c2, c3, c4, hn, hs⟩ := h
  obtain ⟨-, -, -, -, x, cap, rfl, -, hc⟩ := zat.1 hn
  obtain ⟨b, off, rfl, -, hr⟩ := hc (by omega)
  obtain ⟨x', cap', he, hc'⟩ := soft_iff.1 hs
  cases he
  obtain ⟨b', off', hx, -, hf, hr'⟩ := hc' (by omega)
  cases hx
  obtain ⟨wn, wk, d0, d1, d2, d3, d4, hm⟩ := (row_iff _ _).1 hr i hi
  obtain ⟨wk', d4', hs'⟩ := (softrow_iff _ _).1 hr' i hi
  rw [d4] at d4'
  cases d4'
  unfold kid
  rw [c4]
  exact ⟨rfl, hf, wn, wk, d0, d1, d2, d3, d4, hm, hs'⟩
theorem Nd.see {w : World} {a : Addr} {e : E} (h : Nd w a e) : ∃ b o vn x cap, a = ⟨b, o, none⟩ /\ w.cell? ⟨b, o, none⟩ = some (.int .i64 e.kind) /\ w.cell? ⟨b, o + 1, none⟩ = some (.string e.text) /\ w.cell? ⟨b, o + 2, none⟩ = some (.int .i64 e.num) /\
    w.cell? ⟨b, o + 3, none⟩ = some vn /\ w.cell? ⟨b, o + 4, none⟩ = some (.slice x e.kids.length cap) /\ e.kids.length <= cap /\ cap <= maxLen /\ Texts 0 w e.names vn /\ e.text.size <= maxLen /\ (Lit.int .i64 e.kind).wf = true /\ (Lit.int .i64 e.num).wf = true /\
    ∀ i, i < e.kids.length -> ∃ kb ko, x = some ⟨kb, ko, none⟩ /\ kid w a i = ⟨kb, ko + i * 5, none⟩ := by
  obtain ⟨b, o, s⟩ := a
  obtain ⟨h1, h2, vn, vk, c0, c1, c2, c3, c4, hn, hs⟩ := h
  simp only at h1 c0 c1 c2 c3 c4
  subst h1
  obtain ⟨n1, n2, n3, n4, x, cap, rfl, hm, hc⟩ := zat.1 hn
  refine ⟨b, o, vn, x, cap, rfl, c0, c1, c2, c3, c4, hm.1, hm.2, n4, n3, n1, n2, fun i hi => ?_⟩
  obtain ⟨kb, ko, rfl, -, -⟩ := hc (by omega)
  refine ⟨kb, ko, rfl, ?_⟩
  unfold kid
  rw [c4]
theorem texts_one {lo lo' : Nat} {w : World} {xs ys : List ByteArray} {v : Value} (h : Texts lo w xs v) (h' : Texts lo' w ys v) : xs = ys := by
  obtain ⟨a, cap, rfl, -, -, hc⟩ := h
  obtain ⟨a', cap', he, -, -, hc'⟩ := h'
  simp only [Value.slice.injEq] at he
  obtain ⟨rfl, hl, rfl⟩ := he
  apply List.ext_getElem hl
  intro i h1 h2
  obtain ⟨b, off, rfl, -, hd⟩ := hc (by omega)
  obtain ⟨b', off', hx, -, hd'⟩ := hc' (by omega)
  cases hx
  have e1 := hd i h1
  have e2 := hd' i h2
  rw [e1] at e2
  injection e2 with e3
  injection e3
theorem Nd.one {w : World} : ∀ (e : E) {a : Addr} {e' : E}, Nd w a e -> Nd w a e' -> e = e' := by
  refine ind fun k t n ns ks ih => ?_
  intro a e' h h'
  have hk := fun i => h.kid_is (i := i)
  have hk' := fun i => h'.kid_is (i := i)
  obtain ⟨-, -, vn, vk, c0, c1, c2, c3, c4, hn, -⟩ := h
  obtain ⟨-, -, vn', vk', c0', c1', c2', c3', c4', hn', -⟩ := h'
  obtain ⟨k', t', n', ns', ks'⟩ := e'
  simp only [E.kind, E.text, E.num, E.kids] at *
  rw [c0] at c0'; rw [c1] at c1'; rw [c2] at c2'; rw [c3] at c3'; rw [c4] at c4'
  cases c0'; cases c1'; cases c2'; cases c3'; cases c4'
  obtain ⟨-, -, -, hx, y, cap, rfl, -, -⟩ := zat.1 hn
  obtain ⟨-, -, -, hx', y', cap', he, -, -⟩ := zat.1 hn'
  obtain rfl := texts_one hx hx'
  simp only [Value.slice.injEq] at he
  obtain ⟨rfl, hl, rfl⟩ := he
  simp only [E.kids, E.names] at *
  congr 1
  apply List.ext_getElem hl
  intro i h1 h2
  exact ih _ (List.getElem_mem h1) (hk i h1) (hk' i h2)
noncomputable def treeAt (w : World) (a : Addr) : E := @dite _ (∃ e, Nd w a e) (Classical.propDecidable _) (fun h => h.choose) (fun _ => default)
theorem Nd.tree {w : World} {a : Addr} {e : E} (h : Nd w a e) : treeAt w a = e := by
  unfold treeAt
  rw [dif_pos ⟨e, h⟩]
  exact Nd.one _ (Exists.choose_spec (⟨e, h⟩ : ∃ e, Nd w a e)) h
theorem node_box {w : World} {lo : Nat} {e : E} {vn vk : Value} (hn : NodeAt lo w e vn vk) (hs : Soft lo w e vk) (T : TypeId) :
    Nd (w.alloc (.cells #[.int .i64 e.kind, .string e.text, .int .i64 e.num, vn, vk] T)) ⟨w.heap.size, 0, none⟩ e := by
  have hb : Below w.heap.size w (w.alloc (.cells #[.int .i64 e.kind, .string e.text, .int .i64 e.num, vn, vk] T)) := (zB _ _).alloc (zL _) _
  refine ⟨rfl, fun o => by go_simp, vn, vk, ?_, ?_, ?_, ?_, ?_, NodeAt.keep (Nat.zero_le _) (kept_below hb) _ _ _ hn, Soft.keep (Nat.zero_le _) (keptF_below hb) _ _ hs⟩
  all_goals go_simp
end Go.Proofs.YtnlgdkfenipmfaaGreatDoor.Soft
namespace Go.Proofs.YtnlgdkfenipmfaaGreatDoor
namespace TreeBox
open Go.RowKit
open Strs Tree
structure Cells (B : Nat) (k : Int) (t : ByteArray) (n : Int) (vn vk : Value) (wr : World) : Prop where
  size : B < wr.heap.size
  a0 : wr.cell? ⟨B, 0, none⟩ = some (.int .i64 k)
  a1 : wr.cell? ⟨B, 1, none⟩ = some (.string t)
  a2 : wr.cell? ⟨B, 2, none⟩ = some (.int .i64 n)
  a3 : wr.cell? ⟨B, 3, none⟩ = some vn
  a4 : wr.cell? ⟨B, 4, none⟩ = some vk
theorem Cells.step {B : Nat} {k : Int} {t : ByteArray} {n : Int} {vn vk : Value} {wr w' : World} (h : Cells B k t n vn vk wr) (hb : Below wr.heap.size wr w') : Cells B k t n vn vk w' :=
  ⟨Nat.lt_of_lt_of_le h.size hb.size, cell_keep hb h.a0, cell_keep hb h.a1, cell_keep hb h.a2, cell_keep hb h.a3, cell_keep hb h.a4⟩
theorem zab (w : World) (k : Int) (t : ByteArray) (n : Int) (vn vk : Value) (T : TypeId) : Cells w.heap.size k t n vn vk (w.alloc (Obj.cells #[Value.int IntKind.i64 k, Value.string t, Value.int IntKind.i64 n, vn, vk] T)) := by
  refine ⟨by simp, ?_, ?_, ?_, ?_, ?_⟩
  all_goals go_simp
end TreeBox
end Go.Proofs.YtnlgdkfenipmfaaGreatDoor
namespace Go.Proofs.YtnlgdkfenipmfaaGreatDoor.Dfs
open Tree
theorem sizes_drop (ks : List E) (i : Nat) (h : i < ks.length) : sizes (ks.drop i) = size ks[i] + sizes (ks.drop (i + 1)) := by
  rw [List.drop_eq_getElem_cons h, sizes]
theorem size_mk (e : E) : size e = sizes e.kids + 1 := by cases e with | mk k t n ns ks => rw [size]; rfl
theorem depth_mk (e : E) : depth e = depths e.kids + 1 := by cases e with | mk k t n ns ks => rw [depth]; rfl
theorem size_pos (e : E) : 0 < size e := by rw [size_mk]; omega
theorem kid_lt (e : E) (i : Nat) (h : i < e.kids.length) : size e.kids[i] < size e := by
  have := size_kid e.kids i h
  rw [size_mk e]; omega
def ext (e : E) : Value := .agg #[.int .i64 (size e), .int .i64 (depth e)]
section
variable {A : Type} (N : A -> Prop) (T : A -> E) (kid : A -> Nat -> A) (root : A) (M : A -> Option Value)
def Done (x : A) : Prop := N x /\ M x = some (ext (T x))
def Rest : A -> List (A × Nat) -> Prop
  | c, [] => c = root
  | c, (a, i) :: q => N a /\ i < (T a).kids.length /\ c = kid a i /\ (∀ k, k < i -> Done N T M (kid a k)) /\ Rest a q
def Inv (q : List (A × Nat)) : Prop :=
  (∀ x v, M x = some v -> Done N T M x \/ ∃ i, (x, i) ∈ q) /\
  match q with
  | [] => Done N T M root
  | (a, i) :: q => N a /\ i <= (T a).kids.length /\ (∀ k, k < i -> Done N T M (kid a k)) /\ ∃ p, Rest N T kid root M a p /\ q = p.map fun x => (x.1, x.2 + 1)
def mu : List (A × Nat) -> Nat
  | [] => 0
  | (a, i) :: q => 1 + 2 * sizes ((T a).kids.drop i) + mu q
variable {N T kid root M}
def Kids (N : A -> Prop) (T : A -> E) (kid : A -> Nat -> A) : Prop := ∀ a i, N a -> i < (T a).kids.length -> N (kid a i) /\ T (kid a i) = (T a).kids[i]!
theorem kid_size (H : Kids N T kid) {a : A} {i : Nat} (ha : N a) (hi : i < (T a).kids.length) : size (T (kid a i)) < size (T a) := by
  rw [(H a i ha hi).2, getElem!_pos _ i hi]
  exact kid_lt _ _ hi
theorem rest_size (H : Kids N T kid) : ∀ (q : List (A × Nat)) (c : A), Rest N T kid root M c q -> size (T c) + q.length <= size (T root) /\ ∀ x ∈ q, size (T c) < size (T x.1)
  | [], c, h => by
    have h' : c = root := h
    subst h'
    exact ⟨by simp, fun x hx => by cases hx⟩
  | (a, i) :: q, c, h => by
    obtain ⟨h1, h2, rfl, _, h5⟩ := h
    have h6 := kid_size H h1 h2
    obtain ⟨h7, h8⟩ := rest_size H q a h5
    refine ⟨by simp; omega, fun x hx => ?_⟩
    rcases List.mem_cons.1 hx with rfl | hx
    · exact h6
    · have := h8 x hx; omega
theorem inv_len (H : Kids N T kid) {a : A} {i : Nat} {q : List (A × Nat)} (h : Inv N T kid root M ((a, i) :: q)) : q.length + 1 <= size (T root) := by
  obtain ⟨_, h1, h2, h3, p, h4, rfl⟩ := h
  have := (rest_size H p a h4).1
  have := size_pos (T a)
  simp; omega
theorem inv_size (H : Kids N T kid) {a : A} {i : Nat} {q : List (A × Nat)} (h : Inv N T kid root M ((a, i) :: q)) : size (T a) <= size (T root) := by
  obtain ⟨_, h1, h2, h3, p, h4, rfl⟩ := h
  have := (rest_size H p a h4).1
  omega
theorem done_put [DecidableEq A] {x c : A} {v : Value} (hv : x = c -> N c -> v = ext (T c)) (h : Done N T M x) : Done N T (fun y => if y = c then some v else M y) x := by
  refine ⟨h.1, ?_⟩
  by_cases e : x = c
  · subst e; simp [hv rfl h.1]
  · simp [e, h.2]
theorem rest_mono {M' : A -> Option Value} (hm : ∀ x, Done N T M x -> Done N T M' x) : ∀ (q : List (A × Nat)) (c : A), Rest N T kid root M c q -> Rest N T kid root M' c q
  | [], _, h => h
  | (a, _) :: q, _, h => ⟨h.1, h.2.1, h.2.2.1, fun k hk => hm _ (h.2.2.2.1 k hk), rest_mono hm q a h.2.2.2.2⟩
theorem inv_start [DecidableEq A] {v : Value} (hN : N root) (hM : M = fun y => if y = root then some v else none) : Inv N T kid root M [(root, 0)] := by
  subst hM
  refine ⟨fun x v hx => ?_, hN, Nat.zero_le _, fun k hk => by omega, [], rfl, rfl⟩
  by_cases e : x = root
  · subst e; exact .inr ⟨0, by simp⟩
  · simp [e] at hx
theorem inv_pop [DecidableEq A] {a : A} {i : Nat} {q : List (A × Nat)} (h : Inv N T kid root M ((a, i) :: q)) (hi : i = (T a).kids.length) :
    (∀ k, k < (T a).kids.length -> M (kid a k) = some (ext (T (kid a k)))) /\ Inv N T kid root (fun y => if y = a then some (ext (T a)) else M y) q /\ mu T q < mu T ((a, i) :: q) := by
  obtain ⟨h0, h1, h2, h3, p, h4, rfl⟩ := h
  refine ⟨fun k hk => (h3 k (by omega)).2, ⟨fun x v hx => ?_, ?_⟩, by simp only [mu]; omega⟩
  · by_cases e : x = a
    · subst e; exact .inl ⟨h1, by simp⟩
    · simp only [e, if_false] at hx
      rcases h0 x v hx with hd | ⟨j, hj⟩
      · exact .inl (done_put (fun _ _ => rfl) hd)
      · rcases List.mem_cons.1 hj with hj | hj
        · cases hj; exact absurd rfl e
        · exact .inr ⟨j, hj⟩
  · have hdone : ∀ x, Done N T M x -> Done N T (fun y => if y = a then some (ext (T a)) else M y) x := fun x hx => done_put (fun _ _ => rfl) hx
    cases p with
    | nil =>
      have h4' : a = root := h4
      subst h4'
      exact ⟨h1, by simp⟩
    | cons y p =>
      obtain ⟨b, j⟩ := y
      obtain ⟨g1, g2, g3, g4, g5⟩ := h4
      refine ⟨g1, g2, fun k hk => ?_, p, rest_mono hdone p b g5, rfl⟩
      by_cases e : k = j
      · subst e; rw [<- g3]; exact ⟨h1, by simp⟩
      · exact hdone _ (g4 k (by omega))
theorem inv_push [DecidableEq A] (H : Kids N T kid) {a : A} {i : Nat} {q : List (A × Nat)} {v : Value} (h : Inv N T kid root M ((a, i) :: q)) (hi : i < (T a).kids.length) (hM : M (kid a i) = none) :
    Inv N T kid root (fun y => if y = kid a i then some v else M y) ((kid a i, 0) :: (a, i + 1) :: q) /\ mu T ((kid a i, 0) :: (a, i + 1) :: q) < mu T ((a, i) :: q) := by
  obtain ⟨h0, h1, h2, h3, p, h4, rfl⟩ := h
  obtain ⟨k1, k2⟩ := H a i h1 hi
  have hdone : ∀ x, Done N T M x -> Done N T (fun y => if y = kid a i then some v else M y) x := fun x hx => by
    have : x ≠ kid a i := fun e => by subst e; have h9 := hx.2; rw [hM] at h9; cases h9
    exact ⟨hx.1, by simp [this, hx.2]⟩
  refine ⟨⟨fun x u hx => ?_, k1, Nat.zero_le _, fun k hk => by omega, (a, i) :: p, ⟨h1, hi, rfl, fun k hk => hdone _ (h3 k hk), rest_mono hdone p a h4⟩, by simp⟩, ?_⟩
  · by_cases e : x = kid a i
    · subst e; exact .inr ⟨0, by simp⟩
    · simp only [e, if_false] at hx
      rcases h0 x u hx with hd | ⟨j, hj⟩
      · exact .inl (hdone _ hd)
      · rcases List.mem_cons.1 hj with hj | hj
        · cases hj; exact .inr ⟨i + 1, by simp⟩
        · exact .inr ⟨j, by simp [hj]⟩
  · simp only [mu, k2, List.drop_zero]
    rw [sizes_drop _ i hi, getElem!_pos _ i hi, size_mk (T a).kids[i]]
    omega
theorem inv_skip (H : Kids N T kid) {a : A} {i : Nat} {q : List (A × Nat)} {v : Value} (h : Inv N T kid root M ((a, i) :: q)) (hi : i < (T a).kids.length) (hM : M (kid a i) = some v) :
    v = ext (T (kid a i)) /\ Inv N T kid root M ((a, i + 1) :: q) /\ mu T ((a, i + 1) :: q) < mu T ((a, i) :: q) := by
  obtain ⟨h0, h1, h2, h3, p, h4, rfl⟩ := h
  have hs := kid_size H h1 hi
  have hd : Done N T M (kid a i) := by
    rcases h0 _ v hM with hd | ⟨j, hj⟩
    · exact hd
    · rcases List.mem_cons.1 hj with hj | hj
      · simp only [Prod.mk.injEq] at hj; rw [hj.1] at hs; omega
      · obtain ⟨y, hy, hyj⟩ := List.mem_map.1 hj
        have := (rest_size H p a h4).2 y hy
        simp only [Prod.mk.injEq] at hyj
        rw [hyj.1] at this
        omega
  refine ⟨by have h9 := hd.2; rw [hM] at h9; exact Option.some.inj h9, ⟨fun x u hx => ?_, h1, hi, fun k hk => ?_, p, h4, rfl⟩, ?_⟩
  · rcases h0 x u hx with hd | ⟨j, hj⟩
    · exact .inl hd
    · rcases List.mem_cons.1 hj with hj | hj
      · cases hj; exact .inr ⟨i + 1, by simp⟩
      · exact .inr ⟨j, by simp [hj]⟩
  · by_cases e : k = i
    · subst e; exact hd
    · exact h3 k (by omega)
  · simp only [mu]
    rw [sizes_drop _ i hi]
    have := size_pos (T a).kids[i]
    omega
end
end Go.Proofs.YtnlgdkfenipmfaaGreatDoor.Dfs
namespace Go.Proofs.YtnlgdkfenipmfaaGreatDoor.Pairs
open Tree Dfs
section
variable {A : Type} (N : A -> Prop) (T : A -> E) (kid : A -> Nat -> A) (root : A × A) (met : A × A -> Prop)
variable {N T kid root met}
end
end Go.Proofs.YtnlgdkfenipmfaaGreatDoor.Pairs
namespace Go.Proofs.YtnlgdkfenipmfaaGreatDoor
namespace SpecEqual
open Go.RowKit
open Strs Tree TreeBox
end SpecEqual
namespace ImplLike
open Go.RowKit
open Strs Tree Soft Pairs
def Drawn (w w' : World) : Prop := ∃ m, w' = w.drewN m
theorem Drawn.below {w w' : World} (h : Drawn w w') : Below w.heap.size w w' := by
  obtain ⟨m, rfl⟩ := h
  exact ⟨rfl, rfl, rfl, zL _, fun _ _ => rfl⟩
end ImplLike
namespace PtrMap
open Go.RowKit
open Strs Tree PMap Soft
def encP (a : Addr) : Value := .pointer (some a)
theorem infoE : (Tryz.prog.info? 76).map (fun i => i.size) = some 5 := by kernel_rfl
theorem zeroX (w : World) : (zeroValue 233).run Tryz.prog w = .ok (.agg #[.int .i64 0, .int .i64 0]) w := by kernel_rfl
theorem law {w0 w : World} (hb : Below w0.heap.size w0 w) : Law Tryz.prog encP (Fine w0) 258 140 233 (.agg #[.int .i64 0, .int .i64 0]) w := by
  refine ⟨Tryz.underlying258, ⟨_, Tryz.underlying140, fun a b => rfl⟩, fun em k _ => ?_, fun k k' hk hk' => ?_, fun k _ => ?_, zeroX w⟩
  · show (Instr.checkKey em (9999 + 1) 140 (.pointer (some k))).run Tryz.prog w = _
    unfold Instr.checkKey
    simp only [Sem.run_bind, run_underlying Tryz.underlying140, Result.andThen]
    rfl
  · obtain ⟨i, hi, hz⟩ := Option.map_eq_some_iff.1 infoE
    exact equal_ptr Tryz.underlying140 hi (by rw [hz]; decide) (hk.keep hb) (hk'.keep hb) 9999
  · have h : Instr.sameBits 10000 (encP k) (encP k) = true := by
      show (some k == some k) = true
      simp
    simp only [Instr.keyThatStays, h, if_true]
    rfl
end PtrMap
namespace ImplMeas
open Go.RowKit
open Strs Tree PMap Soft Dfs
def N0 (w : World) (x : Addr) : Prop := ∃ e, Nd w x e
theorem nd_tree {w : World} {x : Addr} (h : N0 w x) : Nd w x (treeAt w x) := by
  obtain ⟨e, he⟩ := h
  rw [he.tree]; exact he
theorem kids0 (w : World) : Dfs.Kids (N0 w) (treeAt w) (kid w) := by
  intro a i ha hi
  have h := (nd_tree ha).kid_is hi
  exact ⟨⟨_, h⟩, by rw [h.tree, getElem!_pos _ i hi]⟩
theorem two_cells (w : World) (u v : Value) (t : TypeId) : ∀ (j : Nat) (x : Value), [u, v][j]? = some x -> (w.alloc (.cells #[u, v] t)).cell? ((⟨w.heap.size, 0, none⟩ : Addr).add j) = some x := by
  intro j x hj
  match j, hj with
  | 0, hj => simp at hj; subst hj; simp [Addr.add]
  | 1, hj => simp at hj; subst hj; simp [Addr.add]
end ImplMeas
end Go.Proofs.YtnlgdkfenipmfaaGreatDoor
