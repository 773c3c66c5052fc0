/-
  A tree that a function was given lies in a cell of its own: what is known of it while nothing writes there.
  Two trees that are compared couple by couple, with a list of what is still to be compared and a set of what has been met: what is known of both at each step. Plain mathematics.
  spec.l3Texts and EqualExprs: what they answer of every two lists of texts, of every two trees.
  slices.Equal over texts, and isLike: whether two nodes are equal but for what is in their kids.
-/
import Derived.Test.YtdohpppkdecbdaaGreatDoorBNd
import Derived.Test.YtdohpppkdecbdaaGreatDoorBSoft
import Derived.Test.YtdohpppkdecbdaaGreatDoorBTexts
import Derived.Deep.QuietTactic
import Derived.BigQuiet
namespace Go.Proofs.YtdohpppkdecbdaaGreatDoor.TreeBox
open Go.RowKit
open Strs Tree
structure Cells (B : Nat) (k : Int) (t : ByteArray) (n : Int) (vn vk : Value) (wr : World) : Prop where
  size : B < wr.heap.size
  a0 : wr.cell? ⟨B, 0, none⟩ = some (.int .i64 k)
  a1 : wr.cell? ⟨B, 1, none⟩ = some (.string t)
  a2 : wr.cell? ⟨B, 2, none⟩ = some (.int .i64 n)
  a3 : wr.cell? ⟨B, 3, none⟩ = some vn
  a4 : wr.cell? ⟨B, 4, none⟩ = some vk
theorem Cells.step {B : Nat} {k : Int} {t : ByteArray} {n : Int} {vn vk : Value} {wr w' : World} (h : Cells B k t n vn vk wr) (hb : Below wr.heap.size wr w') : Cells B k t n vn vk w' :=
  ⟨Nat.lt_of_lt_of_le h.size hb.size, cell_keep hb h.a0, cell_keep hb h.a1, cell_keep hb h.a2, cell_keep hb h.a3, cell_keep hb h.a4⟩
theorem cells_new (w : World) (k : Int) (t : ByteArray) (n : Int) (vn vk : Value) (T : TypeId) : Cells w.heap.size k t n vn vk (w.alloc (Obj.cells #[Value.int IntKind.i64 k, Value.string t, Value.int IntKind.i64 n, vn, vk] T)) := by
  refine ⟨by simp, ?_, ?_, ?_, ?_, ?_⟩
  all_goals go_simp
end Go.Proofs.YtdohpppkdecbdaaGreatDoor.TreeBox

namespace Go.Proofs.YtdohpppkdecbdaaGreatDoor.Pairs
open Tree Dfs
def Like (e f : E) : Prop := e.kind = f.kind ∧ e.text = f.text ∧ e.num = f.num ∧ e.names = f.names ∧ e.kids.length = f.kids.length
theorem like_of {e f : E} (h : e = f) : Like e f := by subst h; exact ⟨rfl, rfl, rfl, rfl, rfl⟩
theorem eq_of {e f : E} (h : Like e f) (hk : ∀ i (h1 : i < e.kids.length) (h2 : i < f.kids.length), e.kids[i] = f.kids[i]) : e = f := by
  obtain ⟨k, t, n, ns, ks⟩ := e
  obtain ⟨k', t', n', ns', ks'⟩ := f
  obtain ⟨h1, h2, h3, h4, h5⟩ := h
  simp only [E.kind, E.text, E.num, E.names, E.kids] at *
  subst h1 h2 h3 h4
  congr 1
  exact List.ext_getElem h5 hk
section
variable {A : Type} (N : A → Prop) (T : A → E) (kid : A → Nat → A) (root : A × A) (met : A × A → Prop)
def Eq2 (c : A × A) : Prop := T c.1 = T c.2
def kid2 (c : A × A) (i : Nat) : A × A := (kid c.1 i, kid c.2 i)
def Seen (c : A × A) : Prop := Like (T c.1) (T c.2) ∧ ∀ i, i < (T c.1).kids.length → met (kid2 kid c i)
structure Inv (q : List (A × A)) (but : A × A → Prop) : Prop where
  nodes : ∀ c, c ∈ q → N c.1 ∧ N c.2
  metNodes : ∀ c, met c → N c.1 ∧ N c.2
  sound : Eq2 T root → ∀ c, c ∈ q → Eq2 T c
  closed : ∀ c, (c = root ∨ met c) → c ∈ q ∨ but c ∨ Seen T kid met c
def mu2 : List (A × A) → Nat
  | [] => 0
  | c :: q => size (T c.1) + mu2 q
variable {N T kid root met}
theorem mu2_len : ∀ q : List (A × A), q.length ≤ mu2 T q
  | [] => Nat.le_refl _
  | c :: q => by have := mu2_len q; have := size_pos (T c.1); simp only [mu2, List.length_cons]; omega
theorem inv_start (h : N root.1 ∧ N root.2) (hm : ∀ c, ¬ met c) : Inv N T kid root met [root] (fun _ => False) :=
  ⟨fun c hc => by simp at hc; subst hc; exact h, fun c hc => absurd hc (hm c), fun he c hc => by simp at hc; subst hc; exact he,
    fun c hc => by rcases hc with rfl | hc
                   · simp
                   · exact absurd hc (hm c)⟩
theorem inv_end (H : Dfs.Kids N T kid) (hr : N root.1 ∧ N root.2) (h : Inv N T kid root met [] (fun _ => False)) : Eq2 T root := by
  have key : ∀ (n : Nat) (c : A × A), size (T c.1) ≤ n → (N c.1 ∧ N c.2) → (c = root ∨ met c) → Eq2 T c := by
    intro n
    induction n with
    | zero => intro c hc; have := size_pos (T c.1); omega
    | succ n ih =>
      intro c hc hN hm
      rcases h.closed c hm with h1 | h1 | ⟨hl, hk⟩
      · cases h1
      · cases h1
      · refine eq_of hl fun i h1 h2 => ?_
        have g1 := H c.1 i hN.1 h1
        have g2 := H c.2 i hN.2 h2
        have hlt := kid_lt _ i h1
        have e1 : T (kid c.1 i) = (T c.1).kids[i] := by rw [g1.2, getElem!_pos _ i h1]
        have e2 : T (kid c.2 i) = (T c.2).kids[i] := by rw [g2.2, getElem!_pos _ i h2]
        have := ih (kid2 kid c i) (by show size (T (kid c.1 i)) ≤ n; rw [e1]; omega) ⟨g1.1, g2.1⟩ (.inr (hk i h1))
        have h3 : T (kid c.1 i) = T (kid c.2 i) := this
        rw [e1, e2] at h3
        exact h3
  exact key _ root (Nat.le_refl _) hr (.inl rfl)
theorem inv_no {c : A × A} {q : List (A × A)} (h : Inv N T kid root met (c :: q) (fun _ => False)) (hl : ¬ Like (T c.1) (T c.2)) : ¬ Eq2 T root :=
  fun he => hl (like_of (h.sound he c (by simp)))
theorem inv_take {c : A × A} {q : List (A × A)} (h : Inv N T kid root met (c :: q) (fun _ => False)) : Inv N T kid root met q (fun x => x = c) := by
  refine ⟨fun x hx => h.nodes x (by simp [hx]), h.metNodes, fun he x hx => h.sound he x (by simp [hx]), fun x hx => ?_⟩
  rcases h.closed x hx with h1 | h1 | h1
  · rcases List.mem_cons.1 h1 with h1 | h1
    · exact .inr (.inl h1)
    · exact .inl h1
  · cases h1
  · exact .inr (.inr h1)
theorem inv_seen {c : A × A} {q : List (A × A)} (h : Inv N T kid root met q (fun x => x = c)) (hs : Seen T kid met c) : Inv N T kid root met q (fun _ => False) := by
  refine ⟨h.nodes, h.metNodes, h.sound, fun x hx => ?_⟩
  rcases h.closed x hx with h1 | h1 | h1
  · exact .inl h1
  · subst h1; exact .inr (.inr hs)
  · exact .inr (.inr h1)
theorem inv_meet (H : Dfs.Kids N T kid) {c : A × A} {q : List (A × A)} {i : Nat} (h : Inv N T kid root met q (fun x => x = c)) (hN : N c.1 ∧ N c.2) (hl : Like (T c.1) (T c.2)) (hi : i < (T c.1).kids.length) (he : Eq2 T root → Eq2 T c) :
    Inv N T kid root (fun x => x = kid2 kid c i ∨ met x) (kid2 kid c i :: q) (fun x => x = c) ∧ size (T (kid2 kid c i).1) = size (T c.1).kids[i] := by
  have hi2 : i < (T c.2).kids.length := by have := hl.2.2.2.2; omega
  have g1 := H c.1 i hN.1 hi
  have g2 := H c.2 i hN.2 hi2
  have e1 : T (kid c.1 i) = (T c.1).kids[i] := by rw [g1.2, getElem!_pos _ i hi]
  have e2 : T (kid c.2 i) = (T c.2).kids[i] := by rw [g2.2, getElem!_pos _ i hi2]
  refine ⟨⟨fun x hx => ?_, fun x hx => ?_, fun hr x hx => ?_, fun x hx => ?_⟩, by show size (T (kid c.1 i)) = _; rw [e1]⟩
  · rcases List.mem_cons.1 hx with rfl | hx
    · exact ⟨g1.1, g2.1⟩
    · exact h.nodes x hx
  · rcases hx with rfl | hx
    · exact ⟨g1.1, g2.1⟩
    · exact h.metNodes x hx
  · rcases List.mem_cons.1 hx with rfl | hx
    · show T (kid c.1 i) = T (kid c.2 i)
      rw [e1, e2]
      have hc : T c.1 = T c.2 := he hr
      simp only [hc]
    · exact h.sound hr x hx
  · rcases hx with hx | hx | hx
    · rcases h.closed x (.inl hx) with h1 | h1 | h1
      · exact .inl (by simp [h1])
      · exact .inr (.inl h1)
      · exact .inr (.inr ⟨h1.1, fun j hj => .inr (h1.2 j hj)⟩)
    · subst hx; exact .inl (by simp)
    · rcases h.closed x (.inr hx) with h1 | h1 | h1
      · exact .inl (by simp [h1])
      · exact .inr (.inl h1)
      · exact .inr (.inr ⟨h1.1, fun j hj => .inr (h1.2 j hj)⟩)
end
end Go.Proofs.YtdohpppkdecbdaaGreatDoor.Pairs

namespace Go.Proofs.YtdohpppkdecbdaaGreatDoor.SpecEqual
open Go.RowKit
open Strs Tree TreeBox
theorem beq_no {s t : ByteArray} (h : ¬ s = t) : (s.toList == t.toList) = false := by
  refine Bool.eq_false_iff.2 fun e => h ?_
  have e1 := eq_of_beq e
  rw [ByteArray.toList_eq, ByteArray.toList_eq] at e1
  exact ByteArray.ext (Array.ext' e1)
end Go.Proofs.YtdohpppkdecbdaaGreatDoor.SpecEqual

namespace Go.Proofs.YtdohpppkdecbdaaGreatDoor.ImplLike
open Go.RowKit
open Strs Tree Soft Pairs
def Drawn (w w' : World) : Prop := ∃ m, w' = w.drewN m
theorem Drawn.more {w w' : World} (h : Drawn w w') (k : Nat) : Drawn w (w'.drewN k) := by
  obtain ⟨m, rfl⟩ := h
  exact ⟨m + k, by rw [World.drewN_drewN]⟩
theorem Drawn.below {w w' : World} (h : Drawn w w') : Below w.heap.size w w' := by
  obtain ⟨m, rfl⟩ := h
  exact ⟨rfl, rfl, rfl, Nat.le_refl _, fun _ _ => rfl⟩
noncomputable def likeB (e f : E) : Bool := @decide (Like e f) (Classical.propDecidable _)
theorem likeB_yes {e f : E} (h : Like e f) : likeB e f = true := @decide_eq_true _ (Classical.propDecidable _) h
theorem likeB_no {e f : E} (h : ¬ Like e f) : likeB e f = false := @decide_eq_false _ (Classical.propDecidable _) h
theorem below_texts {w w' : World} {xs : List ByteArray} {v : Value} (h : Texts 0 w xs v) (hb : Below w.heap.size w w') : Texts 0 w' xs v := h.below hb
end Go.Proofs.YtdohpppkdecbdaaGreatDoor.ImplLike
