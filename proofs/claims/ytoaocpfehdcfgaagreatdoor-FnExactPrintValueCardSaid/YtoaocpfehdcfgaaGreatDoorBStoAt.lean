/-
  A store that lies in a block of six cells.
-/
import Derived.Test.YtoaocpfehdcfgaaGreatDoorBDataSto
namespace Go.Proofs.YtoaocpfehdcfgaaGreatDoor.Sto
open Go.RowKit
open Strs Tree Core Go.Proofs.YtoaocpfehdcfgaaGreatDoor.Data
def SAt (w : World) (b : Nat) (s : St) : Prop :=
  ∃ v0 v1 v2, w.cell? ⟨b, 0, none⟩ = some v0 ∧ w.cell? ⟨b, 1, none⟩ = some v1 ∧ w.cell? ⟨b, 2, none⟩ = some v2 ∧ w.cell? ⟨b, 3, none⟩ = some (.int .i64 s.ticks) ∧ w.cell? ⟨b, 4, none⟩ = some (.int .i64 s.budget) ∧ w.cell? ⟨b, 5, none⟩ = some (.int .i64 s.made) ∧
    IsAt 0 w v0 s.classes ∧ OsAt 0 w v1 s.objects ∧ Texts 0 w s.output v2
theorem SAt.below {w w' : World} {b : Nat} {s : St} (h : SAt w b s) (hb : Below w.heap.size w w') : SAt w' b s := by
  obtain ⟨v0, v1, v2, c0, c1, c2, c3, c4, c5, h0, h1, h2⟩ := h
  exact ⟨v0, v1, v2, cell_keep hb c0, cell_keep hb c1, cell_keep hb c2, cell_keep hb c3, cell_keep hb c4, cell_keep hb c5, h0.below hb, h1.below hb, h2.below hb⟩
structure VBox (w0 : World) (g : Nat) (v : V) (wx : World) : Prop where
  below : Below w0.heap.size w0 wx
  a0 : wx.cell? ⟨g, 0, none⟩ = some (.int .i64 v.kind)
  a1 : wx.cell? ⟨g, 1, none⟩ = some (.int .i64 v.num)
  a2 : wx.cell? ⟨g, 2, none⟩ = some (.string v.text)
theorem VBox.step {w0 wx w' : World} {g : Nat} {v : V} (h : VBox w0 g v wx) (hb : Below wx.heap.size wx w') : VBox w0 g v w' :=
  ⟨h.below.trans (hb.mono h.below.size), cell_keep hb h.a0, cell_keep hb h.a1, cell_keep hb h.a2⟩
theorem vbox_new (w : World) (v : V) (T : TypeId) : VBox w w.heap.size v (w.alloc (.cells #[.int .i64 v.kind, .int .i64 v.num, .string v.text] T)) :=
  ⟨(Below.refl _ _).alloc (Nat.le_refl _) _, by go_simp, by go_simp, by go_simp⟩
theorem sat_new {w : World} {v0 v1 v2 : Value} {s : St} (T : TypeId) (h0 : IsAt 0 w v0 s.classes) (h1 : OsAt 0 w v1 s.objects) (h2 : Texts 0 w s.output v2) :
    SAt (w.alloc (.cells #[v0, v1, v2, .int .i64 s.ticks, .int .i64 s.budget, .int .i64 s.made] T)) w.heap.size s := by
  have hb : Below w.heap.size w (w.alloc (.cells #[v0, v1, v2, .int .i64 s.ticks, .int .i64 s.budget, .int .i64 s.made] T)) := (Below.refl _ _).alloc (Nat.le_refl _) _
  exact ⟨v0, v1, v2, by go_simp, by go_simp, by go_simp, by go_simp, by go_simp, by go_simp, h0.below hb, h1.below hb, h2.below hb⟩
theorem val_kind {v : V} (h : valB v = true) : v.kind = 0 ∨ v.kind = 1 ∨ v.kind = 2 ∨ v.kind = 3 ∨ v.kind = 4 ∨ v.kind = 5 ∨ v.kind = 6 ∨ v.kind = 7 := by
  unfold valB at h
  by_cases h0 : v.kind = 0
  · exact .inl h0
  by_cases h1 : v.kind = 1
  · exact .inr (.inl h1)
  by_cases h2 : v.kind = 2
  · exact .inr (.inr (.inl h2))
  by_cases h3 : v.kind = 3
  · exact .inr (.inr (.inr (.inl h3)))
  by_cases h4 : v.kind = 4
  · exact .inr (.inr (.inr (.inr (.inl h4))))
  rw [if_neg h0, if_neg h1, if_neg h2, if_neg h3, if_neg h4] at h
  by_cases h5 : 5 ≤ v.kind ∧ v.kind ≤ 7
  · omega
  · rw [if_neg h5] at h; cases h
theorem fit_ref {nc no : Nat} {nb : Int} {v : V} (h : fitB nc no nb v = true) (hk : v.kind = 6) : 0 ≤ v.num ∧ v.num < (no : Int) := by
  unfold fitB at h
  rw [Bool.and_eq_true] at h
  obtain ⟨h1, h2⟩ := h
  unfold topOf at h2
  rw [hk, if_neg (by decide), if_pos rfl, decide_eq_true_eq] at h2
  unfold valB at h1
  rw [hk, if_neg (by decide), if_neg (by decide), if_neg (by decide), if_neg (by decide), if_neg (by decide), if_pos (by decide), Bool.and_eq_true, decide_eq_true_eq] at h1
  exact ⟨h1.1, h2⟩
theorem fit_cls {nc no : Nat} {nb : Int} {v : V} (h : fitB nc no nb v = true) (hk : v.kind = 5) : 0 ≤ v.num ∧ v.num < (nc : Int) := by
  unfold fitB at h
  rw [Bool.and_eq_true] at h
  obtain ⟨h1, h2⟩ := h
  unfold topOf at h2
  rw [hk, if_pos rfl, decide_eq_true_eq] at h2
  unfold valB at h1
  rw [hk, if_neg (by decide), if_neg (by decide), if_neg (by decide), if_neg (by decide), if_neg (by decide), if_pos (by decide), Bool.and_eq_true, decide_eq_true_eq] at h1
  exact ⟨h1.1, h2⟩
theorem all_take {α : Type} {p : α → Bool} {xs : List α} {i : Nat} {x : α} (h : (xs.take i).all p = true) (hx : xs[i]? = some x) (hp : p x = true) : (xs.take (i + 1)).all p = true := by
  obtain ⟨hi, rfl⟩ := List.getElem?_eq_some_iff.1 hx
  rw [List.take_succ_eq_append_getElem hi, List.all_append, h, List.all_cons, hp]; rfl
theorem all_no {α : Type} {p : α → Bool} {xs : List α} {i : Nat} {x : α} (hx : xs[i]? = some x) (hp : p x = false) : xs.all p = false := by
  rw [List.all_eq_false]
  exact ⟨x, List.mem_of_getElem? hx, by rw [hp]; exact Bool.false_ne_true⟩
theorem all_end {α : Type} {p : α → Bool} {xs : List α} {i : Nat} (h : (xs.take i).all p = true) (hi : xs.length ≤ i) : xs.all p = true := by
  rwa [List.take_of_length_le hi] at h
end Go.Proofs.YtoaocpfehdcfgaaGreatDoor.Sto
