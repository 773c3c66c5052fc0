/-
  impl's builtinInfos: the built-in classes.
  What impl's checks of classes call: areNames, slices.Contains, slices.Equal over texts, equalInfos, slices.EqualFunc over classes, indexOfClass.
  equalInfos, slices.EqualFunc over classes, indexOfClass.
-/
import Derived.Test.YtoaocpfehdcfgaaGreatDoorBAppendTexts
import Derived.Test.YtoaocpfehdcfgaaGreatDoorBCheckMath
import Derived.Test.YtoaocpfehdcfgaaGreatDoorBDataCore
import Derived.Test.YtoaocpfehdcfgaaGreatDoorBImplTok
import Derived.Test.YtoaocpfehdcfgaaGreatDoorBSpecClassesI
import Derived.Test.YtoaocpfehdcfgaaGreatDoorBSpecInfos
import Derived.Maps.AppendAt
import Derived.Deep.QuietTactic
import Derived.BigQuiet
import Derived.Lib.QuietBelow
namespace Go.Proofs.YtoaocpfehdcfgaaGreatDoor.ImplCore
open Go.RowKit
open Strs Tree Core Go.Proofs.YtoaocpfehdcfgaaGreatDoor.Data
open SpecCore (builtins builtins_len builtins_at bfields_size infoCI app_low2 bnames_len)
set_option linter.unusedVariables false
structure Hf (w0 wr : World) (g : Nat) (pf : Nat → Int) (tf : Nat → Bool) : Prop where
  below : Below w0.heap.size w0 wr
  lo : w0.heap.size ≤ g ∧ g < wr.heap.size
  free : ∀ o, wr.frozen? ⟨g, o, none⟩ = false
  nm : ∀ j, j < 16 → wr.cell? ⟨g, j * 3, none⟩ = some (.string (Builtin.names.getD j ByteArray.empty))
  pr : ∀ j, j < 16 → wr.cell? ⟨g, j * 3 + 1, none⟩ = some (.int .i64 (pf j))
  fl : ∀ j, j < 16 → ∃ v, wr.cell? ⟨g, j * 3 + 2, none⟩ = some v ∧ ((tf j = false ∧ v = .slice none 0 0) ∨ (tf j = true ∧ ∃ b, v = .slice (some ⟨b, 0, none⟩) 1 1 ∧ b ≠ g ∧ wr.cell? ⟨b, 0, none⟩ = some (.string ⟨#[116, 101, 120, 116]⟩)))
theorem hf_other {w : World} {g o o' : Nat} {v u : Value} (h : w.cell? ⟨g, o, none⟩ = some v) (hne : o ≠ o') : (w.setCell ⟨g, o', none⟩ u).cell? ⟨g, o, none⟩ = some v :=
  (World.cell?_setCell_other _ _ _ _ (by intro e; cases e; exact hne rfl)).trans h
theorem hf_block {w : World} {b g o o' : Nat} {v u : Value} (h : w.cell? ⟨b, o, none⟩ = some v) (hne : b ≠ g) : (w.setCell ⟨g, o', none⟩ u).cell? ⟨b, o, none⟩ = some v :=
  (World.cell?_setCell_other _ _ _ _ (by intro e; cases e; exact hne rfl)).trans h
theorem Hf.setp {w0 wr : World} {g : Nat} {pf : Nat → Int} {tf : Nat → Bool} (h : Hf w0 wr g pf tf) (j0 : Nat) (hj : j0 < 16) (x : Int) : Hf w0 (wr.setCell ⟨g, j0 * 3 + 1, none⟩ (.int .i64 x)) g (fun j => if j = j0 then x else pf j) tf := by
  have hb : Below w0.heap.size wr (wr.setCell ⟨g, j0 * 3 + 1, none⟩ (.int .i64 x)) := by
    have h2 : Below g wr (wr.setCell ⟨g, j0 * 3 + 1, none⟩ (.int .i64 x)) := ⟨rfl, rfl, rfl, by simp [World.setCell], fun k hk => Below.heap_setCell wr ⟨g, j0 * 3 + 1, none⟩ _ k (by show k ≠ g; omega)⟩
    exact h2.mono h.lo.1
  refine ⟨h.below.trans hb, ⟨h.lo.1, by have := h.lo.2; simpa [World.setCell] using this⟩, fun o => by have := h.free o; simpa using this, fun j hjj => hf_other (h.nm j hjj) (by omega), fun j hjj => ?_, fun j hjj => ?_⟩
  · by_cases e : j = j0
    · subst e
      rw [if_pos rfl]
      have hc := h.pr j hjj
      have hf := h.free (j * 3 + 1)
      go_simp
    · rw [if_neg e]
      exact hf_other (h.pr j hjj) (by omega)
  · obtain ⟨v, h1, h2⟩ := h.fl j hjj
    refine ⟨v, hf_other h1 (by omega), h2.imp id fun ⟨h3, b, h4, h5, h6⟩ => ⟨h3, b, h4, h5, hf_block h6 h5⟩⟩
theorem Hf.setf {w0 wr : World} {g : Nat} {pf : Nat → Int} {tf : Nat → Bool} (h : Hf w0 wr g pf tf) (j0 : Nat) (hj : j0 < 16) (T : TypeId) :
    Hf w0 ((wr.alloc (.cells #[.string ⟨#[116, 101, 120, 116]⟩] T)).setCell ⟨g, j0 * 3 + 2, none⟩ (.slice (some ⟨wr.heap.size, 0, none⟩) 1 1)) g pf (fun j => decide (j = j0) || tf j) := by
  have hba : Below wr.heap.size wr (wr.alloc (.cells #[.string ⟨#[116, 101, 120, 116]⟩] T)) := (Below.refl _ _).alloc (Nat.le_refl _) _
  have hb : Below w0.heap.size wr ((wr.alloc (.cells #[.string ⟨#[116, 101, 120, 116]⟩] T)).setCell ⟨g, j0 * 3 + 2, none⟩ (.slice (some ⟨wr.heap.size, 0, none⟩) 1 1)) := by
    have h2 : Below g (wr.alloc (.cells #[.string ⟨#[116, 101, 120, 116]⟩] T)) ((wr.alloc (.cells #[.string ⟨#[116, 101, 120, 116]⟩] T)).setCell ⟨g, j0 * 3 + 2, none⟩ (.slice (some ⟨wr.heap.size, 0, none⟩) 1 1)) := ⟨rfl, rfl, rfl, by simp [World.setCell], fun k hk => Below.heap_setCell _ ⟨g, j0 * 3 + 2, none⟩ _ k (by show k ≠ g; omega)⟩
    exact (hba.mono h.below.size).trans (h2.mono h.lo.1)
  have hg := h.lo.2
  have hne : wr.heap.size ≠ g := by omega
  refine ⟨h.below.trans hb, ⟨h.lo.1, by simp [World.setCell]; omega⟩, fun o => by have := (hba.frozen (p := ⟨g, o, none⟩) hg).trans (h.free o); simpa using this, fun j hjj => hf_other (cell_keep hba (h.nm j hjj)) (by omega), fun j hjj => hf_other (cell_keep hba (h.pr j hjj)) (by omega), fun j hjj => ?_⟩
  obtain ⟨v, h1, h2⟩ := h.fl j hjj
  by_cases e : j = j0
  · subst e
    refine ⟨.slice (some ⟨wr.heap.size, 0, none⟩) 1 1, ?_, .inr ⟨by simp, _, rfl, hne, hf_block (by go_simp) hne⟩⟩
    have hc := cell_keep hba h1
    have hf := (hba.frozen (p := ⟨g, j * 3 + 2, none⟩) hg).trans (h.free (j * 3 + 2))
    go_simp
  · refine ⟨v, hf_other (cell_keep hba h1) (by omega), ?_⟩
    rcases h2 with ⟨h3, h4⟩ | ⟨h3, b, h4, h5, h6⟩
    · exact .inl ⟨by simp [e, h3], h4⟩
    · exact .inr ⟨by simp [h3], b, h4, h5, hf_block (cell_keep hba h6) h5⟩
theorem Hf.reads {w0 wr : World} {g cap : Nat} {pf : Nat → Int} {tf : Nat → Bool} (h : Hf w0 wr g pf tf) (hp : ∀ j, j < 16 → pf j = bparents.getD j 0) (ht : ∀ j, j < 16 → tf j = decide (1 ≤ j ∧ j ≤ 4)) (hc : 16 ≤ cap ∧ cap ≤ maxLen) : IsAt 0 wr (.slice (some ⟨g, 0, none⟩) 16 cap) builtins := by
  refine ⟨_, cap, by rw [builtins_len], by rw [builtins_len]; exact hc, fun _ => ⟨g, 0, rfl, Nat.zero_le _, fun i x hx => ?_⟩⟩
  have hi : i < 16 := by have := (List.getElem?_eq_some_iff.1 hx).1; rw [builtins_len] at this; exact this
  rw [builtins_at i hi] at hx
  cases hx
  rw [Nat.zero_add]
  obtain ⟨v, h1, h2⟩ := h.fl i hi
  rw [ht i hi] at h2
  have hw : ∀ j : Fin 16, (Lit.int .i64 (bparents.getD j.1 0)).wf = true := by decide
  refine ⟨v, h.nm i hi, by rw [h.pr i hi, hp i hi]; rfl, h1, ?_, ?_, hw ⟨i, hi⟩⟩
  · show Texts 0 wr (bfields i) v
    rcases h2 with ⟨h3, rfl⟩ | ⟨h3, b, rfl, h5, h6⟩
    · have : bfields i = [] := by unfold bfields; rw [if_neg (of_decide_eq_false h3)]
      rw [this]
      exact ⟨none, 0, rfl, ⟨Nat.le_refl _, by unfold maxLen; omega⟩, fun x h => absurd h (List.not_mem_nil), fun hp => absurd hp (by simp)⟩
    · have : bfields i = [⟨#[116, 101, 120, 116]⟩] := by unfold bfields; rw [if_pos (of_decide_eq_true h3)]
      rw [this]
      refine ⟨_, 1, rfl, ⟨Nat.le_refl _, by unfold maxLen; omega⟩, fun x hx => by simp at hx; subst hx; unfold maxLen; decide, fun _ => ⟨b, 0, rfl, Nat.zero_le _, fun j hj => ?_⟩⟩
      have : j = 0 := by simpa using hj
      subst this
      exact h6
  · show Formed v (bfields i).length
    rcases h2 with ⟨h3, rfl⟩ | ⟨h3, b, rfl, h5, h6⟩
    · have : bfields i = [] := by unfold bfields; rw [if_neg (of_decide_eq_false h3)]
      rw [this]; exact .inl ⟨rfl, rfl⟩
    · have : bfields i = [⟨#[116, 101, 120, 116]⟩] := by unfold bfields; rw [if_pos (of_decide_eq_true h3)]
      rw [this]; exact .inr ⟨b, 0, 1, rfl⟩
def rowB : Nat → List Value
  | 0 => []
  | n + 1 => rowB n ++ [.string (Builtin.names.getD n ByteArray.empty), .int .i64 0, .slice none 0 0]
theorem rowB_len : ∀ n, (rowB n).length = n * 3
  | 0 => rfl
  | n + 1 => by rw [rowB, List.length_append, rowB_len n]; show n * 3 + 3 = _; omega
theorem rowB_at : ∀ n j, j < n → (rowB n)[j * 3]? = some (.string (Builtin.names.getD j ByteArray.empty)) ∧ (rowB n)[j * 3 + 1]? = some (.int .i64 0) ∧ (rowB n)[j * 3 + 2]? = some (.slice none 0 0)
  | 0, j, h => by omega
  | n + 1, j, h => by
    have hl := rowB_len n
    by_cases e : j = n
    · subst e
      rw [rowB]
      refine ⟨?_, ?_, ?_⟩
      · rw [List.getElem?_append_right (by omega), hl, Nat.sub_self]; rfl
      · rw [List.getElem?_append_right (by omega), hl, show j * 3 + 1 - j * 3 = 1 by omega]; rfl
      · rw [List.getElem?_append_right (by omega), hl, show j * 3 + 2 - j * 3 = 2 by omega]; rfl
    · obtain ⟨h1, h2, h3⟩ := rowB_at n j (by omega)
      rw [rowB]
      exact ⟨by rw [List.getElem?_append_left (by omega)]; exact h1, by rw [List.getElem?_append_left (by omega)]; exact h2, by rw [List.getElem?_append_left (by omega)]; exact h3⟩
theorem hf_start {w wr : World} {T : TypeId} {b0 g cap : Nat} (hb : Below w.heap.size w wr) (h0 : w.heap.size ≤ b0) (h : wr.ownsRow b0 T 3 (.slice (some ⟨g, 0, none⟩) 16 cap) 16 (rowB 16)) : Hf w wr g (fun _ => 0) (fun _ => false) ∧ 16 ≤ cap ∧ cap ≤ maxLen := by
  have hlt := h.lt g rfl
  have hat : ∀ j, j < 48 → wr.cell? ⟨g, j, none⟩ = (rowB 16)[j]? := fun j hj => h.cellAt j (by omega)
  have hfr : ∀ o, wr.frozen? ⟨g, o, none⟩ = false := fun o => by
    rcases h.2 with ⟨h1, _⟩ | ⟨g', cap', cur, h1, h2, h3, h4, h5, h6⟩
    · simp at h1
    · simp only [Value.slice.injEq, Option.some.injEq, Addr.mk.injEq, and_true, true_and] at h1
      obtain ⟨rfl, rfl⟩ := h1
      simp [World.frozen?, h3]
  have hcap : 16 ≤ cap ∧ cap ≤ maxLen := by
    rcases h.2 with ⟨h1, _⟩ | ⟨g', cap', cur, h1, h2, h3, h4, h5, h6⟩
    · simp at h1
    · simp only [Value.slice.injEq, Option.some.injEq, Addr.mk.injEq, and_true, true_and] at h1
      obtain ⟨rfl, rfl⟩ := h1
      exact ⟨h4, h5⟩
  exact ⟨⟨hb, ⟨Nat.le_trans h0 hlt.1, hlt.2⟩, hfr, fun j hj => by rw [hat _ (by omega)]; exact (rowB_at 16 j hj).1, fun j hj => by rw [hat _ (by omega)]; exact (rowB_at 16 j hj).2.1, fun j hj => ⟨.slice none 0 0, by rw [hat _ (by omega)]; exact (rowB_at 16 j hj).2.2, .inl ⟨rfl, rfl⟩⟩⟩, hcap⟩
set_option maxRecDepth 10000 in
set_option maxHeartbeats 16000000 in
theorem infosI_any (w : World) :
    Calls Tryz.prog 65 #[] w fun e w' => ∃ v, e = .returned v ∧ IsAt 0 w' v builtins ∧ Below w.heap.size w w' := by
  have KB := Lib.hid (Builtin.impl_any w)
  obtain ⟨i0, hi0, hz0, hz1, hz2⟩ := info_parts infoCI
  go_enter Tryz.func65, Tryz.ntmps65
  go_wp2_with fail
  refine KB.out.mono ?_
  rintro e w1 ⟨vn, rfl, hon, hb1⟩
  have HB1 := Lib.hid hb1
  obtain ⟨na, nc, rfl, hnm, hnc⟩ := id (at_own hon)
  rw [bnames_len] at hnm hnc ⊢
  obtain ⟨nb, no, rfl, hncell⟩ := hnc (by omega)
  have HNC : Hid (∀ j, j < 16 → w1.cell? ⟨nb, no + j, none⟩ = some (.string (Builtin.names.getD j ByteArray.empty))) := Lib.hid (fun j hj => hncell j hj)
  have HNB : Hid (nb < w1.heap.size) := Lib.hid (hon.lt nb rfl).2
  clear KB hb1 hon hnc hncell
  unfold maxLen at hnm
  go_wp2_with fail
  go_loopw [1, 7] (fun s j wr => ∃ (i : Nat) (va : Option Addr) (vc : Nat), i ≤ 16 ∧ j = .int .i64 i ∧ s = .slice va i vc ∧ wr.ownsRow w1.heap.size 78 3 (.slice va i vc) i (rowB i) ∧ Below w1.heap.size w1 wr) (fun _ j _ => 16 - (intOf j).toNat)
  case atStart => exact ⟨0, none, 0, by omega, rfl, rfl, ⟨by simp [rowB], .inl ⟨rfl, rfl⟩⟩, Below.refl _ _⟩
  case round =>
    obtain ⟨i, va, vc, hi, rfl, rfl, hout, hbw⟩ := hrel
    have HOUT := Lib.hid hout; have HBW := Lib.hid hbw
    clear hout
    by_cases hlt : i < 16
    · have hn := cell_keep hbw (HNC.out i hlt)
      have hws := hbw.size
      clear hbw
      have HRB : Hid (rowB (i + 1) = rowB i ++ [.string (Builtin.names.getD i ByteArray.empty), .int .i64 0, .slice none 0 0]) := Lib.hid rfl
      generalize Builtin.names.getD i ByteArray.empty = nm at *
      go_wp2_with (at_builtin; go_must (refine wpList_append_own_at _ rfl _ _ 32 rfl w1.heap.size 78 i0 (.agg #[.string ByteArray.empty, .int .i64 0, .slice none 0 0]) 3 48 Tryz.underlying32 hi0 hz0 hz1 hz2 rfl (by decide) _ i (rowB i) rfl (own_keep HOUT.out ((Below.refl _ _).alloc (Nat.le_refl _) _)) ⟨wr.heap.size, 0, none⟩ 1 1 [.string nm, .int .i64 0, .slice none 0 0] rfl rfl ?c1 ?c2 ?c3 ?c4 ?c5 ?_))
      case c1 => exact World.news_of_block (cs := #[.string nm, .int .i64 0, .slice none 0 0]) (t := 78) (fr := (0, 0)) (heap_alloc_new wr _)
      case c2 => intro u hu; simp at hu; rcases hu with rfl | rfl | rfl <;> rfl
      case c3 => unfold maxLen; omega
      case c4 => omega
      case c5 => simp; omega
      intro v5 w5 hown hgr hnn hat
      obtain ⟨ga, gc, rfl⟩ := Kit.row_form hown
      have HB5 := Lib.hid (HBW.out.trans (app_low2 (base := w1.heap.size) hws HOUT.out hgr))
      rw [← HRB.out] at hown
      have HO5 := Lib.hid hown
      clear hown hgr hnn hat HOUT HBW
      go_wp2_with fail
      go_roundw
      case rel => exact ⟨i + 1, ga, gc, by omega, by go_num, rfl, HO5.out, HB5.out⟩
      case measure => simp [intOf]; omega
    · obtain rfl : i = 16 := by omega
      clear hbw
      have hba : ∃ g, va = some ⟨g, 0, none⟩ := by
        rcases HOUT.out.2 with ⟨h1, h2⟩ | ⟨g', cap', cur, h1, _⟩
        · omega
        · injection h1 with h1; exact ⟨g', h1⟩
      obtain ⟨g, rfl⟩ := hba
      obtain ⟨hf, hc1, hc2⟩ := hf_start (HB1.out.trans (HBW.out.mono HB1.out.size)) HB1.out.size HOUT.out
      have c1 : wr.cell? ⟨g, 1, none⟩ = some (.int .i64 0) := hf.pr 0 (by omega)
      have c7 : wr.cell? ⟨g, 7, none⟩ = some (.int .i64 0) := hf.pr 2 (by omega)
      have c10 : wr.cell? ⟨g, 10, none⟩ = some (.int .i64 0) := hf.pr 3 (by omega)
      have c13 : wr.cell? ⟨g, 13, none⟩ = some (.int .i64 0) := hf.pr 4 (by omega)
      have fz := hf.free
      have HF4 : Hid (Hf w ((((wr.setCell ⟨g, 1, none⟩ (.int .i64 (-1))).setCell ⟨g, 7, none⟩ (.int .i64 1)).setCell ⟨g, 10, none⟩ (.int .i64 2)).setCell ⟨g, 13, none⟩ (.int .i64 2)) g _ _) := Lib.hid ((((hf.setp 0 (by omega) (-1)).setp 2 (by omega) 1).setp 3 (by omega) 2).setp 4 (by omega) 2)
      have HC : Hid (16 ≤ vc ∧ vc ≤ maxLen) := Lib.hid ⟨hc1, hc2⟩
      unfold maxLen at hc2
      clear HOUT hf HB1 HNC HNB HBW
      go_wp2_with fail
      clear c1 c7 c10 c13 fz
      generalize ((((wr.setCell ⟨g, 1, none⟩ (.int .i64 (-1))).setCell ⟨g, 7, none⟩ (.int .i64 1)).setCell ⟨g, 10, none⟩ (.int .i64 2)).setCell ⟨g, 13, none⟩ (.int .i64 2)) = w4 at *
      have HP : Hid (∀ j, j < 16 → (fun j => if j = 4 then (2 : Int) else if j = 3 then 2 else if j = 2 then 1 else if j = 0 then -1 else 0) j = bparents.getD j 0) := Lib.hid (by
        have h : ∀ j : Fin 16, (fun j => if j = 4 then (2 : Int) else if j = 3 then 2 else if j = 2 then 1 else if j = 0 then -1 else 0) j.1 = bparents.getD j.1 0 := by decide
        exact fun j hj => h ⟨j, hj⟩)
      have HF5 : Hid (Hf w w4 g (fun j => if j = 4 then (2 : Int) else if j = 3 then 2 else if j = 2 then 1 else if j = 0 then -1 else 0) (fun _ => false)) := Lib.hid HF4.out
      clear HF4
      generalize (fun j => if j = 4 then (2 : Int) else if j = 3 then 2 else if j = 2 then 1 else if j = 0 then -1 else 0) = pf at *
      go_loopw [4] (fun j wx => ∃ (i : Nat) (tf : Nat → Bool), 1 ≤ i ∧ i ≤ 5 ∧ j = .int .i64 i ∧ (∀ k, tf k = decide (1 ≤ k ∧ k < i)) ∧ Hf w wx g pf tf) (fun j _ => 5 - (intOf j).toNat)
      case atStart => exact ⟨1, fun _ => false, by omega, by omega, rfl, fun k => by simp; omega, HF5.out⟩
      case round =>
        obtain ⟨i, tf, h1, h2, rfl, ht, hf⟩ := hrel
        have HT := Lib.hid ht
        have HF6 := Lib.hid hf
        clear HF5 ht
        by_cases h5 : i < 5
        · obtain ⟨v, hv, -⟩ := hf.fl i (by omega)
          have fz := hf.free
          have HF7 := Lib.hid (hf.setf i (by omega) 9)
          have hba : Below wr.heap.size wr (wr.alloc (.cells #[.string ⟨#[116, 101, 120, 116]⟩] 9)) := (Below.refl _ _).alloc (Nat.le_refl _) _
          have hv2 := cell_keep hba hv
          have hfz2 : (wr.alloc (.cells #[.string ⟨#[116, 101, 120, 116]⟩] 9)).frozen? ⟨g, i * 3 + 2, none⟩ = false := (hba.frozen (p := ⟨g, i * 3 + 2, none⟩) hf.lo.2).trans (fz _)
          clear hba hf
          go_wp2_with fail
          go_roundw
          case rel => exact ⟨i + 1, _, by omega, by omega, by go_num, fun k => by rw [HT.out, Bool.eq_iff_iff]; simp; omega, HF7.out⟩
          case measure => simp [intOf]; omega
        · obtain rfl : i = 5 := by omega
          have HRD := Lib.hid (hf.reads HP.out (fun j hj => by rw [HT.out]; congr 1; simp; omega) HC.out)
          have HRB := Lib.hid hf.below
          clear hf
          go_wp2_with fail
          go_ret
          exact ⟨_, rfl, HRD.out, HRB.out⟩
end Go.Proofs.YtoaocpfehdcfgaaGreatDoor.ImplCore

namespace Go.Proofs.YtoaocpfehdcfgaaGreatDoor.ImplCore
open Go.RowKit
open Strs Tree Core Go.Proofs.YtoaocpfehdcfgaaGreatDoor.Data
open ImplTok (Part)
open SpecCore (builtins builtins_len builtins_at is_cases texts_At texts_take)
set_option linter.unusedVariables false
def DrawnC (w w' : World) : Prop := ∃ m, w' = w.drewN m
theorem DrawnC.more {w w' : World} (h : DrawnC w w') (k : Nat) : DrawnC w (w'.drewN k) := by
  obtain ⟨m, rfl⟩ := h
  exact ⟨m + k, by rw [World.drewN_drewN]⟩
theorem DrawnC.below {w w' : World} (h : DrawnC w w') : Below w.heap.size w w' := by
  obtain ⟨m, rfl⟩ := h
  exact ⟨rfl, rfl, rfl, Nat.le_refl _, fun _ _ => rfl⟩
set_option maxHeartbeats 1000000 in
theorem texts_cons (a1 a2 : Option Addr) (c1 c2 n : Nat) (xs ys : List ByteArray) (w : World) (hx : xs.length = n) (hy : ys.length = n) (hm : n ≤ maxLen)
    (h1 : 0 < n → ∃ b o, a1 = some ⟨b, o, none⟩ ∧ ∀ j (h : j < xs.length), w.cell? ⟨b, o + j, none⟩ = some (.string xs[j]))
    (h2 : 0 < n → ∃ b o, a2 = some ⟨b, o, none⟩ ∧ ∀ j (h : j < ys.length), w.cell? ⟨b, o + j, none⟩ = some (.string ys[j])) :
    Calls Tryz.prog 89 #[.slice a1 n c1, .slice a2 n c2] w fun e w' => e = .returned (.bool (decide (xs = ys))) ∧ DrawnC w w' := by
  unfold maxLen at hm
  have H1 := Lib.hid h1; clear h1
  have H2 := Lib.hid h2; clear h2
  have HX := Lib.hid hx; clear hx
  have HY := Lib.hid hy; clear hy
  generalize hD : decide (xs = ys) = D
  have HD := Lib.hid hD; clear hD
  go_enter Tryz.func89, Tryz.ntmps89
  go_wp2_with fail
  go_loopw [13] (fun j wr => ∃ i : Nat, i ≤ n ∧ j = .int .i64 i ∧ DrawnC w wr ∧ Hid (∀ j (h1 : j < xs.length) (h2 : j < ys.length), j < i → xs[j] = ys[j])) (fun j _ => n - (intOf j).toNat)
  case atStart => exact ⟨0, by omega, rfl, ⟨0, rfl⟩, fun j _ _ h => by omega⟩
  case round =>
    obtain ⟨i, hi, rfl, hdr, HS⟩ := hrel
    have HDR := Lib.hid hdr
    have hbw := hdr.below
    clear hdr
    by_cases hlt : i < n
    · have hix : i < xs.length := by rw [HX.out]; exact hlt
      have hiy : i < ys.length := by rw [HY.out]; exact hlt
      obtain ⟨b1, o1, rfl, d1⟩ := H1.out (by omega)
      obtain ⟨b2, o2, rfl, d2⟩ := H2.out (by omega)
      have hc1 : wr.cell? ⟨b1, o1 + i, none⟩ = some (.string xs[i]) := cell_keep hbw (d1 i hix)
      have hc2 : wr.cell? ⟨b2, o2 + i, none⟩ = some (.string ys[i]) := cell_keep hbw (d2 i hiy)
      clear d1 d2 hbw
      generalize hs : xs[i] = s at *
      generalize ht : ys[i] = t at *
      have HE := Lib.hid (And.intro hs ht); clear hs ht
      by_cases hst : s = t
      · subst hst
        go_wp2_with fail
        go_quiet (fail)
        go_wp2_with fail
        go_roundw
        case rel =>
          refine ⟨i + 1, by omega, by go_num, HDR.out.more _, fun j g1 g2 hj => ?_⟩
          by_cases e : j = i
          · subst e; exact HE.out.1.trans HE.out.2.symm
          · exact HS.out j g1 g2 (by omega)
        case measure => simp [intOf]; omega
      · have hD : D = false := by
          rw [← HD.out]
          refine decide_eq_false fun e => hst ?_
          rw [← HE.out.1, ← HE.out.2]
          simp [e]
        subst hD
        have hb := SpecTexts.beq_no hst
        clear hst
        go_wp2_with fail
        go_quiet (fail)
        go_wp2_with fail
        go_ret
        exact ⟨rfl, HDR.out.more _⟩
    · have hD : D = true := by
        rw [← HD.out]
        refine decide_eq_true ?_
        have h1 := HX.out
        have h2 := HY.out
        exact List.ext_getElem (by omega) fun j g1 g2 => HS.out j g1 g2 (by omega)
      subst hD
      clear hbw
      go_wp2_with fail
      go_ret
      exact ⟨rfl, HDR.out⟩
theorem texts_any {lo1 lo2 : Nat} {xs ys : List ByteArray} {v1 v2 : Value} {w : World} (h1 : Texts lo1 w xs v1) (h2 : Texts lo2 w ys v2) :
    Calls Tryz.prog 89 #[v1, v2] w fun e w' => e = .returned (.bool (decide (xs = ys))) ∧ DrawnC w w' := by
  obtain ⟨a1, c1, rfl, m1, _, d1⟩ := h1
  obtain ⟨a2, c2, rfl, m2, _, d2⟩ := h2
  by_cases h : xs.length = ys.length
  · rw [← h]
    refine texts_cons a1 a2 c1 c2 xs.length xs ys w rfl h.symm (Nat.le_trans m1.1 m1.2) (fun hp => ?_) (fun hp => ?_)
    · obtain ⟨b, o, e, _, d⟩ := d1 hp; exact ⟨b, o, e, d⟩
    · obtain ⟨b, o, e, _, d⟩ := d2 (by omega); exact ⟨b, o, e, d⟩
  · have hne : ¬ (xs.length : Int) = (ys.length : Int) := by omega
    rw [decide_eq_false (fun e : xs = ys => h (by rw [e]))]
    clear d1 d2 m1 m2
    generalize xs.length = n1 at *
    generalize ys.length = n2 at *
    go_enter Tryz.func89, Tryz.ntmps89
    go_wp2_with fail
    go_ret
    exact ⟨rfl, 0, rfl⟩
set_option maxHeartbeats 1000000 in
theorem index_any (v : Value) (xs : List ByteArray) (s : ByteArray) (w : World) (h : At w v xs) :
    Calls Tryz.prog 122 #[v, .string s] w fun e w' => e = .returned (.int .i64 (Chk.index xs s)) ∧ w = w' := by
  obtain ⟨a, cap, rfl, hm, hc⟩ := h
  unfold maxLen at hm
  have HC := Lib.hid hc; clear hc
  generalize hn : xs.length = n at *
  have HN := Lib.hid hn; clear hn
  go_enter Tryz.func122, Tryz.ntmps122
  go_wp2_with fail
  go_loop [8] (fun j => ∃ i : Nat, i ≤ n ∧ j = .int .i64 i ∧ s ∉ xs.take i) (fun j => n - (intOf j).toNat)
  case atStart => exact ⟨0, by omega, rfl, by simp⟩
  case round =>
    obtain ⟨i, hi, rfl, hno⟩ := hrel
    have HNO := Lib.hid hno; clear hno
    by_cases hlt : i < n
    · obtain ⟨b, off, rfl, hcell⟩ := HC.out (by omega)
      have hil : i < xs.length := by rw [HN.out]; exact hlt
      have hci := hcell i hlt
      have HX : Hid (xs.getD i ByteArray.empty = xs[i]) := by show _ = _; simp [List.getD, hil]
      rw [HX.out] at hci
      clear hcell
      by_cases he : xs[i] = s
      · have HR : Hid (Chk.index xs s = i) := Lib.hid (Chk.index_at hil he HNO.out)
        have he2 : (s.toList == xs[i].toList) = true := by rw [he]; simp
        clear HX he
        generalize xs[i] = x at *
        go_wp2_with fail
        go_ret
        exact ⟨by rw [HR.out]; rfl, rfl⟩
      · have hf : (s.toList == xs[i].toList) = false := Chk.ba_ne (fun e => he e.symm)
        have HF : Hid (s ∉ xs.take (i + 1)) := Lib.hid (by
          rw [List.take_succ_eq_append_getElem hil, List.mem_append, List.mem_singleton]
          rintro (h | h)
          · exact HNO.out h
          · exact he h.symm)
        clear he HX
        generalize xs[i] = x at *
        go_wp2_with fail
        go_round
        case rel => exact ⟨i + 1, by omega, by go_num, HF.out⟩
        case measure => simp [intOf]; omega
    · have HR : Hid (Chk.index xs s = -1) := Lib.hid (Chk.index_no (by
        have := HNO.out
        rwa [List.take_of_length_le (by rw [HN.out]; omega)] at this))
      go_wp2_with fail
      go_ret
      exact ⟨by rw [HR.out]; rfl, rfl⟩
theorem has_index (xs : List ByteArray) (s : ByteArray) : Tok.has xs s = decide (Chk.index xs s ≥ 0) := by
  rw [Bool.eq_iff_iff, Chk.has_iff, decide_eq_true_iff]
  exact Chk.index_mem.symm
set_option maxHeartbeats 1000000 in
theorem contains_any (v : Value) (xs : List ByteArray) (s : ByteArray) (w : World) (h : At w v xs) :
    Calls Tryz.prog 109 #[v, .string s] w fun e w' => e = .returned (.bool (Tok.has xs s)) ∧ w = w' := by
  have K := Lib.hid (index_any v xs s w h)
  have HV := Lib.hid (has_index xs s)
  generalize Chk.index xs s = q at *
  generalize Tok.has xs s = r at *
  clear h
  go_enter Tryz.func109, Tryz.ntmps109
  go_wp2_with fail
  refine K.out.mono ?_
  rintro e w1 ⟨rfl, rfl⟩
  go_wp2_with fail
  go_ret
  exact ⟨by rw [HV.out]; rfl, rfl⟩
set_option maxHeartbeats 1000000 in
theorem names_any {lo : Nat} {w : World} {v : Value} {ns : List ByteArray} (h : Texts lo w ns v) : Calls Tryz.prog 108 #[v] w (Part (ns.all Tok.isName) w) := by
  obtain ⟨a, cap, rfl, hm, -, hc⟩ := h
  unfold maxLen at hm
  have KN := fun s w => Lib.hid (ImplTok.is_name s w)
  have HC := Lib.hid hc; clear hc
  generalize hD : ns.all Tok.isName = D
  have HD := Lib.hid hD; clear hD
  obtain ⟨n, hn⟩ : ∃ n, ns.length = n := ⟨_, rfl⟩
  rw [hn] at hm ⊢
  have HN := Lib.hid hn; clear hn
  go_enter Tryz.func108, Tryz.ntmps108
  go_wp2_with fail
  go_loopw [7] (fun j wr => ∃ i : Nat, i ≤ n ∧ j = .int .i64 i ∧ Below w.heap.size w wr ∧ Hid (∀ j (h : j < ns.length), j < i → Tok.isName ns[j] = true)) (fun j _ => n - (intOf j).toNat)
  case atStart => exact ⟨0, by omega, rfl, Below.refl _ _, fun j _ h => by omega⟩
  case round =>
    obtain ⟨i, hi, rfl, hbw, HI⟩ := hrel
    by_cases hlt : i < n
    · have hil : i < ns.length := by rw [HN.out]; exact hlt
      obtain ⟨b, off, rfl, _, hd⟩ := HC.out (by have := HN.out; omega)
      have c0 : wr.cell? ⟨b, off + i, none⟩ = some (.string ns[i]) := cell_keep hbw (hd i hil)
      have HB := Lib.hid hbw
      clear hd hbw
      generalize hs : ns[i] = s at *
      have HS := Lib.hid hs; clear hs
      cases hv : Tok.isName s with
      | true =>
        have KS := Lib.hid (KN s wr).out
        rw [hv] at KS
        have HV := Lib.hid hv; clear hv
        go_wp2_with fail
        refine KS.out.mono ?_
        rintro r w1 ⟨rfl, hb1⟩
        have HB1 := Lib.hid (HB.out.trans (hb1.mono HB.out.size))
        clear hb1 c0
        go_wp2_with fail
        go_roundw
        case rel =>
          refine ⟨i + 1, by omega, by go_num, HB1.out, fun j hj hji => ?_⟩
          by_cases e : j = i
          · subst e; rw [HS.out]; exact HV.out
          · exact HI.out j hj (by omega)
        case measure => simp [intOf]; omega
      | false =>
        have KS := Lib.hid (KN s wr).out
        rw [hv] at KS
        have hD : D = false := by
          rw [← HD.out, List.all_eq_false]
          exact ⟨ns[i], List.getElem_mem hil, by rw [HS.out, hv]; simp⟩
        subst hD
        clear hv
        go_wp2_with fail
        refine KS.out.mono ?_
        rintro r w1 ⟨rfl, hb1⟩
        have HB1 := Lib.hid (HB.out.trans (hb1.mono HB.out.size))
        clear hb1 c0
        go_wp2_with fail
        go_ret
        exact ⟨rfl, HB1.out⟩
    · have hD : D = true := by
        rw [← HD.out, List.all_eq_true]
        intro x hx
        obtain ⟨j, hj, rfl⟩ := List.getElem_of_mem hx
        exact HI.out j hj (by have := HN.out; omega)
      subst hD
      go_wp2_with fail
      go_ret
      exact ⟨rfl, hbw⟩
end Go.Proofs.YtoaocpfehdcfgaaGreatDoor.ImplCore

namespace Go.Proofs.YtoaocpfehdcfgaaGreatDoor.ImplCore
open Go.RowKit
open Strs Tree Core Go.Proofs.YtoaocpfehdcfgaaGreatDoor.Data
open ImplTok (Part)
open SpecCore (builtins builtins_len builtins_at is_cases texts_At texts_take)
set_option linter.unusedVariables false
set_option maxRecDepth 10000 in
set_option maxHeartbeats 4000000 in
theorem equal_any {w : World} {a b : I} {va vb : Value} (ha : Texts 0 w a.fields va) (hb : Texts 0 w b.fields vb) :
    Calls Tryz.prog 66 #[.agg #[.string a.name, .int .i64 a.parent, va], .agg #[.string b.name, .int .i64 b.parent, vb]] w fun e w' => e = .returned (.bool (isB a b)) ∧ Below w.heap.size w w' := by
  have hbW : Below w.heap.size w ((w.alloc (.cells #[.string a.name, .int .i64 a.parent, va] 78)).alloc (.cells #[.string b.name, .int .i64 b.parent, vb] 78)) := ((Below.refl _ _).alloc (Nat.le_refl _) _).alloc (by simp) _
  have KT := Lib.hid (texts_any (ha.below hbW) (hb.below hbW))
  have hic := is_cases a b _ rfl
  obtain ⟨pa, ca, rfl, -⟩ := id ha
  obtain ⟨pb, cb, rfl, -⟩ := id hb
  have HB := Lib.hid hbW
  clear ha hb hbW
  generalize isB a b = R at *
  generalize decide (a.fields = b.fields) = F at *
  generalize a.name = an at *
  generalize b.name = bn at *
  generalize a.parent = ap at *
  generalize b.parent = bp at *
  generalize a.fields.length = la at *
  generalize b.fields.length = lb at *
  obtain ⟨W, hW⟩ : ∃ W, W = ((w.alloc (.cells #[.string an, .int .i64 ap, .slice pa la ca] 78)).alloc (.cells #[.string bn, .int .i64 bp, .slice pb lb cb] 78)) := ⟨_, rfl⟩
  have m0 : W.cell? ⟨w.heap.size, 0, none⟩ = some (.string an) := by rw [hW]; go_simp
  have m1 : W.cell? ⟨w.heap.size, 1, none⟩ = some (.int .i64 ap) := by rw [hW]; go_simp
  have m2 : W.cell? ⟨w.heap.size, 2, none⟩ = some (.slice pa la ca) := by rw [hW]; go_simp
  have n0 : W.cell? ⟨w.heap.size + 1, 0, none⟩ = some (.string bn) := by rw [hW]; go_simp
  have n1 : W.cell? ⟨w.heap.size + 1, 1, none⟩ = some (.int .i64 bp) := by rw [hW]; go_simp
  have n2 : W.cell? ⟨w.heap.size + 1, 2, none⟩ = some (.slice pb lb cb) := by rw [hW]; go_simp
  rw [← hW] at HB KT
  have HWW := Lib.hid hW
  clear hW
  rcases hic with ⟨rfl, hic⟩ | ⟨rfl, rfl, rfl, rfl⟩
  · rcases hic with ⟨f1, f2⟩ | ⟨rfl, f1, f2⟩ | ⟨rfl, rfl, rfl⟩
    case inr.inr =>
      go_enter Tryz.func66, Tryz.ntmps66
      go_upto_region 1 with fail
      rw [← HWW.out]
      go_wp2_with fail
      refine KT.out.mono ?_
      rintro e w2 ⟨rfl, hb2⟩
      have HB2 := Lib.hid (HB.out.trans (hb2.below.mono HB.out.size)); clear hb2 m0 m1 m2 n0 n1 n2
      go_wp2_with fail
      go_ret
      exact ⟨rfl, HB2.out⟩
    all_goals
      go_enter Tryz.func66, Tryz.ntmps66
      go_upto_region 1 with fail
      rw [← HWW.out]
      go_wp2_with fail
      go_ret
      exact ⟨rfl, HB.out⟩
  · go_enter Tryz.func66, Tryz.ntmps66
    go_upto_region 1 with fail
    rw [← HWW.out]
    go_wp2_with fail
    refine KT.out.mono ?_
    rintro e w2 ⟨rfl, hb2⟩
    have HB2 := Lib.hid (HB.out.trans (hb2.below.mono HB.out.size)); clear hb2 m0 m1 m2 n0 n1 n2
    go_wp2_with fail
    go_ret
    exact ⟨rfl, HB2.out⟩
theorem enter_equal (args : Array Value) (w : World) : (callFunc 66 args).run Tryz.prog w = .ok (.enter 66 args) w := by kernel_rfl
def eqAt (cs ds : List I) (i : Nat) : Bool := match cs[i]?, ds[i]? with
  | some a, some b => isB a b
  | _, _ => true
def eqB (cs ds : List I) (n : Nat) : Bool := (List.range n).all (eqAt cs ds)
theorem eqAt_of {cs ds : List I} {i : Nat} {a b : I} (h1 : cs[i]? = some a) (h2 : ds[i]? = some b) : eqAt cs ds i = isB a b := by
  unfold eqAt
  rw [h1, h2]
set_option maxRecDepth 10000 in
set_option maxHeartbeats 8000000 in
theorem equalf_any {w : World} {cs ds : List I} {va vb : Value} {n : Nat} (hc : cs.length = n) (hd : ds.length = n) (h1 : IsAt 0 w va cs) (h2 : IsAt 0 w vb ds) :
    Calls Tryz.prog 64 #[va, vb, .func (.func 66) #[] #[]] w fun e w' => e = .returned (.bool (eqB cs ds n)) ∧ Below w.heap.size w w' := by
  have H1 := Lib.hid h1; have H2 := Lib.hid h2
  obtain ⟨pa, ca, rfl, hm1, -⟩ := h1
  obtain ⟨pb, cb, rfl, hm2, -⟩ := h2
  rw [hc] at hm1 ⊢
  rw [hd] at hm2 ⊢
  rw [hc] at H1
  rw [hd] at H2
  have HC := Lib.hid hc; have HD := Lib.hid hd
  unfold maxLen at hm1 hm2
  have HV : Hid (eqB cs ds n = (List.range n).all (eqAt cs ds)) := Lib.hid rfl
  generalize eqB cs ds n = R at *
  clear hc hd
  go_enter Tryz.func64, Tryz.ntmps64
  go_wp2_with fail
  go_loopw [17] (fun j wr => ∃ i : Nat, i ≤ n ∧ j = .int .i64 i ∧ (List.range i).all (eqAt cs ds) = true ∧ Below w.heap.size w wr) (fun j _ => n - (intOf j).toNat)
  case atStart => exact ⟨0, by omega, rfl, rfl, Below.refl _ _⟩
  case round =>
    obtain ⟨i, hi, rfl, hq, hbw⟩ := hrel
    have HQ := Lib.hid hq; have HBW := Lib.hid hbw
    clear hq hbw
    by_cases hlt : i < n
    case neg =>
      have hR : R = true := by
        have h1 : i = n := by omega
        rw [HV.out, ← h1]; exact HQ.out
      subst hR
      go_wp2_with fail
      go_ret
      exact ⟨rfl, HBW.out⟩
    have hil1 : i < cs.length := by rw [HC.out]; exact hlt
    have hil2 : i < ds.length := by rw [HD.out]; exact hlt
    obtain ⟨a, hca⟩ : ∃ a, cs[i]? = some a := ⟨_, List.getElem?_eq_getElem hil1⟩
    obtain ⟨b, hdb⟩ : ∃ b, ds[i]? = some b := ⟨_, List.getElem?_eq_getElem hil2⟩
    obtain ⟨b1, o1, rfl, -, vf1, x0, x1, x2, hft1, hff1, -⟩ := (H1.out.below HBW.out).at hca
    obtain ⟨b2, o2, rfl, -, vf2, y0, y1, y2, hft2, hff2, -⟩ := (H2.out.below HBW.out).at hdb
    have HPI : Hid (eqAt cs ds i = isB a b) := Lib.hid (eqAt_of hca hdb)
    clear hca hdb hff1 hff2
    have hba : Below wr.heap.size wr (wr.alloc (.cells #[.string a.name, .int .i64 a.parent, vf1] 78)) := (Below.refl _ _).alloc (Nat.le_refl _) _
    have z0 := cell_keep hba y0; have z1 := cell_keep hba y1; have z2 := cell_keep hba y2
    have HB2 : Hid (Below wr.heap.size wr ((wr.alloc (.cells #[.string a.name, .int .i64 a.parent, vf1] 78)).alloc (.cells #[.string b.name, .int .i64 b.parent, vf2] 78))) := Lib.hid (((Below.refl _ _).alloc (Nat.le_refl _) _).alloc (by simp) _)
    have KE := Lib.hid (equal_any (a := a) (b := b) (hft1.below HB2.out) (hft2.below HB2.out))
    obtain ⟨fa, fc, rfl, -⟩ := id hft1
    obtain ⟨fb, fd, rfl, -⟩ := id hft2
    clear hba y0 y1 y2 hft1 hft2
    generalize hI : isB a b = I0 at *
    clear hI
    generalize a.name = an at *
    generalize b.name = bn at *
    generalize a.parent = ap at *
    generalize b.parent = bp at *
    generalize a.fields.length = la at *
    generalize b.fields.length = lb at *
    go_wp2_with fail
    refine KE.out.mono ?_
    rintro e w2 ⟨rfl, hb2⟩
    have HB3 := Lib.hid (HBW.out.trans ((HB2.out.trans (hb2.mono HB2.out.size)).mono HBW.out.size))
    clear hb2 x0 x1 x2 z0 z1 z2 KE
    cases I0 with
    | true =>
      have HN : Hid ((List.range (i + 1)).all (eqAt cs ds) = true) := Lib.hid (range_take HQ.out HPI.out)
      go_wp2_with fail
      go_roundw
      case rel => exact ⟨i + 1, by omega, by go_num, HN.out, HB3.out⟩
      case measure => simp [intOf]; omega
    | false =>
      have hR : R = false := by rw [HV.out]; exact range_no hlt HPI.out
      subst hR
      go_wp2_with fail
      go_ret
      exact ⟨rfl, HB3.out⟩
def clsIx (cs : List I) (nm : ByteArray) : Int := Chk.index (cs.map I.name) nm
theorem clsIx_ne (cs : List I) (nm : ByteArray) : (clsIx cs nm != -1) = cs.any (fun x => decide (x.name = nm)) := by
  have h := @Chk.index_mem (cs.map I.name) nm
  have h2 := (Chk.index_lt (cs.map I.name) nm).1
  unfold clsIx
  rw [Bool.eq_iff_iff, List.any_eq_true, bne_iff_ne]
  constructor
  · intro hn
    obtain ⟨x, hx, e⟩ := List.mem_map.1 (h.1 (by omega))
    exact ⟨x, hx, decide_eq_true e⟩
  · rintro ⟨x, hx, e⟩
    have := h.2 (List.mem_map.2 ⟨x, hx, of_decide_eq_true e⟩)
    omega
set_option maxHeartbeats 1000000 in
theorem closure_any {w : World} {cn nm : ByteArray} {pr : Int} {vf : Value} {p : Nat} (hp : w.cell? ⟨p, 0, none⟩ = some (.string nm)) (hv : ∃ a n c, vf = .slice a n c) :
    Calls Tryz.prog 107 #[.agg #[.string cn, .int .i64 pr, vf], .pointer (some ⟨p, 0, none⟩)] w fun e w' => e = .returned (.bool (decide (cn = nm))) ∧ Below w.heap.size w w' := by
  obtain ⟨a, n, c, rfl⟩ := hv
  have hba : Below w.heap.size w (w.alloc (.cells #[.string cn, .int .i64 pr, .slice a n c] 78)) := (Below.refl _ _).alloc (Nat.le_refl _) _
  have hp2 := cell_keep hba hp
  have HB := Lib.hid hba
  clear hba
  by_cases h : cn = nm
  · have e1 := (SpecCore.str_yes h).1
    rw [decide_eq_true h]
    clear h
    go_enter Tryz.func107, Tryz.ntmps107
    go_wp2_with fail
    go_ret
    exact ⟨rfl, HB.out⟩
  · have e1 := SpecCore.str_no h
    rw [decide_eq_false h]
    clear h
    go_enter Tryz.func107, Tryz.ntmps107
    go_wp2_with fail
    go_ret
    exact ⟨rfl, HB.out⟩
set_option maxRecDepth 10000 in
set_option maxHeartbeats 4000000 in
theorem indexf_any {w : World} {cs : List I} {v : Value} {nm : ByteArray} {p : Nat} (h : IsAt 0 w v cs) (hp : w.cell? ⟨p, 0, none⟩ = some (.string nm)) :
    Calls Tryz.prog 106 #[v, .func (.func 107) #[] #[.pointer (some ⟨p, 0, none⟩)]] w fun e w' => e = .returned (.int .i64 (clsIx cs nm)) ∧ Below w.heap.size w w' := by
  have H1 := Lib.hid h
  obtain ⟨pa, ca, rfl, hm1, -⟩ := h
  generalize hc : cs.length = n at *
  have HC := Lib.hid hc; have HP := Lib.hid hp
  clear hc hp
  unfold maxLen at hm1
  go_enter Tryz.func106, Tryz.ntmps106
  go_wp2_with fail
  go_loopw [8] (fun j wr => ∃ i : Nat, i ≤ n ∧ j = .int .i64 i ∧ nm ∉ (cs.map I.name).take i ∧ Below w.heap.size w wr) (fun j _ => n - (intOf j).toNat)
  case atStart => exact ⟨0, by omega, rfl, by simp, Below.refl _ _⟩
  case round =>
    obtain ⟨i, hi, rfl, hq, hbw⟩ := hrel
    have HQ := Lib.hid hq; have HBW := Lib.hid hbw
    clear hq hbw
    by_cases hlt : i < n
    case neg =>
      have HR : Hid (clsIx cs nm = -1) := Lib.hid (Chk.index_no (by
        have := HQ.out
        rwa [List.take_of_length_le (by rw [List.length_map, HC.out]; omega)] at this))
      go_wp2_with fail
      go_ret
      exact ⟨by rw [HR.out]; rfl, HBW.out⟩
    have hil1 : i < cs.length := by rw [HC.out]; exact hlt
    obtain ⟨a, hca⟩ : ∃ a, cs[i]? = some a := ⟨_, List.getElem?_eq_getElem hil1⟩
    obtain ⟨b1, o1, rfl, -, vf1, x0, x1, x2, hft1, hff1, -⟩ := (H1.out.below HBW.out).at hca
    have hvf : ∃ a n c, vf1 = .slice a n c := by obtain ⟨q, c, rfl, -⟩ := hft1; exact ⟨_, _, _, rfl⟩
    have KE := Lib.hid (closure_any (cn := a.name) (pr := a.parent) (cell_keep HBW.out HP.out) hvf)
    have hiln : i < (cs.map I.name).length := by rw [List.length_map]; exact hil1
    have HX : Hid ((cs.map I.name)[i] = a.name) := Lib.hid (by
      rw [List.getElem_map]
      rw [List.getElem?_eq_getElem hil1] at hca
      rw [Option.some.inj hca])
    obtain ⟨fa, fl, fc, rfl⟩ := hvf
    clear hft1 hff1 hca
    generalize a.name = an at *
    generalize a.parent = ap at *
    by_cases he : an = nm
    · have HR : Hid (clsIx cs nm = i) := Lib.hid (Chk.index_at hiln (HX.out.trans he) HQ.out)
      rw [decide_eq_true he] at KE
      clear he HX hiln
      go_wp2_with fail
      refine KE.out.mono ?_
      rintro e w2 ⟨rfl, hb2⟩
      have HB3 := Lib.hid (HBW.out.trans (hb2.mono HBW.out.size))
      clear hb2 x0 x1 x2 KE
      go_wp2_with fail
      go_ret
      exact ⟨by rw [HR.out]; rfl, HB3.out⟩
    · have HF : Hid (nm ∉ (cs.map I.name).take (i + 1)) := Lib.hid (by
        rw [List.take_succ_eq_append_getElem hiln, List.mem_append, List.mem_singleton]
        rintro (h | h)
        · exact HQ.out h
        · exact he (HX.out.symm.trans h.symm))
      rw [decide_eq_false he] at KE
      clear he HX hiln
      go_wp2_with fail
      refine KE.out.mono ?_
      rintro e w2 ⟨rfl, hb2⟩
      have HB3 := Lib.hid (HBW.out.trans (hb2.mono HBW.out.size))
      clear hb2 x0 x1 x2 KE
      go_wp2_with fail
      go_roundw
      case rel => exact ⟨i + 1, by omega, by go_num, HF.out, HB3.out⟩
      case measure => simp [intOf]; omega
set_option maxHeartbeats 1000000 in
theorem indexc_any {w : World} {cs : List I} {v : Value} {nm : ByteArray} (h : IsAt 0 w v cs) :
    Calls Tryz.prog 91 #[v, .string nm] w fun e w' => e = .returned (.int .i64 (clsIx cs nm)) ∧ Below w.heap.size w w' := by
  have hba : Below w.heap.size w (w.alloc (.cells #[.string nm] 9)) := (Below.refl _ _).alloc (Nat.le_refl _) _
  have K := Lib.hid (indexf_any (nm := nm) (p := w.heap.size) (h.below hba) (by go_simp))
  have HB := Lib.hid hba
  obtain ⟨pa, ca, rfl, -⟩ := h
  clear hba
  generalize cs.length = n at *
  go_enter Tryz.func91, Tryz.ntmps91
  go_wp2_with fail
  refine K.out.mono ?_
  rintro e w2 ⟨rfl, hb2⟩
  have HB3 := Lib.hid (HB.out.trans (hb2.mono HB.out.size))
  clear hb2 K
  go_wp2_with fail
  go_ret
  exact ⟨rfl, HB3.out⟩
end Go.Proofs.YtoaocpfehdcfgaaGreatDoor.ImplCore
