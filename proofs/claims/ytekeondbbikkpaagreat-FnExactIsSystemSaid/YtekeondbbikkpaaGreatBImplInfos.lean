/-
  impl's builtinInfos: the built-in classes.
-/
import Derived.Test.YtekeondbbikkpaaGreatBDataCore
import Derived.Test.YtekeondbbikkpaaGreatBOutRow
import Derived.Test.YtekeondbbikkpaaGreatBSpecInfos
import Derived.Maps.AppendAt
namespace Go.Proofs.YtekeondbbikkpaaGreat.ImplCore
open Go.RowKit
open Strs Tree Core Go.Proofs.YtekeondbbikkpaaGreat.Data
open SpecCore (builtins builtins_len builtins_at bfields_size infoCI app_low2 bnames_len)
set_option linter.unusedVariables false
structure Hf (w0 wr : World) (g : Nat) (pf : Nat → Int) (tf : Nat → Bool) : Prop where
  below : Below w0.heap.size w0 wr
  lo : w0.heap.size ≤ g ∧ g < wr.heap.size
  free : ∀ o, wr.frozen? ⟨g, o, none⟩ = false
  nm : ∀ j, j < 16 → wr.cell? ⟨g, j * 3, none⟩ = some (.string (Builtin.names.getD j ByteArray.empty))
  pr : ∀ j, j < 16 → wr.cell? ⟨g, j * 3 + 1, none⟩ = some (.int .i64 (pf j))
  fl : ∀ j, j < 16 → ∃ v, wr.cell? ⟨g, j * 3 + 2, none⟩ = some v ∧ ((tf j = false ∧ v = .slice none 0 0) ∨ (tf j = true ∧ ∃ b, v = .slice (some ⟨b, 0, none⟩) 1 1 ∧ b ≠ g ∧ wr.cell? ⟨b, 0, none⟩ = some (.string ⟨#[116, 101, 120, 116]⟩)))
theorem hf_other {w : World} {g o o' : Nat} {v u : Value} (h : w.cell? ⟨g, o, none⟩ = some v) (hne : o ≠ o') : (w.setCell ⟨g, o', none⟩ u).cell? ⟨g, o, none⟩ = some v :=
  (World.cell?_setCell_other _ _ _ _ (by intro e; cases e; exact hne rfl)).trans h
theorem hf_block {w : World} {b g o o' : Nat} {v u : Value} (h : w.cell? ⟨b, o, none⟩ = some v) (hne : b ≠ g) : (w.setCell ⟨g, o', none⟩ u).cell? ⟨b, o, none⟩ = some v :=
  (World.cell?_setCell_other _ _ _ _ (by intro e; cases e; exact hne rfl)).trans h
theorem Hf.setp {w0 wr : World} {g : Nat} {pf : Nat → Int} {tf : Nat → Bool} (h : Hf w0 wr g pf tf) (j0 : Nat) (hj : j0 < 16) (x : Int) : Hf w0 (wr.setCell ⟨g, j0 * 3 + 1, none⟩ (.int .i64 x)) g (fun j => if j = j0 then x else pf j) tf := by
  have hb : Below w0.heap.size wr (wr.setCell ⟨g, j0 * 3 + 1, none⟩ (.int .i64 x)) := by
    have h2 : Below g wr (wr.setCell ⟨g, j0 * 3 + 1, none⟩ (.int .i64 x)) := ⟨rfl, rfl, rfl, by simp [World.setCell], fun k hk => Below.heap_setCell wr ⟨g, j0 * 3 + 1, none⟩ _ k (by show k ≠ g; omega)⟩
    exact h2.mono h.lo.1
  refine ⟨h.below.trans hb, ⟨h.lo.1, by have := h.lo.2; simpa [World.setCell] using this⟩, fun o => by have := h.free o; simpa using this, fun j hjj => hf_other (h.nm j hjj) (by omega), fun j hjj => ?_, fun j hjj => ?_⟩
  · by_cases e : j = j0
    · subst e
      rw [if_pos rfl]
      have hc := h.pr j hjj
      have hf := h.free (j * 3 + 1)
      go_simp
    · rw [if_neg e]
      exact hf_other (h.pr j hjj) (by omega)
  · obtain ⟨v, h1, h2⟩ := h.fl j hjj
    refine ⟨v, hf_other h1 (by omega), h2.imp id fun ⟨h3, b, h4, h5, h6⟩ => ⟨h3, b, h4, h5, hf_block h6 h5⟩⟩
theorem Hf.setf {w0 wr : World} {g : Nat} {pf : Nat → Int} {tf : Nat → Bool} (h : Hf w0 wr g pf tf) (j0 : Nat) (hj : j0 < 16) (T : TypeId) :
    Hf w0 ((wr.alloc (.cells #[.string ⟨#[116, 101, 120, 116]⟩] T)).setCell ⟨g, j0 * 3 + 2, none⟩ (.slice (some ⟨wr.heap.size, 0, none⟩) 1 1)) g pf (fun j => decide (j = j0) || tf j) := by
  have hba : Below wr.heap.size wr (wr.alloc (.cells #[.string ⟨#[116, 101, 120, 116]⟩] T)) := (Below.refl _ _).alloc (Nat.le_refl _) _
  have hb : Below w0.heap.size wr ((wr.alloc (.cells #[.string ⟨#[116, 101, 120, 116]⟩] T)).setCell ⟨g, j0 * 3 + 2, none⟩ (.slice (some ⟨wr.heap.size, 0, none⟩) 1 1)) := by
    have h2 : Below g (wr.alloc (.cells #[.string ⟨#[116, 101, 120, 116]⟩] T)) ((wr.alloc (.cells #[.string ⟨#[116, 101, 120, 116]⟩] T)).setCell ⟨g, j0 * 3 + 2, none⟩ (.slice (some ⟨wr.heap.size, 0, none⟩) 1 1)) := ⟨rfl, rfl, rfl, by simp [World.setCell], fun k hk => Below.heap_setCell _ ⟨g, j0 * 3 + 2, none⟩ _ k (by show k ≠ g; omega)⟩
    exact (hba.mono h.below.size).trans (h2.mono h.lo.1)
  have hg := h.lo.2
  have hne : wr.heap.size ≠ g := by omega
  refine ⟨h.below.trans hb, ⟨h.lo.1, by simp [World.setCell]; omega⟩, fun o => by have := (hba.frozen (p := ⟨g, o, none⟩) hg).trans (h.free o); simpa using this, fun j hjj => hf_other (cell_keep hba (h.nm j hjj)) (by omega), fun j hjj => hf_other (cell_keep hba (h.pr j hjj)) (by omega), fun j hjj => ?_⟩
  obtain ⟨v, h1, h2⟩ := h.fl j hjj
  by_cases e : j = j0
  · subst e
    refine ⟨.slice (some ⟨wr.heap.size, 0, none⟩) 1 1, ?_, .inr ⟨by simp, _, rfl, hne, hf_block (by go_simp) hne⟩⟩
    have hc := cell_keep hba h1
    have hf := (hba.frozen (p := ⟨g, j * 3 + 2, none⟩) hg).trans (h.free (j * 3 + 2))
    go_simp
  · refine ⟨v, hf_other (cell_keep hba h1) (by omega), ?_⟩
    rcases h2 with ⟨h3, h4⟩ | ⟨h3, b, h4, h5, h6⟩
    · exact .inl ⟨by simp [e, h3], h4⟩
    · exact .inr ⟨by simp [h3], b, h4, h5, hf_block (cell_keep hba h6) h5⟩
theorem Hf.reads {w0 wr : World} {g cap : Nat} {pf : Nat → Int} {tf : Nat → Bool} (h : Hf w0 wr g pf tf) (hp : ∀ j, j < 16 → pf j = bparents.getD j 0) (ht : ∀ j, j < 16 → tf j = decide (1 ≤ j ∧ j ≤ 4)) (hc : 16 ≤ cap ∧ cap ≤ maxLen) : IsAt 0 wr (.slice (some ⟨g, 0, none⟩) 16 cap) builtins := by
  refine ⟨_, cap, by rw [builtins_len], by rw [builtins_len]; exact hc, fun _ => ⟨g, 0, rfl, Nat.zero_le _, fun i x hx => ?_⟩⟩
  have hi : i < 16 := by have := (List.getElem?_eq_some_iff.1 hx).1; rw [builtins_len] at this; exact this
  rw [builtins_at i hi] at hx
  cases hx
  rw [Nat.zero_add]
  obtain ⟨v, h1, h2⟩ := h.fl i hi
  rw [ht i hi] at h2
  have hw : ∀ j : Fin 16, (Lit.int .i64 (bparents.getD j.1 0)).wf = true := by decide
  refine ⟨v, h.nm i hi, by rw [h.pr i hi, hp i hi]; rfl, h1, ?_, ?_, hw ⟨i, hi⟩⟩
  · show Texts 0 wr (bfields i) v
    rcases h2 with ⟨h3, rfl⟩ | ⟨h3, b, rfl, h5, h6⟩
    · have : bfields i = [] := by unfold bfields; rw [if_neg (of_decide_eq_false h3)]
      rw [this]
      exact ⟨none, 0, rfl, ⟨Nat.le_refl _, by unfold maxLen; omega⟩, fun x h => absurd h (List.not_mem_nil), fun hp => absurd hp (by simp)⟩
    · have : bfields i = [⟨#[116, 101, 120, 116]⟩] := by unfold bfields; rw [if_pos (of_decide_eq_true h3)]
      rw [this]
      refine ⟨_, 1, rfl, ⟨Nat.le_refl _, by unfold maxLen; omega⟩, fun x hx => by simp at hx; subst hx; unfold maxLen; decide, fun _ => ⟨b, 0, rfl, Nat.zero_le _, fun j hj => ?_⟩⟩
      have : j = 0 := by simpa using hj
      subst this
      exact h6
  · show Formed v (bfields i).length
    rcases h2 with ⟨h3, rfl⟩ | ⟨h3, b, rfl, h5, h6⟩
    · have : bfields i = [] := by unfold bfields; rw [if_neg (of_decide_eq_false h3)]
      rw [this]; exact .inl ⟨rfl, rfl⟩
    · have : bfields i = [⟨#[116, 101, 120, 116]⟩] := by unfold bfields; rw [if_pos (of_decide_eq_true h3)]
      rw [this]; exact .inr ⟨b, 0, 1, rfl⟩
def rowB : Nat → List Value
  | 0 => []
  | n + 1 => rowB n ++ [.string (Builtin.names.getD n ByteArray.empty), .int .i64 0, .slice none 0 0]
theorem rowB_len : ∀ n, (rowB n).length = n * 3
  | 0 => rfl
  | n + 1 => by rw [rowB, List.length_append, rowB_len n]; show n * 3 + 3 = _; omega
theorem rowB_at : ∀ n j, j < n → (rowB n)[j * 3]? = some (.string (Builtin.names.getD j ByteArray.empty)) ∧ (rowB n)[j * 3 + 1]? = some (.int .i64 0) ∧ (rowB n)[j * 3 + 2]? = some (.slice none 0 0)
  | 0, j, h => by omega
  | n + 1, j, h => by
    have hl := rowB_len n
    by_cases e : j = n
    · subst e
      rw [rowB]
      refine ⟨?_, ?_, ?_⟩
      · rw [List.getElem?_append_right (by omega), hl, Nat.sub_self]; rfl
      · rw [List.getElem?_append_right (by omega), hl, show j * 3 + 1 - j * 3 = 1 by omega]; rfl
      · rw [List.getElem?_append_right (by omega), hl, show j * 3 + 2 - j * 3 = 2 by omega]; rfl
    · obtain ⟨h1, h2, h3⟩ := rowB_at n j (by omega)
      rw [rowB]
      exact ⟨by rw [List.getElem?_append_left (by omega)]; exact h1, by rw [List.getElem?_append_left (by omega)]; exact h2, by rw [List.getElem?_append_left (by omega)]; exact h3⟩
theorem hf_start {w wr : World} {T : TypeId} {b0 g cap : Nat} (hb : Below w.heap.size w wr) (h0 : w.heap.size ≤ b0) (h : wr.ownsRow b0 T 3 (.slice (some ⟨g, 0, none⟩) 16 cap) 16 (rowB 16)) : Hf w wr g (fun _ => 0) (fun _ => false) ∧ 16 ≤ cap ∧ cap ≤ maxLen := by
  have hlt := h.lt g rfl
  have hat : ∀ j, j < 48 → wr.cell? ⟨g, j, none⟩ = (rowB 16)[j]? := fun j hj => h.cellAt j (by omega)
  have hfr : ∀ o, wr.frozen? ⟨g, o, none⟩ = false := fun o => by
    rcases h.2 with ⟨h1, _⟩ | ⟨g', cap', cur, h1, h2, h3, h4, h5, h6⟩
    · simp at h1
    · simp only [Value.slice.injEq, Option.some.injEq, Addr.mk.injEq, and_true, true_and] at h1
      obtain ⟨rfl, rfl⟩ := h1
      simp [World.frozen?, h3]
  have hcap : 16 ≤ cap ∧ cap ≤ maxLen := by
    rcases h.2 with ⟨h1, _⟩ | ⟨g', cap', cur, h1, h2, h3, h4, h5, h6⟩
    · simp at h1
    · simp only [Value.slice.injEq, Option.some.injEq, Addr.mk.injEq, and_true, true_and] at h1
      obtain ⟨rfl, rfl⟩ := h1
      exact ⟨h4, h5⟩
  exact ⟨⟨hb, ⟨Nat.le_trans h0 hlt.1, hlt.2⟩, hfr, fun j hj => by rw [hat _ (by omega)]; exact (rowB_at 16 j hj).1, fun j hj => by rw [hat _ (by omega)]; exact (rowB_at 16 j hj).2.1, fun j hj => ⟨.slice none 0 0, by rw [hat _ (by omega)]; exact (rowB_at 16 j hj).2.2, .inl ⟨rfl, rfl⟩⟩⟩, hcap⟩
set_option maxRecDepth 10000 in
set_option maxHeartbeats 16000000 in
theorem infosI_any (w : World) :
    Calls Tryz.prog 43 #[] w fun e w' => ∃ v, e = .returned v ∧ IsAt 0 w' v builtins ∧ Below w.heap.size w w' := by
  have KB := Lib.hid (Builtin.impl_any w)
  obtain ⟨i0, hi0, hz0, hz1, hz2⟩ := info_parts infoCI
  go_enter Tryz.func43, Tryz.ntmps43
  go_wp2_with fail
  refine KB.out.mono ?_
  rintro e w1 ⟨vn, rfl, hon, hb1⟩
  have HB1 := Lib.hid hb1
  obtain ⟨na, nc, rfl, hnm, hnc⟩ := id (at_own hon)
  rw [bnames_len] at hnm hnc ⊢
  obtain ⟨nb, no, rfl, hncell⟩ := hnc (by omega)
  have HNC : Hid (∀ j, j < 16 → w1.cell? ⟨nb, no + j, none⟩ = some (.string (Builtin.names.getD j ByteArray.empty))) := Lib.hid (fun j hj => hncell j hj)
  have HNB : Hid (nb < w1.heap.size) := Lib.hid (hon.lt nb rfl).2
  clear KB hb1 hon hnc hncell
  unfold maxLen at hnm
  go_wp2_with fail
  go_loopw [1, 7] (fun s j wr => ∃ (i : Nat) (va : Option Addr) (vc : Nat), i ≤ 16 ∧ j = .int .i64 i ∧ s = .slice va i vc ∧ wr.ownsRow w1.heap.size 76 3 (.slice va i vc) i (rowB i) ∧ Below w1.heap.size w1 wr) (fun _ j _ => 16 - (intOf j).toNat)
  case atStart => exact ⟨0, none, 0, by omega, rfl, rfl, ⟨by simp [rowB], .inl ⟨rfl, rfl⟩⟩, Below.refl _ _⟩
  case round =>
    obtain ⟨i, va, vc, hi, rfl, rfl, hout, hbw⟩ := hrel
    have HOUT := Lib.hid hout; have HBW := Lib.hid hbw
    clear hout
    by_cases hlt : i < 16
    · have hn := cell_keep hbw (HNC.out i hlt)
      have hws := hbw.size
      clear hbw
      have HRB : Hid (rowB (i + 1) = rowB i ++ [.string (Builtin.names.getD i ByteArray.empty), .int .i64 0, .slice none 0 0]) := Lib.hid rfl
      generalize Builtin.names.getD i ByteArray.empty = nm at *
      go_wp2_with (at_builtin; go_must (refine wpList_append_own_at _ rfl _ _ 33 rfl w1.heap.size 76 i0 (.agg #[.string ByteArray.empty, .int .i64 0, .slice none 0 0]) 3 48 Tryz.underlying33 hi0 hz0 hz1 hz2 rfl (by decide) _ i (rowB i) rfl (own_keep HOUT.out ((Below.refl _ _).alloc (Nat.le_refl _) _)) ⟨wr.heap.size, 0, none⟩ 1 1 [.string nm, .int .i64 0, .slice none 0 0] rfl rfl ?c1 ?c2 ?c3 ?c4 ?c5 ?_))
      case c1 => exact World.news_of_block (cs := #[.string nm, .int .i64 0, .slice none 0 0]) (t := 76) (fr := (0, 0)) (heap_alloc_new wr _)
      case c2 => intro u hu; simp at hu; rcases hu with rfl | rfl | rfl <;> rfl
      case c3 => unfold maxLen; omega
      case c4 => omega
      case c5 => simp; omega
      intro v5 w5 hown hgr hnn hat
      obtain ⟨ga, gc, rfl⟩ := Kit.row_form hown
      have HB5 := Lib.hid (HBW.out.trans (app_low2 (base := w1.heap.size) hws HOUT.out hgr))
      rw [← HRB.out] at hown
      have HO5 := Lib.hid hown
      clear hown hgr hnn hat HOUT HBW
      go_wp2_with fail
      go_roundw
      case rel => exact ⟨i + 1, ga, gc, by omega, by go_num, rfl, HO5.out, HB5.out⟩
      case measure => simp [intOf]; omega
    · obtain rfl : i = 16 := by omega
      clear hbw
      have hba : ∃ g, va = some ⟨g, 0, none⟩ := by
        rcases HOUT.out.2 with ⟨h1, h2⟩ | ⟨g', cap', cur, h1, _⟩
        · omega
        · injection h1 with h1; exact ⟨g', h1⟩
      obtain ⟨g, rfl⟩ := hba
      obtain ⟨hf, hc1, hc2⟩ := hf_start (HB1.out.trans (HBW.out.mono HB1.out.size)) HB1.out.size HOUT.out
      have c1 : wr.cell? ⟨g, 1, none⟩ = some (.int .i64 0) := hf.pr 0 (by omega)
      have c7 : wr.cell? ⟨g, 7, none⟩ = some (.int .i64 0) := hf.pr 2 (by omega)
      have c10 : wr.cell? ⟨g, 10, none⟩ = some (.int .i64 0) := hf.pr 3 (by omega)
      have c13 : wr.cell? ⟨g, 13, none⟩ = some (.int .i64 0) := hf.pr 4 (by omega)
      have fz := hf.free
      have HF4 : Hid (Hf w ((((wr.setCell ⟨g, 1, none⟩ (.int .i64 (-1))).setCell ⟨g, 7, none⟩ (.int .i64 1)).setCell ⟨g, 10, none⟩ (.int .i64 2)).setCell ⟨g, 13, none⟩ (.int .i64 2)) g _ _) := Lib.hid ((((hf.setp 0 (by omega) (-1)).setp 2 (by omega) 1).setp 3 (by omega) 2).setp 4 (by omega) 2)
      have HC : Hid (16 ≤ vc ∧ vc ≤ maxLen) := Lib.hid ⟨hc1, hc2⟩
      unfold maxLen at hc2
      clear HOUT hf HB1 HNC HNB HBW
      go_wp2_with fail
      clear c1 c7 c10 c13 fz
      generalize ((((wr.setCell ⟨g, 1, none⟩ (.int .i64 (-1))).setCell ⟨g, 7, none⟩ (.int .i64 1)).setCell ⟨g, 10, none⟩ (.int .i64 2)).setCell ⟨g, 13, none⟩ (.int .i64 2)) = w4 at *
      have HP : Hid (∀ j, j < 16 → (fun j => if j = 4 then (2 : Int) else if j = 3 then 2 else if j = 2 then 1 else if j = 0 then -1 else 0) j = bparents.getD j 0) := Lib.hid (by
        have h : ∀ j : Fin 16, (fun j => if j = 4 then (2 : Int) else if j = 3 then 2 else if j = 2 then 1 else if j = 0 then -1 else 0) j.1 = bparents.getD j.1 0 := by decide
        exact fun j hj => h ⟨j, hj⟩)
      have HF5 : Hid (Hf w w4 g (fun j => if j = 4 then (2 : Int) else if j = 3 then 2 else if j = 2 then 1 else if j = 0 then -1 else 0) (fun _ => false)) := Lib.hid HF4.out
      clear HF4
      generalize (fun j => if j = 4 then (2 : Int) else if j = 3 then 2 else if j = 2 then 1 else if j = 0 then -1 else 0) = pf at *
      go_loopw [4] (fun j wx => ∃ (i : Nat) (tf : Nat → Bool), 1 ≤ i ∧ i ≤ 5 ∧ j = .int .i64 i ∧ (∀ k, tf k = decide (1 ≤ k ∧ k < i)) ∧ Hf w wx g pf tf) (fun j _ => 5 - (intOf j).toNat)
      case atStart => exact ⟨1, fun _ => false, by omega, by omega, rfl, fun k => by simp; omega, HF5.out⟩
      case round =>
        obtain ⟨i, tf, h1, h2, rfl, ht, hf⟩ := hrel
        have HT := Lib.hid ht
        have HF6 := Lib.hid hf
        clear HF5 ht
        by_cases h5 : i < 5
        · obtain ⟨v, hv, -⟩ := hf.fl i (by omega)
          have fz := hf.free
          have HF7 := Lib.hid (hf.setf i (by omega) 9)
          have hba : Below wr.heap.size wr (wr.alloc (.cells #[.string ⟨#[116, 101, 120, 116]⟩] 9)) := (Below.refl _ _).alloc (Nat.le_refl _) _
          have hv2 := cell_keep hba hv
          have hfz2 : (wr.alloc (.cells #[.string ⟨#[116, 101, 120, 116]⟩] 9)).frozen? ⟨g, i * 3 + 2, none⟩ = false := (hba.frozen (p := ⟨g, i * 3 + 2, none⟩) hf.lo.2).trans (fz _)
          clear hba hf
          go_wp2_with fail
          go_roundw
          case rel => exact ⟨i + 1, _, by omega, by omega, by go_num, fun k => by rw [HT.out, Bool.eq_iff_iff]; simp; omega, HF7.out⟩
          case measure => simp [intOf]; omega
        · obtain rfl : i = 5 := by omega
          have HRD := Lib.hid (hf.reads HP.out (fun j hj => by rw [HT.out]; congr 1; simp; omega) HC.out)
          have HRB := Lib.hid hf.below
          clear hf
          go_wp2_with fail
          go_ret
          exact ⟨_, rfl, HRD.out, HRB.out⟩
end Go.Proofs.YtekeondbbikkpaaGreat.ImplCore
