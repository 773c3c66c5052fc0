/-
  slices.Concat of two rows of texts: a row of the call's own with the texts of both.
-/
import Derived.Test.YtdohpppkdecbdaaGreatDoorBAppendTexts
import Derived.Lib.AppendZerosOnto
import Derived.Lib.AppendZeros
import Derived.LoopN
namespace Go.Proofs.YtdohpppkdecbdaaGreatDoor.ImplConcat
open Go.RowKit
open Strs Tree Go.Proofs.YtdohpppkdecbdaaGreatDoor.Data
set_option maxRecDepth 10000 in
set_option maxHeartbeats 4000000 in
theorem grow_any (n : Nat) (w : World) (hn : n ≤ 4398046511104) :
    Calls Tryz.prog 81 #[.slice none 0 0, .int .i64 n] w fun e w' => ∃ v', e = .returned v' ∧ w'.ownsRow w.heap.size 9 1 v' 0 [] ∧ Below w.heap.size w w' := by
  by_cases h0 : n = 0
  · subst h0
    go_enter Tryz.func81, Tryz.ntmps81
    go_wp2_with fail
    go_ret
    exact ⟨_, rfl, World.ownsRow_nil _ _ _ _, Below.refl _ _⟩
  · obtain ⟨i0, hi, hz0, hz1, hz2⟩ := info_parts infoTx
    have hrz : ∀ ty, (Builtin.append_ #[23, 3] ty #[.slice none 0 0, .int .i64 (n : Int)]).run Tryz.prog w =
        .ok (.slice (some ⟨w.heap.size, 0, none⟩) n (grownCap w n 0 9)) (w.drew.alloc (.cells (#[] ++ Builtin.zeroCells (Value.string ByteArray.empty).cells n ++ Builtin.zeroCells (Value.string ByteArray.empty).cells (grownCap w n 0 9 - n)) 9)) := fun ty => by
      have h := Lib.run_append_grow_zeros w 23 3 ty 9 i0 (.string ByteArray.empty) .i64 .i64 Tryz.underlying23 Tryz.underlying3 hi hz0 none 0 0 [] (run_firstCells_none w.drew i0.size 0 0 0) n (by omega) (by omega) (by omega) (by omega) (by rw [hz2]; omega)
        (by rw [Nat.zero_add]; exact growslice_fits (by omega) (by rw [hz2]; omega))
      rw [Nat.zero_add] at h
      exact h
    have hG : n ≤ grownCap w n 0 9 := grownCap_ge w _ _ _
    have hGm : grownCap w n 0 9 ≤ maxLen := grownCap_le_maxLen w n 0 9 (by unfold maxLen; omega)
    generalize grownCap w n 0 9 = G at *
    have hown : (w.drew.alloc (.cells (#[] ++ Builtin.zeroCells (Value.string ByteArray.empty).cells n ++ Builtin.zeroCells (Value.string ByteArray.empty).cells (G - n)) 9)).ownsRow w.heap.size 9 1 (.slice (some ⟨w.heap.size, 0, none⟩) 0 G) 0 [] :=
      World.ownsRow_made (base := w.heap.size) (e := 9) (size := 1) w.drew _ G (Nat.le_refl _) hGm (by
        have e1 : (Value.string ByteArray.empty).cells.size = 1 := rfl
        rw [Array.size_append, Array.size_append, size_zeroCells, size_zeroCells, e1]
        simp
        omega)
    have hbw : Below w.heap.size w (w.drew.alloc (.cells (#[] ++ Builtin.zeroCells (Value.string ByteArray.empty).cells n ++ Builtin.zeroCells (Value.string ByteArray.empty).cells (G - n)) 9)) := ((Below.refl _ _).drew).alloc (Nat.le_refl _) _
    have HO := Lib.hid hown
    have HB := Lib.hid hbw
    clear hown hbw
    unfold maxLen at hGm
    generalize w.drew.alloc (.cells (#[] ++ Builtin.zeroCells (Value.string ByteArray.empty).cells n ++ Builtin.zeroCells (Value.string ByteArray.empty).cells (G - n)) 9) = W at *
    have hpos : ((n : Int) > 0) := by omega
    go_enter Tryz.func81, Tryz.ntmps81
    go_wp2_with (at_builtin; refine Lib.wpList_append_run _ rfl _ _ _ _ rfl _ _ rfl rfl _ _ (hrz _) ?_)
    all_goals (go_ret; exact ⟨_, rfl, HO.out, HB.out⟩)
set_option maxRecDepth 10000 in
set_option maxHeartbeats 8000000 in
theorem concat_any {l1 l2 : Nat} {w : World} {xs ys : List ByteArray} {vx vy : Value} {g c : Nat} (hx : Texts l1 w xs vx) (fx : Formed vx xs.length) (hy : Texts l2 w ys vy) (fy : Formed vy ys.length) (h0 : w.cell? ⟨g, 0, none⟩ = some vx) (h1 : w.cell? ⟨g, 1, none⟩ = some vy) (hl : xs.length + ys.length ≤ 4398046511104) :
    Calls Tryz.prog 70 #[.slice (some ⟨g, 0, none⟩) 2 c] w fun r w' => ∃ ra rc, r = .returned (.slice ra (xs.length + ys.length) rc) ∧ Texts w.heap.size w' (xs ++ ys) (.slice ra (xs.length + ys.length) rc) ∧ Below w.heap.size w w' := by
  have kg := grow_any (xs.length + ys.length) w hl
  rw [Int.natCast_add] at kg
  have KG := Lib.hid kg
  clear kg
  have hgl : g < w.heap.size := cell_lt h0
  have HX := Lib.hid hx
  have HY := Lib.hid hy
  have FX := Lib.hid fx
  have FY := Lib.hid fy
  obtain ⟨pa, pc, rfl, -⟩ := id hx
  obtain ⟨ta, tc, rfl, -⟩ := id hy
  clear hx hy fx fy
  generalize hn1 : xs.length = n1 at *
  generalize hn2 : ys.length = n2 at *
  have HN1 := Lib.hid hn1
  have HN2 := Lib.hid hn2
  clear hn1 hn2
  go_enter Tryz.func70, Tryz.ntmps70
  go_wp2_with fail
  refine wp_loop_rounds 3 ?_
  rw [rounds_succ]
  go_wp2_with fail
  rw [rounds_succ]
  go_wp2_with fail
  rw [rounds_succ]
  go_wp2_with fail
  refine KG.out.mono ?_
  rintro e w1 ⟨v1, rfl, hown, hb1⟩
  obtain ⟨ra, rc, rfl⟩ := Kit.row_form hown
  have HO1 := Lib.hid hown
  have HB1 := Lib.hid hb1
  have k0 := cell_keep hb1 h0
  have k1 := cell_keep hb1 h1
  clear hown hb1 KG h0 h1
  go_wp2_with fail
  refine wp_loop_rounds 3 ?_
  rw [rounds_succ]
  go_wp2_with (at_builtin; go_must (refine wpList_append_texts rfl _ _ rfl w.heap.size _ [] rfl HO1.out (.slice pa n1 pc) xs l1 rfl (HX.out.below HB1.out) (by rw [HN1.out]; exact FX.out) (by rw [HN1.out]; simp; omega) HB1.out.size ?_))
  intro v2 w2 hown hlow
  have HO2 := Lib.hid hown
  have HB2 := Lib.hid (HB1.out.trans hlow)
  have hg : g < w.heap.size := hgl
  have m1 := ((hlow.cell (p := ⟨g, 1, none⟩) hg).trans k1)
  obtain ⟨sa, sc, rfl⟩ := Kit.row_form hown
  clear hown hlow HO1 HB1 k0 k1
  go_wp2_with fail
  rw [rounds_succ]
  go_wp2_with (at_builtin; go_must (refine wpList_append_texts rfl _ _ rfl w.heap.size _ xs rfl HO2.out (.slice ta n2 tc) ys l2 rfl (HY.out.below HB2.out) (by rw [HN2.out]; exact FY.out) (by rw [HN1.out, HN2.out]; exact hl) HB2.out.size ?_))
  intro v3 w3 hown hlow
  have HB3 := Lib.hid (HB2.out.trans hlow)
  obtain ⟨ua, uc, rfl⟩ := Kit.row_form hown
  have HO3 := Lib.hid hown
  clear hown hlow HO2 HB2 m1
  go_wp2_with fail
  rw [rounds_succ]
  go_wp2_with fail
  go_ret
  have hx : ∀ x, x ∈ xs ++ ys → x.size ≤ maxLen := fun x hx => by
    obtain ⟨_, _, _, _, s1, _⟩ := HX.out
    obtain ⟨_, _, _, _, s2, _⟩ := HY.out
    rcases List.mem_append.1 hx with h1 | h1
    · exact s1 x h1
    · exact s2 x h1
  have hr : Row w.heap.size _ 9 1 (.slice ua (xs ++ ys).length uc) (strs (xs ++ ys)) := strs_row (by rw [List.length_append, List.map_append]; exact HO3.out) hx
  have ho := row_iff.2 hr
  have ht := strs_texts (t := 9) (xs := xs ++ ys) (holdss_iff.1 ho.holds (.row 9 1 (.slice ua (xs ++ ys).length uc) (strs (xs ++ ys))) (by simp))
  rw [List.length_append, HN1.out, HN2.out] at ht
  exact ⟨ua, uc, by rw [← HN1.out, ← HN2.out]; rfl, ht, HB3.out⟩
end Go.Proofs.YtdohpppkdecbdaaGreatDoor.ImplConcat
