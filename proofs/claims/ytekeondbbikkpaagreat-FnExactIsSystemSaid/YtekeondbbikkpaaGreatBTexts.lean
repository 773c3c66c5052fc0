/-
  laws.szStringS, toStringS and eqStringS over slices of texts: what they answer, and that they write nothing that was there.
-/
import Derived.Test.YtekeondbbikkpaaGreatBTreeOk
import Derived.Outline
import Derived.Deep.QuietTactic
import Derived.BigQuiet
import Derived.Deep.RegionWith
import Derived.Deep.RegionHeld3
namespace Go.Proofs.YtekeondbbikkpaaGreat.Texts
open Go.RowKit
open Strs Tree
theorem info9 : (Tryz.prog.info? 9).map (fun i => (i.zero, i.size, i.bytes)) = some (some (.string ByteArray.empty), 1, 16) := by kernel_rfl
def after (left n : Nat) : Int := if n ≤ left then ((left - n : Nat) : Int) else -1
theorem after_yes {left n : Nat} (h : n ≤ left) : after left n = ((left - n : Nat) : Int) := if_pos h
theorem after_no {left n : Nat} (h : left < n) : after left n = -1 := if_neg (Nat.not_le.2 h)
theorem sz_nil (a : Option Addr) (c left : Nat) (w : World) (hl : left ≤ 1048576) :
    Calls Tryz.prog 52 #[.slice a 0 c, .int .i64 left] w fun e w' => e = .returned (.int .i64 (after left 0)) ∧ w = w' := by
  rw [after_yes (Nat.zero_le _)]
  go_enter Tryz.func52, Tryz.ntmps52
  go_wp2_with fail
  refine wp_loop_rounds 1 ?_
  rw [rounds_succ]
  go_wp2_with fail
  go_ret
  exact ⟨by simp, rfl⟩
set_option maxHeartbeats 1000000 in
theorem sz_cons (b off cap n left : Nat) (xs : List ByteArray) (w : World) (hn : xs.length = n) (hm : n ≤ maxLen) (hl : left ≤ 1048576) (hc : ∀ j (h : j < xs.length), w.cell? ⟨b, off + j, none⟩ = some (.string xs[j])) (hz : ∀ x, x ∈ xs → x.size ≤ maxLen) :
    Calls Tryz.prog 52 #[.slice (some ⟨b, off, none⟩) n cap, .int .i64 left] w fun e w' => e = .returned (.int .i64 (after left (n + lens xs))) ∧ w = w' := by
  unfold maxLen at hm
  have HN := Lib.hid hn; clear hn
  have HL := Lib.hid hc; clear hc
  have HZ := Lib.hid hz; clear hz
  by_cases hbig : (left : Int) - (n : Int) < 0
  · rw [after_no (by omega)]
    go_enter Tryz.func52, Tryz.ntmps52
    go_wp2_with fail
    go_ret
    exact ⟨rfl, rfl⟩
  · generalize hR : after left (n + lens xs) = R
    have HR := Lib.hid hR; clear hR
    go_enter Tryz.func52, Tryz.ntmps52
    go_wp2_with fail
    go_loop [1, 5] (fun t j => ∃ i q : Nat, i ≤ n ∧ j = .int .i64 i ∧ lens (xs.take i) = q ∧ (q : Int) ≤ left - n ∧ t = .int .i64 ((left : Int) - (n : Int) - (q : Int))) (fun _ j => n - (intOf j).toNat)
    case atStart => exact ⟨0, 0, by omega, rfl, rfl, by omega, by go_num⟩
    case round =>
      obtain ⟨i, q, hi, rfl, hq, hq2, rfl⟩ := hrel
      have HQ := Lib.hid hq; clear hq
      by_cases hlt : i < n
      · have hil : i < xs.length := by rw [HN.out]; exact hlt
        have hcell : w.cell? ⟨b, off + i, none⟩ = some (.string xs[i]) := HL.out i hil
        have hsz := HZ.out _ (List.getElem_mem hil)
        unfold maxLen at hsz
        have HT : Hid (lens (xs.take (i + 1)) = q + xs[i].size) := by show _ = _; rw [lens_take _ _ hil, HQ.out]
        generalize xs[i] = x at *
        by_cases hneg : (left : Int) - (n : Int) - (q : Int) - (x.size : Int) < 0
        · have hR : R = -1 := by
            rw [← HR.out]
            have h1 := HT.out
            have h2 := lens_le xs (i + 1)
            exact after_no (by omega)
          subst hR
          go_wp2_with fail
          go_ret
          exact ⟨rfl, rfl⟩
        · go_wp2_with fail
          go_round
          case rel => exact ⟨i + 1, q + x.size, by omega, by go_num, HT.out, by omega, by go_num⟩
          case measure => simp [intOf]; omega
      · have hR : R = (left : Int) - (n : Int) - (q : Int) := by
          have h1 : i = n := by omega
          have h2 := HQ.out
          rw [h1, List.take_of_length_le (by rw [HN.out]; exact Nat.le_refl _)] at h2
          rw [← HR.out, h2, after_yes (by omega)]
          omega
        have HR2 := Lib.hid hR; clear hR
        go_wp2_with fail
        go_ret
        exact ⟨by rw [HR2.out]; rfl, rfl⟩
theorem sz_any {lo left : Nat} {xs : List ByteArray} {v : Value} {w : World} (h : Texts lo w xs v) (hl : left ≤ 1048576) :
    Calls Tryz.prog 52 #[v, .int .i64 left] w fun e w' => e = .returned (.int .i64 (after left (xs.length + lens xs))) ∧ w = w' := by
  obtain ⟨a, cap, rfl, hm, hs, hc⟩ := h
  by_cases hp : 0 < xs.length
  · obtain ⟨b, off, rfl, hb, hd⟩ := hc hp
    exact sz_cons b off cap _ left xs w rfl (Nat.le_trans hm.1 hm.2) hl hd hs
  · have : xs = [] := List.eq_nil_of_length_eq_zero (by omega)
    subst this
    exact sz_nil a cap left w hl
def Copied (xs : List ByteArray) (n : Nat) (w : World) (e : Ending) (w' : World) : Prop :=
  e = .returned (.slice (some ⟨w.heap.size, 0, none⟩) n n) ∧ w'.ownsRow w.heap.size 9 1 (.slice (some ⟨w.heap.size, 0, none⟩) n n) n (xs.map Value.string) ∧ Below w.heap.size w w'
set_option maxHeartbeats 400000 in
theorem to_nil (a : Option Addr) (c : Nat) (w : World) :
    Calls Tryz.prog 63 #[.slice a 0 c] w (Copied [] 0 w) := by
  obtain ⟨i0, hi, hz0, hz1, hz2⟩ := info_parts info9
  go_enter Tryz.func63, Tryz.ntmps63
  go_wp2_with (at_make; refine wpList_make_full _ rfl _ _ 64 rfl w.heap.size 9 i0 (.string ByteArray.empty) 1 Tryz.underlying64 hi hz0 hz1 .i64 .i64 _ _ 0 rfl rfl rfl rfl ?c2 ?c3 (Nat.le_refl _) ?_)
  case c2 => omega
  case c3 => unfold maxLen; omega
  intro w1 hown hgr
  have hbl : Below w.heap.size w w1 := (Below.refl _ _).grown hgr (Nat.le_refl _) (by simp)
  have HO : Hid (w1.ownsRow w.heap.size 9 1 (.slice (some ⟨w.heap.size, 0, none⟩) 0 0) 0 ([].map Value.string)) := by show World.ownsRow _ _ _ _ _ _ _; simpa [madeCells] using hown
  clear hown hgr
  go_wp2_with fail
  refine wp_loop_rounds 1 ?_
  rw [rounds_succ]
  go_wp2_with fail
  go_ret
  exact ⟨rfl, HO.out, hbl⟩
theorem made_str (n : Nat) : (madeCells #[Value.string ByteArray.empty] n).toList = (List.replicate n ByteArray.empty).map Value.string := by
  apply List.ext_getElem <;> simp [madeCells, Nat.mod_one]
theorem copy_set (xs : List ByteArray) (i n : Nat) (hn : xs.length = n) (hi : i < xs.length) : (xs.take i ++ List.replicate (n - i) ByteArray.empty).set i xs[i] = xs.take (i + 1) ++ List.replicate (n - (i + 1)) ByteArray.empty := by
  have hl : (xs.take i).length = i := by rw [List.length_take]; omega
  rw [List.set_append_right _ _ (by omega), hl, Nat.sub_self, show n - i = (n - (i + 1)) + 1 by omega, List.replicate_succ, List.set_cons_zero, List.take_succ_eq_append_getElem (by omega), List.append_assoc]
  rfl
set_option maxHeartbeats 1000000 in
theorem to_cons (b off cap n : Nat) (xs : List ByteArray) (w : World) (hn : xs.length = n) (hm : n ≤ 1048576) (hl : ∀ j (h : j < xs.length), w.cell? ⟨b, off + j, none⟩ = some (.string xs[j])) :
    Calls Tryz.prog 63 #[.slice (some ⟨b, off, none⟩) n cap] w (Copied xs n w) := by
  obtain ⟨i0, hi, hz0, hz1, hz2⟩ := info_parts info9
  have HN := Lib.hid hn; clear hn
  have HL := Lib.hid hl; clear hl
  go_enter Tryz.func63, Tryz.ntmps63
  go_wp2_with (at_make; refine wpList_make_full _ rfl _ _ 64 rfl w.heap.size 9 i0 (.string ByteArray.empty) 1 Tryz.underlying64 hi hz0 hz1 .i64 .i64 _ _ n rfl rfl rfl rfl ?c2 ?c3 (Nat.le_refl _) ?_)
  case c2 => rw [hz2]; omega
  case c3 => unfold maxLen; omega
  intro w1 hown hgr
  have hbl : Below w.heap.size w w1 := (Below.refl _ _).grown hgr (Nat.le_refl _) (by simp)
  have HO : Hid (w1.ownsRow w.heap.size 9 1 (.slice (some ⟨w.heap.size, 0, none⟩) n n) n ((List.replicate n ByteArray.empty).map Value.string)) := by
    show World.ownsRow _ _ _ _ _ _ _; rw [← made_str]; simpa using hown
  clear hown hgr
  go_wp2_with fail
  go_loopw [4] (fun j wr => ∃ i : Nat, i ≤ n ∧ j = .int .i64 i ∧ wr.ownsRow w.heap.size 9 1 (.slice (some ⟨w.heap.size, 0, none⟩) n n) n ((xs.take i ++ List.replicate (n - i) ByteArray.empty).map Value.string) ∧ Below w.heap.size w wr) (fun j _ => n - (intOf j).toNat)
  case atStart => exact ⟨0, by omega, rfl, by simpa using HO.out, hbl⟩
  case round =>
    obtain ⟨i, hi', rfl, ho, hbw⟩ := hrel
    have HO1 := Lib.hid ho; clear ho
    by_cases hlt : i < n
    · have hil : i < xs.length := by rw [HN.out]; exact hlt
      have hc1 : wr.cell? ⟨b, off + i, none⟩ = some (.string xs[i]) := cell_keep hbw (HL.out i hil)
      have hcell : ∃ v, wr.cell? ⟨w.heap.size, i, none⟩ = some v := by
        rw [HO1.out.cellAt _ (by omega)]
        exact ⟨_, List.getElem?_eq_getElem (by have := HN.out; simp; omega)⟩
      obtain ⟨v, hcell⟩ := hcell
      have hfr : wr.frozen? ⟨w.heap.size, i, none⟩ = false := HO1.out.frozenAt _
      have HS : Hid ((xs.take i ++ List.replicate (n - i) ByteArray.empty).set i xs[i] = xs.take (i + 1) ++ List.replicate (n - (i + 1)) ByteArray.empty) := copy_set xs i n HN.out hil
      generalize xs[i] = x at *
      go_wp2_with fail
      go_roundw
      case rel =>
        have h := (HO1.out.stored i (.string x)).1
        rw [← List.map_set, HS.out] at h
        exact ⟨i + 1, by omega, by go_num, h, hbw.setCell (Nat.le_refl _) _⟩
      case measure => simp [intOf]; omega
    · go_wp2_with fail
      go_ret
      have h1 : i = n := by omega
      have h2 := HO1.out
      rw [h1, Nat.sub_self, List.take_of_length_le (by rw [HN.out]; exact Nat.le_refl _), List.replicate_zero, List.append_nil] at h2
      exact ⟨rfl, h2, hbw⟩
theorem texts_own {w : World} {base : Nat} {v : Value} {xs : List ByteArray} (h : w.ownsRow base 9 1 v xs.length (xs.map Value.string)) (hs : ∀ x, x ∈ xs → x.size ≤ maxLen) : Texts base w xs v := by
  have h' := h
  obtain ⟨_, ⟨rfl, hn⟩ | ⟨g, cap, cur, rfl, hg, _, hnc, hcm, _, _⟩⟩ := h
  · exact ⟨none, 0, by rw [hn], by unfold maxLen; omega, hs, fun hp => by omega⟩
  · refine ⟨_, cap, rfl, ⟨by omega, by omega⟩, hs, fun hp => ⟨g, 0, rfl, hg, fun j hj => ?_⟩⟩
    rw [Nat.zero_add, h'.cellAt j (by omega)]
    simp [hj]
theorem to_any {lo : Nat} {xs : List ByteArray} {v : Value} {w : World} (h : Texts lo w xs v) (hn : xs.length ≤ 1048576) :
    Calls Tryz.prog 63 #[v] w fun e w' => ∃ v', e = .returned v' ∧ Texts w.heap.size w' xs v' ∧ Below w.heap.size w w' := by
  have H : Calls Tryz.prog 63 #[v] w (Copied xs xs.length w) := by
    obtain ⟨a, cap, rfl, hm, hs, hc⟩ := h
    by_cases hp : 0 < xs.length
    · obtain ⟨b, off, rfl, hb, hd⟩ := hc hp
      exact to_cons b off cap _ xs w rfl hn hd
    · have : xs = [] := List.eq_nil_of_length_eq_zero (by omega)
      subst this
      exact to_nil a cap w
  refine H.mono ?_
  rintro e w' ⟨rfl, ho, hb⟩
  obtain ⟨a, cap, rfl, hm, hs, hc⟩ := h
  exact ⟨_, rfl, texts_own ho hs, hb⟩
set_option maxHeartbeats 400000 in
theorem eq_nil (a1 a2 : Option Addr) (c1 c2 : Nat) (w : World) :
    Calls Tryz.prog 78 #[.slice a1 0 c1, .slice a2 0 c2] w fun e w' => e = .returned (.bool true) ∧ Below w.heap.size w w' := by
  go_enter Tryz.func78, Tryz.ntmps78
  go_wp2_with fail
  refine wp_loop_rounds 1 ?_
  rw [rounds_succ]
  go_wp2_with fail
  go_ret
  exact ⟨rfl, Below.refl _ _⟩
set_option maxHeartbeats 400000 in
theorem eq_cons (b1 o1 c1 b2 o2 c2 n : Nat) (xs : List ByteArray) (w : World) (hn : xs.length = n) (hm : n ≤ maxLen)
    (h1 : ∀ j (h : j < xs.length), w.cell? ⟨b1, o1 + j, none⟩ = some (.string xs[j])) (h2 : ∀ j (h : j < xs.length), w.cell? ⟨b2, o2 + j, none⟩ = some (.string xs[j])) :
    Calls Tryz.prog 78 #[.slice (some ⟨b1, o1, none⟩) n c1, .slice (some ⟨b2, o2, none⟩) n c2] w fun e w' => e = .returned (.bool true) ∧ Below w.heap.size w w' := by
  unfold maxLen at hm
  have H1 := Lib.hid h1; clear h1
  have H2 := Lib.hid h2; clear h2
  have HN := Lib.hid hn; clear hn
  go_enter Tryz.func78, Tryz.ntmps78
  go_wp2_with fail
  go_loopw [5] (fun j wr => ∃ i : Nat, i ≤ n ∧ j = .int .i64 i ∧ Below w.heap.size w wr) (fun j _ => n - (intOf j).toNat)
  case atStart => exact ⟨0, by omega, rfl, Below.refl _ _⟩
  case round =>
    obtain ⟨i, hi, rfl, hbw⟩ := hrel
    by_cases hlt : i < n
    · have hil : i < xs.length := by rw [HN.out]; exact hlt
      have hA := H1.out i hil
      have hB := H2.out i hil
      have hc1 : wr.cell? ⟨b1, o1 + i, none⟩ = some (.string xs[i]) := cell_keep hbw hA
      have hc2 : wr.cell? ⟨b2, o2 + i, none⟩ = some (.string xs[i]) := cell_keep hbw hB
      clear hA hB
      generalize xs[i] = s at *
      go_wp2_with fail
      go_quiet (fail)
      go_wp2_with fail
      go_roundw
      case rel => exact ⟨i + 1, by omega, by go_num, below_drewN hbw _⟩
      case measure => simp [intOf]; omega
    · go_wp2_with fail
      go_ret
      exact ⟨rfl, hbw⟩
theorem eq_same {lo1 lo2 : Nat} {w : World} {v1 v2 : Value} {xs : List ByteArray} (h1 : Texts lo1 w xs v1) (h2 : Texts lo2 w xs v2) :
    Calls Tryz.prog 78 #[v1, v2] w fun e w' => e = .returned (.bool true) ∧ Below w.heap.size w w' := by
  obtain ⟨a1, c1, rfl, hm, _, hc1⟩ := h1
  obtain ⟨a2, c2, rfl, _, _, hc2⟩ := h2
  by_cases hp : 0 < xs.length
  · obtain ⟨b1, o1, rfl, _, hd1⟩ := hc1 hp
    obtain ⟨b2, o2, rfl, _, hd2⟩ := hc2 hp
    exact eq_cons b1 o1 c1 b2 o2 c2 xs.length xs w rfl (Nat.le_trans hm.1 hm.2) hd1 hd2
  · rw [show xs.length = 0 by omega]
    exact eq_nil a1 a2 c1 c2 w
end Go.Proofs.YtekeondbbikkpaaGreat.Texts
