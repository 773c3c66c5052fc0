/-
  Joining: impl.fitsJoin, impl.Join and spec.Join over texts that lie in a slice; laws.szStringS and toStringS. None of them writes what was there.
-/
import Derived.Test.YtcjjlciamalnfaaStrs
import Derived.Test.YtcjjlciamalnfaaJoinMath
import Derived.Test.YtcjjlciamalnfaaShelf
import Derived.Lib.AppendStr
namespace Go.Proofs.Ytcjjlciamalnfaa.JoinWalks
open Go.RowKit
open Strs JoinMath
theorem info5 : (Try.prog.info? 5).map (fun i => (i.zero, i.size, i.bytes)) = some (some (.int .u8 0), 1, 1) := by kernel_rfl
theorem info9 : (Try.prog.info? 9).map (fun i => (i.zero, i.size, i.bytes)) = some (some (.string ByteArray.empty), 1, 16) := by kernel_rfl

/-- The texts xs lie at address ⟨b, off⟩. -/
def Lies (w : World) (b off : Nat) (xs : List ByteArray) : Prop := ∀ j, j < xs.length → w.cell? ⟨b, off + j, none⟩ = some (.string (at_ xs j))
theorem Lies.keep {w w' : World} {b off : Nat} {xs : List ByteArray} (h : Lies w b off xs) (hb : Below w.heap.size w w') : Lies w' b off xs := fun j hj => cell_keep hb (h j hj)

/-- What fits: whether all that is joined has at most 1048576 bytes. -/
def Fits (xs : List ByteArray) (sep : ByteArray) : Bool := decide ((acc xs sep xs.length).length ≤ 1048576)

theorem fits_no (xs : List ByteArray) (sep : ByteArray) (i : Nat) (h : (acc xs sep i).length ≤ (acc xs sep xs.length).length) (h2 : 1048576 < (acc xs sep i).length) : Ending.returned (.bool false) = .returned (.bool (Fits xs sep)) := by
  have : Fits xs sep = false := by unfold Fits; rw [decide_eq_false_iff_not]; omega
  rw [this]
theorem fits_yes (xs : List ByteArray) (sep : ByteArray) (i : Nat) (h : i = xs.length) (h2 : (acc xs sep i).length ≤ 1048576) : Ending.returned (.bool true) = .returned (.bool (Fits xs sep)) := by
  have : Fits xs sep = true := by unfold Fits; rw [decide_eq_true_eq, ← h]; exact h2
  rw [this]

set_option maxHeartbeats 1000000 in
theorem fits_any (b off cap n : Nat) (xs : List ByteArray) (sep : ByteArray) (w : World) (hn : xs.length = n) (hl : Lies w b off xs) (ht : total xs n ≤ 1048576) (hn2 : n ≤ 1048576) (hs : sep.size ≤ 1048576) :
    Calls Try.prog 35 #[.slice (some ⟨b, off, none⟩) n cap, .string sep] w fun e w' => e = .returned (.bool (Fits xs sep)) ∧ w = w' := by
  have HN := Lib.hid hn; clear hn
  have HL := Lib.hid hl; clear hl
  have HT := Lib.hid ht; clear ht
  go_enter Try.func35, Try.ntmps35
  go_wp2_with fail
  go_loop [5, 10] (fun r j => ∃ i q : Nat, i ≤ n ∧ j = .int .i64 i ∧ q = (acc xs sep i).length ∧ q ≤ 1048576 ∧ r = .int .i64 (1048576 - (q : Int))) (fun _ j => n - (intOf j).toNat)
  case atStart => exact ⟨0, 0, by omega, rfl, rfl, by omega, rfl⟩
  case round =>
    obtain ⟨i, q, hi, rfl, hq, hq2, rfl⟩ := hrel
    have HQ := Lib.hid hq; clear hq
    by_cases hlt : i < n
    · have hcell : w.cell? ⟨b, off + i, none⟩ = some (.string (at_ xs i)) := HL.out i (by rw [HN.out]; exact hlt)
      have hsz := at_le xs i n hlt
      have ht := HT.out
      have HA : Hid ((acc xs sep (i + 1)).length = q + (if 0 < i then sep.size else 0) + (at_ xs i).size) := by
        show _ = _
        have e2 : ∀ s : ByteArray, s.data.toList.length = s.size := fun s => by rw [Array.length_toList]; rfl
        split
        · next h => rw [acc_more _ _ _ h, HQ.out]; simp only [List.length_append, e2]
        · have : i = 0 := by omega
          subst this
          rw [acc_one, HQ.out]; simp only [List.length_append, e2]; omega
      have HM : Hid ((acc xs sep (i + 1)).length ≤ (acc xs sep xs.length).length) := acc_le _ _ _ _ (by rw [HN.out]; omega)
      generalize at_ xs i = x at *
      by_cases h0 : 0 < i
      · have h0' : (0 : Int) < (i : Int) := by omega
        by_cases hbig : 1048576 - (q : Int) - (sep.size : Int) - (x.size : Int) < 0
        · go_wp2_with fail
          go_ret
          exact ⟨fits_no xs sep (i + 1) HM.out (by have h1 := HA.out; rw [if_pos h0] at h1; omega), rfl⟩
        · go_wp2_with fail
          go_round
          case rel => exact ⟨i + 1, q + sep.size + x.size, by omega, by go_num, by have h1 := HA.out; rw [if_pos h0] at h1; omega, by omega, by go_num⟩
          case measure => simp [intOf]; omega
      · have h0' : ¬ (0 : Int) < (i : Int) := by omega
        by_cases hbig : 1048576 - (q : Int) - (x.size : Int) < 0
        · go_wp2_with fail
          go_ret
          exact ⟨fits_no xs sep (i + 1) HM.out (by have h1 := HA.out; rw [if_neg h0] at h1; omega), rfl⟩
        · go_wp2_with fail
          go_round
          case rel => exact ⟨i + 1, q + x.size, by omega, by go_num, by have h1 := HA.out; rw [if_neg h0] at h1; omega, by omega, by go_num⟩
          case measure => simp [intOf]; omega
    · go_wp2_with fail
      go_ret
      exact ⟨fits_yes xs sep i (by have := HN.out; omega) (by have h1 := HQ.out; omega), rfl⟩

theorem at_of (xs : List ByteArray) (j : Nat) (x : ByteArray) (h : xs[j]? = some x) : j < xs.length ∧ at_ xs j = x := by
  obtain ⟨h1, h2⟩ := List.getElem?_eq_some_iff.1 h
  exact ⟨h1, by unfold at_; simp [List.getD, h1, h2]⟩

theorem grown_below {w wr w' : World} {base : Nat} {e : TypeId} {v : Value} {n : Nat} {xs : List Value} (hb : base ≤ w.heap.size) (h : Below base w wr) (hown : wr.ownsRow base e 1 v n xs) (hg : wr.grownBy w' v.ownBlock) : Below base w w' :=
  h.grown hg (Nat.le_trans hb h.size) (fun k hk => (hown.lt k hk).1)
theorem out_no (xs : List ByteArray) (sep : ByteArray) (i : Nat) (h : (acc xs sep i).length ≤ (acc xs sep xs.length).length) (h2 : 1048576 < (acc xs sep i).length) : (if Fits xs sep = true then acc xs sep xs.length else []) = [] := by
  have : Fits xs sep = false := by unfold Fits; rw [decide_eq_false_iff_not]; omega
  rw [this]; rfl
theorem out_yes (xs : List ByteArray) (sep : ByteArray) (i : Nat) (h : i = xs.length) (h2 : (acc xs sep i).length ≤ 1048576) : (if Fits xs sep = true then acc xs sep xs.length else []) = acc xs sep i := by
  have : Fits xs sep = true := by unfold Fits; rw [decide_eq_true_eq, ← h]; exact h2
  rw [this, if_pos rfl, h]

/-- What both versions answer. -/
def Out (xs : List ByteArray) (sep : ByteArray) : List UInt8 := if Fits xs sep = true then acc xs sep xs.length else []

set_option maxHeartbeats 400000 in
theorem impl_some (b off cap n : Nat) (xs : List ByteArray) (sep : ByteArray) (w : World) (hn : xs.length = n) (hl : Lies w b off xs) (hb : b < w.heap.size) (hcap : n ≤ cap) (ht : total xs n ≤ 1048576) (hn2 : n ≤ 1048576) (hs : sep.size ≤ 1048576) :
    Calls Try.prog 15 #[.slice (some ⟨b, off, none⟩) n cap, .string sep] w fun e w' => e = .returned (.string ⟨(Out xs sep).toArray⟩) ∧ Below w.heap.size w w' := by
  have HF := Lib.hid (fits_any b off cap n xs sep w hn hl ht hn2 hs)
  by_cases hf : Fits xs sep = true
  · have HJ : Hid (Calls Try.prog 36 #[.slice (some ⟨b, off, none⟩) n cap, .string sep] w fun e w' => e = .returned (.string ⟨(Out xs sep).toArray⟩) ∧ Below w.heap.size w w') := by
      subst hn
      have h1 : (acc xs sep xs.length).length ≤ 1048576 := by unfold Fits at hf; exact of_decide_eq_true hf
      have := Shelf.join_any b off cap xs sep w (fun j x h => by obtain ⟨h1, h2⟩ := at_of xs j x h; rw [← h2]; exact hl j h1) hb (by omega) hcap (by rw [← acc_all]; omega)
      rw [← acc_all] at this
      unfold Out
      rw [if_pos hf]
      exact this
    rw [hf] at HF
    clear hl ht hf hn
    generalize Out xs sep = o at *
    go_enter Try.func15, Try.ntmps15
    go_wp2_with fail
    refine HF.out.mono ?_
    rintro e w1 ⟨rfl, rfl⟩
    go_wp2_with fail
    refine HJ.out.mono ?_
    rintro e w1 ⟨rfl, hb1⟩
    go_wp2_with fail
    go_ret
    exact ⟨rfl, hb1⟩
  · have HO : Hid (Out xs sep = []) := by show _ = _; unfold Out; rw [if_neg hf]
    rw [Bool.not_eq_true] at hf
    rw [hf] at HF
    clear hl ht hf hn
    go_enter Try.func15, Try.ntmps15
    go_wp2_with fail
    refine HF.out.mono ?_
    rintro e w1 ⟨rfl, rfl⟩
    go_wp2_with fail
    go_ret
    exact ⟨by rw [HO.out]; rfl, Below.refl _ _⟩

set_option maxHeartbeats 1000000 in
theorem spec_some (b off cap n : Nat) (xs : List ByteArray) (sep : ByteArray) (w : World) (hn : xs.length = n) (hl : Lies w b off xs) (ht : total xs n ≤ 1048576) (hn2 : n ≤ 1048576) (hs : sep.size ≤ 1048576) :
    Calls Try.prog 25 #[.slice (some ⟨b, off, none⟩) n cap, .string sep] w fun e w' => e = .returned (.string ⟨(Out xs sep).toArray⟩) ∧ Below w.heap.size w w' := by
  obtain ⟨i0, hi, hz0, hz1, hz2⟩ := info_parts info5
  have HN := Lib.hid hn; clear hn
  have HL := Lib.hid hl; clear hl
  have HT := Lib.hid ht; clear ht
  go_enter Try.func25, Try.ntmps25
  go_wp2_with fail
  go_loopw [5, 6] (fun v j wr => ∃ i q : Nat, i ≤ n ∧ j = .int .i64 i ∧ (acc xs sep i).length = q ∧ q ≤ 1048576 ∧ wr.ownsRow w.heap.size 5 1 v q ((acc xs sep i).map (fun b => Value.int .u8 b.toNat)) ∧ Below w.heap.size w wr) (fun _ j _ => n - (intOf j).toNat)
  case atStart =>
    exact ⟨0, 0, by omega, rfl, rfl, by omega, World.ownsRow_lit w #[] 0 (Nat.le_refl _) (Nat.zero_le _) rfl, (Below.refl _ _).alloc (Nat.le_refl _) _⟩
  case round =>
    obtain ⟨i, q, hi', rfl, hq, hq2, hown, hbw⟩ := hrel
    have HQ := Lib.hid hq; clear hq
    obtain ⟨ra, rc, rfl⟩ := Kit.row_form hown
    have HO := Lib.hid hown; clear hown
    by_cases hlt : i < n
    · have hcell : wr.cell? ⟨b, off + i, none⟩ = some (.string (at_ xs i)) := cell_keep hbw (HL.out i (by rw [HN.out]; exact hlt))
      have hsz := at_le xs i n hlt
      have ht := HT.out
      generalize hx : at_ xs i = x at *
      have HX := Lib.hid hx; clear hx
      by_cases h0 : 0 < i
      · have h0' : (0 : Int) < (i : Int) := by omega
        go_wp2_with (at_builtin; refine Lib.wpList_append_own_string _ rfl _ _ 22 9 rfl w.heap.size 5 i0 Try.underlying22 Try.underlying9 hi hz0 hz1 hz2 _ _ _ rfl HO.out sep rfl ?c1 ?c2 ?c3 ?_)
        case c1 => unfold maxLen; omega
        case c2 => omega
        case c3 => exact hbw.size
        intro v1 w1 hown1 hgr1 _
        have hb1 := grown_below (Nat.le_refl _) hbw HO.out hgr1
        have hcell1 : w1.cell? ⟨b, off + i, none⟩ = some (.string x) := by rw [← HX.out]; exact cell_keep hb1 (HL.out i (by rw [HN.out]; exact hlt))
        have HO1 := Lib.hid hown1
        clear hgr1 hown1 HO hbw hcell
        go_wp2_with (at_builtin; refine Lib.wpList_append_own_string _ rfl _ _ 22 9 rfl w.heap.size 5 i0 Try.underlying22 Try.underlying9 hi hz0 hz1 hz2 _ _ _ rfl HO1.out x rfl ?c4 ?c5 ?c6 ?_)
        case c4 => unfold maxLen; omega
        case c5 => omega
        case c6 => exact hb1.size
        intro v2 w2 hown2 hgr2 _
        have hb2 := grown_below (Nat.le_refl _) hb1 HO1.out hgr2
        obtain ⟨ra2, rc2, rfl⟩ := Kit.row_form hown2
        have e2 : ∀ s : ByteArray, s.data.toList.length = s.size := fun s => by rw [Array.length_toList]; rfl
        have HA : Hid ((acc xs sep (i + 1)).length = q + sep.size + x.size) := by
          show _ = _
          rw [acc_more _ _ _ h0, HX.out]; simp only [List.length_append, e2, HQ.out]
        have HO2 : Hid (w2.ownsRow w.heap.size 5 1 (.slice ra2 (q + sep.size + x.size) rc2) (q + sep.size + x.size) ((acc xs sep (i + 1)).map (fun b => Value.int .u8 b.toNat))) := by
          rw [acc_more _ _ _ h0, HX.out, List.map_append, List.map_append, List.append_assoc]; exact hown2
        have HM : Hid ((acc xs sep (i + 1)).length ≤ (acc xs sep xs.length).length) := acc_le _ _ _ _ (by rw [HN.out]; omega)
        clear e2 hgr2 hown2 HO1 hb1 hcell1
        by_cases hbig : 1048576 < ((q + sep.size + x.size : Nat) : Int)
        · go_wp2_with fail
          go_ret
          exact ⟨by unfold Out; rw [out_no xs sep (i + 1) HM.out (by have := HA.out; omega)]; rfl, hb2⟩
        · go_wp2_with fail
          go_roundw
          case rel => exact ⟨i + 1, q + sep.size + x.size, by omega, by go_num, HA.out, by omega, HO2.out, hb2⟩
          case measure => simp [intOf]; omega
      · have h0' : ¬ (0 : Int) < (i : Int) := by omega
        go_wp2_with (at_builtin; refine Lib.wpList_append_own_string _ rfl _ _ 22 9 rfl w.heap.size 5 i0 Try.underlying22 Try.underlying9 hi hz0 hz1 hz2 _ _ _ rfl HO.out x rfl ?c7 ?c8 ?c9 ?_)
        case c7 => unfold maxLen; omega
        case c8 => omega
        case c9 => exact hbw.size
        intro v2 w2 hown2 hgr2 _
        have hb2 := grown_below (Nat.le_refl _) hbw HO.out hgr2
        obtain ⟨ra2, rc2, rfl⟩ := Kit.row_form hown2
        have e2 : ∀ s : ByteArray, s.data.toList.length = s.size := fun s => by rw [Array.length_toList]; rfl
        have HE : Hid (acc xs sep (i + 1) = acc xs sep i ++ x.data.toList) := by
          have : i = 0 := by omega
          subst this
          show _ = _
          rw [acc_one, HX.out]
        have HA : Hid ((acc xs sep (i + 1)).length = q + x.size) := by
          show _ = _
          rw [HE.out]; simp only [List.length_append, e2, HQ.out]
        have HO2 : Hid (w2.ownsRow w.heap.size 5 1 (.slice ra2 (q + x.size) rc2) (q + x.size) ((acc xs sep (i + 1)).map (fun b => Value.int .u8 b.toNat))) := by
          rw [HE.out, List.map_append]; exact hown2
        have HM : Hid ((acc xs sep (i + 1)).length ≤ (acc xs sep xs.length).length) := acc_le _ _ _ _ (by rw [HN.out]; omega)
        clear e2 hgr2 hown2 HO hbw hcell
        by_cases hbig : 1048576 < ((q + x.size : Nat) : Int)
        · go_wp2_with fail
          go_ret
          exact ⟨by unfold Out; rw [out_no xs sep (i + 1) HM.out (by have := HA.out; omega)]; rfl, hb2⟩
        · go_wp2_with fail
          go_roundw
          case rel => exact ⟨i + 1, q + x.size, by omega, by go_num, HA.out, by omega, HO2.out, hb2⟩
          case measure => simp [intOf]; omega
    · have HF : Hid (Out xs sep = acc xs sep i) := out_yes xs sep i (by have := HN.out; omega) (by rw [HQ.out]; exact hq2)
      have hcv := Kit.conv_row wr w.heap.size _ (acc xs sep i) (by rw [HQ.out]; exact HO.out)
      generalize acc xs sep i = l at *
      go_wp2_with fail
      go_ret
      exact ⟨by rw [HF.out]; rfl, hbw⟩

/-- What szStringS says: at least 0 only where there are few texts with few bytes. -/
def Small (xs : List ByteArray) (w : World) (e : Ending) (w' : World) : Prop := ∃ r : Int, e = .returned (.int .i64 r) ∧ (0 ≤ r → xs.length ≤ 1048576 ∧ total xs xs.length ≤ 1048576) ∧ -9223372036854775808 ≤ r ∧ r ≤ 1048576 ∧ w = w'

set_option maxHeartbeats 400000 in
theorem sz_nil (a : Option Addr) (c : Nat) (w : World) :
    Calls Try.prog 24 #[.slice a 0 c, .int .i64 1048576] w (Small [] w) := by
  go_enter Try.func24, Try.ntmps24
  go_wp2_with fail
  refine wp_loop_rounds 1 ?_
  rw [rounds_succ]
  go_wp2_with fail
  go_ret
  exact ⟨1048576, rfl, fun _ => ⟨by simp, by simp [total]⟩, by omega, by omega, rfl⟩

set_option maxHeartbeats 1000000 in
theorem sz_cons (b off cap n : Nat) (xs : List ByteArray) (w : World) (hn : xs.length = n) (hm : n ≤ maxLen) (hl : Lies w b off xs) (hz : ∀ j, j < n → (at_ xs j).size ≤ maxLen) :
    Calls Try.prog 24 #[.slice (some ⟨b, off, none⟩) n cap, .int .i64 1048576] w (Small xs w) := by
  unfold maxLen at hm
  have HN := Lib.hid hn; clear hn
  have HL := Lib.hid hl; clear hl
  have HZ := Lib.hid hz; clear hz
  by_cases hbig : (1048576 : Int) - (n : Int) < 0
  · go_enter Try.func24, Try.ntmps24
    go_wp2_with fail
    go_ret
    exact ⟨-1, rfl, fun h => by omega, by omega, by omega, rfl⟩
  · go_enter Try.func24, Try.ntmps24
    go_wp2_with fail
    go_loop [1, 5] (fun t j => ∃ i q : Nat, i ≤ n ∧ j = .int .i64 i ∧ total xs i = q ∧ (q : Int) ≤ 1048576 - n ∧ t = .int .i64 (1048576 - (n : Int) - (q : Int))) (fun _ j => n - (intOf j).toNat)
    case atStart => exact ⟨0, 0, by omega, rfl, rfl, by omega, by go_num⟩
    case round =>
      obtain ⟨i, q, hi, rfl, hq, hq2, rfl⟩ := hrel
      have HQ := Lib.hid hq; clear hq
      by_cases hlt : i < n
      · have hcell : w.cell? ⟨b, off + i, none⟩ = some (.string (at_ xs i)) := HL.out i (by rw [HN.out]; exact hlt)
        have hsz := HZ.out i hlt
        unfold maxLen at hsz
        have HT : Hid (total xs (i + 1) = q + (at_ xs i).size) := by show _ = _; rw [total, HQ.out]
        generalize at_ xs i = x at *
        by_cases hneg : 1048576 - (n : Int) - (q : Int) - (x.size : Int) < 0
        · go_wp2_with fail
          go_ret
          exact ⟨-1, rfl, fun h => by omega, by omega, by omega, rfl⟩
        · go_wp2_with fail
          go_round
          case rel => exact ⟨i + 1, q + x.size, by omega, by go_num, HT.out, by omega, by go_num⟩
          case measure => simp [intOf]; omega
      · go_wp2_with fail
        go_ret
        have h1 : i = n := by omega
        have h2 := HQ.out
        have h3 := HN.out
        rw [h1, ← h3] at h2
        exact ⟨1048576 - (n : Int) - (q : Int), rfl, fun _ => ⟨by omega, by omega⟩, by omega, by omega, rfl⟩

/-- What toStringS hands back: a row of its own with the same texts. -/
def Copied (xs : List ByteArray) (n : Nat) (w : World) (e : Ending) (w' : World) : Prop :=
  e = .returned (.slice (some ⟨w.heap.size, 0, none⟩) n n) ∧ w'.ownsRow w.heap.size 9 1 (.slice (some ⟨w.heap.size, 0, none⟩) n n) n (xs.map Value.string) ∧ Below w.heap.size w w'

set_option maxHeartbeats 400000 in
theorem to_nil (a : Option Addr) (c : Nat) (w : World) :
    Calls Try.prog 26 #[.slice a 0 c] w (Copied [] 0 w) := by
  obtain ⟨i0, hi, hz0, hz1, hz2⟩ := info_parts info9
  go_enter Try.func26, Try.ntmps26
  go_wp2_with (at_make; refine wpList_make_full _ rfl _ _ 30 rfl w.heap.size 9 i0 (.string ByteArray.empty) 1 Try.underlying30 hi hz0 hz1 .i64 .i64 _ _ 0 rfl rfl rfl rfl ?c2 ?c3 (Nat.le_refl _) ?_)
  case c2 => omega
  case c3 => unfold maxLen; omega
  intro w1 hown hgr
  have hbl : Below w.heap.size w w1 := (Below.refl _ _).grown hgr (Nat.le_refl _) (by simp)
  have HO : Hid (w1.ownsRow w.heap.size 9 1 (.slice (some ⟨w.heap.size, 0, none⟩) 0 0) 0 ([].map Value.string)) := by show World.ownsRow _ _ _ _ _ _ _; simpa [madeCells] using hown
  clear hown hgr
  go_wp2_with fail
  refine wp_loop_rounds 1 ?_
  rw [rounds_succ]
  go_wp2_with fail
  go_ret
  exact ⟨rfl, HO.out, hbl⟩

theorem made_str (n : Nat) : (madeCells #[Value.string ByteArray.empty] n).toList = (List.replicate n ByteArray.empty).map Value.string := by
  apply List.ext_getElem <;> simp [madeCells, Nat.mod_one]
theorem copy_set (xs : List ByteArray) (i n : Nat) (hn : xs.length = n) (hi : i < n) : (xs.take i ++ List.replicate (n - i) ByteArray.empty).set i (at_ xs i) = xs.take (i + 1) ++ List.replicate (n - (i + 1)) ByteArray.empty := by
  have hl : (xs.take i).length = i := by rw [List.length_take]; omega
  have e : at_ xs i = xs[i]'(by omega) := by simp [at_, List.getD, show i < xs.length by omega]
  rw [List.set_append_right _ _ (by omega), hl, Nat.sub_self, show n - i = (n - (i + 1)) + 1 by omega, List.replicate_succ, List.set_cons_zero, e, List.take_succ_eq_append_getElem (by omega), List.append_assoc]
  rfl

set_option maxHeartbeats 1000000 in
theorem to_cons (b off cap n : Nat) (xs : List ByteArray) (w : World) (hn : xs.length = n) (hm : n ≤ 1048576) (hl : Lies w b off xs) :
    Calls Try.prog 26 #[.slice (some ⟨b, off, none⟩) n cap] w (Copied xs n w) := by
  obtain ⟨i0, hi, hz0, hz1, hz2⟩ := info_parts info9
  have HN := Lib.hid hn; clear hn
  have HL := Lib.hid hl; clear hl
  go_enter Try.func26, Try.ntmps26
  go_wp2_with (at_make; refine wpList_make_full _ rfl _ _ 30 rfl w.heap.size 9 i0 (.string ByteArray.empty) 1 Try.underlying30 hi hz0 hz1 .i64 .i64 _ _ n rfl rfl rfl rfl ?c2 ?c3 (Nat.le_refl _) ?_)
  case c2 => rw [hz2]; omega
  case c3 => unfold maxLen; omega
  intro w1 hown hgr
  have hbl : Below w.heap.size w w1 := (Below.refl _ _).grown hgr (Nat.le_refl _) (by simp)
  have HO : Hid (w1.ownsRow w.heap.size 9 1 (.slice (some ⟨w.heap.size, 0, none⟩) n n) n ((List.replicate n ByteArray.empty).map Value.string)) := by
    show World.ownsRow _ _ _ _ _ _ _; rw [← made_str]; simpa using hown
  clear hown hgr
  go_wp2_with fail
  go_loopw [4] (fun j wr => ∃ i : Nat, i ≤ n ∧ j = .int .i64 i ∧ wr.ownsRow w.heap.size 9 1 (.slice (some ⟨w.heap.size, 0, none⟩) n n) n ((xs.take i ++ List.replicate (n - i) ByteArray.empty).map Value.string) ∧ Below w.heap.size w wr) (fun j _ => n - (intOf j).toNat)
  case atStart => exact ⟨0, by omega, rfl, by simpa using HO.out, hbl⟩
  case round =>
    obtain ⟨i, hi', rfl, ho, hbw⟩ := hrel
    have HO1 := Lib.hid ho; clear ho
    by_cases hlt : i < n
    · have hc1 : wr.cell? ⟨b, off + i, none⟩ = some (.string (at_ xs i)) := cell_keep hbw (HL.out i (by rw [HN.out]; exact hlt))
      have hcell : ∃ v, wr.cell? ⟨w.heap.size, i, none⟩ = some v := by
        rw [HO1.out.cellAt _ (by omega)]
        exact ⟨_, List.getElem?_eq_getElem (by have := HN.out; simp; omega)⟩
      obtain ⟨v, hcell⟩ := hcell
      have hfr : wr.frozen? ⟨w.heap.size, i, none⟩ = false := HO1.out.frozenAt _
      have HS : Hid ((xs.take i ++ List.replicate (n - i) ByteArray.empty).set i (at_ xs i) = xs.take (i + 1) ++ List.replicate (n - (i + 1)) ByteArray.empty) := copy_set xs i n HN.out hlt
      generalize at_ xs i = x at *
      go_wp2_with fail
      go_roundw
      case rel =>
        have h := (HO1.out.stored i (.string x)).1
        rw [← List.map_set, HS.out] at h
        exact ⟨i + 1, by omega, by go_num, h, hbw.setCell (Nat.le_refl _) _⟩
      case measure => simp [intOf]; omega
    · go_wp2_with fail
      go_ret
      have h1 : i = n := by omega
      have h2 := HO1.out
      rw [h1, Nat.sub_self, List.take_of_length_le (by rw [HN.out]; exact Nat.le_refl _), List.replicate_zero, List.append_nil] at h2
      exact ⟨rfl, h2, hbw⟩
end Go.Proofs.Ytcjjlciamalnfaa.JoinWalks
