/-
  Plain mathematics: texts joined by a separator, element after element, and how long what comes out is. Nothing of the program is named here.
  Joining: spec.Join over texts that lie in a slice. It writes nothing that was there.
-/
import Derived.Test.YtoaocpfehdcfgaaGreatDoorBSpecFmt
import Derived.Lib.Join
import Derived.Lib.AppendStr
namespace Go.Proofs.YtoaocpfehdcfgaaGreatDoor.JoinMath
def at_ (xs : List ByteArray) (i : Nat) : ByteArray := xs.getD i ByteArray.empty
def acc (xs : List ByteArray) (sep : ByteArray) : Nat → List UInt8
  | 0 => []
  | i + 1 => if i = 0 then (at_ xs 0).data.toList else acc xs sep i ++ sep.data.toList ++ (at_ xs i).data.toList
theorem acc_one (xs : List ByteArray) (sep : ByteArray) : acc xs sep 1 = acc xs sep 0 ++ (at_ xs 0).data.toList := rfl
theorem acc_more (xs : List ByteArray) (sep : ByteArray) (i : Nat) (h : 0 < i) : acc xs sep (i + 1) = acc xs sep i ++ sep.data.toList ++ (at_ xs i).data.toList := by
  rw [acc, if_neg (by omega)]
theorem acc_join (x : ByteArray) (r : List ByteArray) (sep : ByteArray) (k : Nat) (hk : k ≤ r.length) :
    acc (x :: r) sep (k + 1) = x.data.toList ++ Lib.joinTail sep.data.toList ((r.map (·.data.toList)).take k) := by
  induction k with
  | zero => simp [acc, at_, Lib.joinTail]
  | succ k ih =>
    have hlt : k < r.length := by omega
    rw [acc_more _ _ _ (by omega), ih (by omega), Lib.joinTail_take_succ sep.data.toList (r.map (·.data.toList)) k r[k].data.toList (by rw [List.getElem?_map, List.getElem?_eq_getElem hlt]; rfl)]
    have e : (at_ (x :: r) (k + 1)) = r[k] := by simp [at_, List.getD, hlt]
    rw [e]
    simp [List.append_assoc]
theorem acc_all (xs : List ByteArray) (sep : ByteArray) : acc xs sep xs.length = Lib.join (xs.map (·.data.toList)) sep.data.toList := by
  cases xs with
  | nil => rfl
  | cons x r =>
    rw [List.length_cons, acc_join x r sep r.length (Nat.le_refl _), List.map_cons, Lib.join_cons, List.take_of_length_le (by simp)]
theorem acc_mono (xs : List ByteArray) (sep : ByteArray) (i : Nat) : (acc xs sep i).length ≤ (acc xs sep (i + 1)).length := by
  by_cases h : 0 < i
  · rw [acc_more _ _ _ h]; simp
  · have : i = 0 := by omega
    subst this; simp [acc]
theorem acc_le (xs : List ByteArray) (sep : ByteArray) (i j : Nat) (h : i ≤ j) : (acc xs sep i).length ≤ (acc xs sep j).length := by
  induction j with
  | zero => have : i = 0 := by omega
            subst this; exact Nat.le_refl _
  | succ j ih =>
    by_cases hj : i = j + 1
    · subst hj; exact Nat.le_refl _
    · exact Nat.le_trans (ih (by omega)) (acc_mono xs sep j)
def total (xs : List ByteArray) : Nat → Nat
  | 0 => 0
  | i + 1 => total xs i + (at_ xs i).size
theorem total_le (xs : List ByteArray) (i j : Nat) (h : i ≤ j) : total xs i ≤ total xs j := by
  induction j with
  | zero => have : i = 0 := by omega
            subst this; exact Nat.le_refl _
  | succ j ih =>
    by_cases hj : i = j + 1
    · subst hj; exact Nat.le_refl _
    · rw [total]; have := ih (by omega); omega
theorem at_le (xs : List ByteArray) (i n : Nat) (h : i < n) : (at_ xs i).size ≤ total xs n := by
  have := total_le xs (i + 1) n (by omega)
  rw [total] at this; omega
theorem acc_len (xs : List ByteArray) (sep : ByteArray) (i : Nat) : (acc xs sep i).length ≤ total xs i + i * sep.size := by
  induction i with
  | zero => simp [acc, total]
  | succ i ih =>
    have e1 : sep.data.toList.length = sep.size := by rw [Array.length_toList]; rfl
    have e2 : ∀ s : ByteArray, s.data.toList.length = s.size := fun s => by rw [Array.length_toList]; rfl
    rw [total, Nat.add_mul, Nat.one_mul]
    by_cases h : 0 < i
    · rw [acc_more _ _ _ h]; simp only [List.length_append, e2]; omega
    · have : i = 0 := by omega
      subst this; simp only [acc, if_true, e2]; omega
end Go.Proofs.YtoaocpfehdcfgaaGreatDoor.JoinMath

namespace Go.Proofs.YtoaocpfehdcfgaaGreatDoor.SpecJoin
open Go.RowKit
open Strs JoinMath
def Lies (w : World) (b off : Nat) (xs : List ByteArray) : Prop := ∀ j, j < xs.length → w.cell? ⟨b, off + j, none⟩ = some (.string (at_ xs j))
theorem Lies.keep {w w' : World} {b off : Nat} {xs : List ByteArray} (h : Lies w b off xs) (hb : Below w.heap.size w w') : Lies w' b off xs := fun j hj => cell_keep hb (h j hj)
def Fits (xs : List ByteArray) (sep : ByteArray) : Bool := decide ((acc xs sep xs.length).length ≤ 1048576)
theorem grown_below {w wr w' : World} {base : Nat} {e : TypeId} {v : Value} {n : Nat} {xs : List Value} (hb : base ≤ w.heap.size) (h : Below base w wr) (hown : wr.ownsRow base e 1 v n xs) (hg : wr.grownBy w' v.ownBlock) : Below base w w' :=
  h.grown hg (Nat.le_trans hb h.size) (fun k hk => (hown.lt k hk).1)
theorem out_no (xs : List ByteArray) (sep : ByteArray) (i : Nat) (h : (acc xs sep i).length ≤ (acc xs sep xs.length).length) (h2 : 1048576 < (acc xs sep i).length) : (if Fits xs sep = true then acc xs sep xs.length else []) = [] := by
  have : Fits xs sep = false := by unfold Fits; rw [decide_eq_false_iff_not]; omega
  rw [this]; rfl
theorem out_yes (xs : List ByteArray) (sep : ByteArray) (i : Nat) (h : i = xs.length) (h2 : (acc xs sep i).length ≤ 1048576) : (if Fits xs sep = true then acc xs sep xs.length else []) = acc xs sep i := by
  have : Fits xs sep = true := by unfold Fits; rw [decide_eq_true_eq, ← h]; exact h2
  rw [this, if_pos rfl, h]
def Out (xs : List ByteArray) (sep : ByteArray) : List UInt8 := if Fits xs sep = true then acc xs sep xs.length else []
theorem info5 : (Tryz.prog.info? 5).map (fun i => (i.zero, i.size, i.bytes)) = some (some (.int .u8 0), 1, 1) := by kernel_rfl
set_option maxRecDepth 100000 in
set_option maxHeartbeats 1000000 in
theorem spec_some (b off cap n : Nat) (xs : List ByteArray) (sep : ByteArray) (w : World) (hn : xs.length = n) (hl : Lies w b off xs) (ht : total xs n ≤ 1048576) (hn2 : n ≤ 1048576) (hs : sep.size ≤ 1048576) :
    Calls Tryz.prog 37 #[.slice (some ⟨b, off, none⟩) n cap, .string sep] w fun e w' => e = .returned (.string ⟨(Out xs sep).toArray⟩) ∧ Below w.heap.size w w' := by
  obtain ⟨i0, hi, hz0, hz1, hz2⟩ := info_parts info5
  have HN := Lib.hid hn; clear hn
  have HL := Lib.hid hl; clear hl
  have HT := Lib.hid ht; clear ht
  go_enter Tryz.func37, Tryz.ntmps37
  go_wp2_with fail
  go_loopw [5, 6] (fun v j wr => ∃ i q : Nat, i ≤ n ∧ j = .int .i64 i ∧ (acc xs sep i).length = q ∧ q ≤ 1048576 ∧ wr.ownsRow w.heap.size 5 1 v q ((acc xs sep i).map (fun b => Value.int .u8 b.toNat)) ∧ Below w.heap.size w wr) (fun _ j _ => n - (intOf j).toNat)
  case atStart =>
    exact ⟨0, 0, by omega, rfl, rfl, by omega, World.ownsRow_lit w #[] 0 (Nat.le_refl _) (Nat.zero_le _) rfl, (Below.refl _ _).alloc (Nat.le_refl _) _⟩
  case round =>
    obtain ⟨i, q, hi', rfl, hq, hq2, hown, hbw⟩ := hrel
    have HQ := Lib.hid hq; clear hq
    obtain ⟨ra, rc, rfl⟩ := Kit.row_form hown
    have HO := Lib.hid hown; clear hown
    by_cases hlt : i < n
    · have hcell : wr.cell? ⟨b, off + i, none⟩ = some (.string (at_ xs i)) := cell_keep hbw (HL.out i (by rw [HN.out]; exact hlt))
      have hsz := at_le xs i n hlt
      have ht := HT.out
      generalize hx : at_ xs i = x at *
      have HX := Lib.hid hx; clear hx
      by_cases h0 : 0 < i
      · have h0' : (0 : Int) < (i : Int) := by omega
        go_wp2_with (at_builtin; refine Lib.wpList_append_own_string _ rfl _ _ 103 9 rfl w.heap.size 5 i0 Tryz.underlying103 Tryz.underlying9 hi hz0 hz1 hz2 _ _ _ rfl HO.out sep rfl ?c1 ?c2 ?c3 ?_)
        case c1 => unfold maxLen; omega
        case c2 => omega
        case c3 => exact hbw.size
        intro v1 w1 hown1 hgr1 _
        have hb1 := grown_below (Nat.le_refl _) hbw HO.out hgr1
        have hcell1 : w1.cell? ⟨b, off + i, none⟩ = some (.string x) := by rw [← HX.out]; exact cell_keep hb1 (HL.out i (by rw [HN.out]; exact hlt))
        have HO1 := Lib.hid hown1
        clear hgr1 hown1 HO hbw hcell
        go_wp2_with (at_builtin; refine Lib.wpList_append_own_string _ rfl _ _ 103 9 rfl w.heap.size 5 i0 Tryz.underlying103 Tryz.underlying9 hi hz0 hz1 hz2 _ _ _ rfl HO1.out x rfl ?c4 ?c5 ?c6 ?_)
        case c4 => unfold maxLen; omega
        case c5 => omega
        case c6 => exact hb1.size
        intro v2 w2 hown2 hgr2 _
        have hb2 := grown_below (Nat.le_refl _) hb1 HO1.out hgr2
        obtain ⟨ra2, rc2, rfl⟩ := Kit.row_form hown2
        have e2 : ∀ s : ByteArray, s.data.toList.length = s.size := fun s => by rw [Array.length_toList]; rfl
        have HA : Hid ((acc xs sep (i + 1)).length = q + sep.size + x.size) := by
          show _ = _
          rw [acc_more _ _ _ h0, HX.out]; simp only [List.length_append, e2, HQ.out]
        have HO2 : Hid (w2.ownsRow w.heap.size 5 1 (.slice ra2 (q + sep.size + x.size) rc2) (q + sep.size + x.size) ((acc xs sep (i + 1)).map (fun b => Value.int .u8 b.toNat))) := by
          rw [acc_more _ _ _ h0, HX.out, List.map_append, List.map_append, List.append_assoc]; exact hown2
        have HM : Hid ((acc xs sep (i + 1)).length ≤ (acc xs sep xs.length).length) := acc_le _ _ _ _ (by rw [HN.out]; omega)
        clear e2 hgr2 hown2 HO1 hb1 hcell1
        by_cases hbig : 1048576 < ((q + sep.size + x.size : Nat) : Int)
        · go_wp2_with fail
          go_ret
          exact ⟨by unfold Out; rw [out_no xs sep (i + 1) HM.out (by have := HA.out; omega)]; rfl, hb2⟩
        · go_wp2_with fail
          go_roundw
          case rel => exact ⟨i + 1, q + sep.size + x.size, by omega, by go_num, HA.out, by omega, HO2.out, hb2⟩
          case measure => simp [intOf]; omega
      · have h0' : ¬ (0 : Int) < (i : Int) := by omega
        go_wp2_with (at_builtin; refine Lib.wpList_append_own_string _ rfl _ _ 103 9 rfl w.heap.size 5 i0 Tryz.underlying103 Tryz.underlying9 hi hz0 hz1 hz2 _ _ _ rfl HO.out x rfl ?c7 ?c8 ?c9 ?_)
        case c7 => unfold maxLen; omega
        case c8 => omega
        case c9 => exact hbw.size
        intro v2 w2 hown2 hgr2 _
        have hb2 := grown_below (Nat.le_refl _) hbw HO.out hgr2
        obtain ⟨ra2, rc2, rfl⟩ := Kit.row_form hown2
        have e2 : ∀ s : ByteArray, s.data.toList.length = s.size := fun s => by rw [Array.length_toList]; rfl
        have HE : Hid (acc xs sep (i + 1) = acc xs sep i ++ x.data.toList) := by
          have : i = 0 := by omega
          subst this
          show _ = _
          rw [acc_one, HX.out]
        have HA : Hid ((acc xs sep (i + 1)).length = q + x.size) := by
          show _ = _
          rw [HE.out]; simp only [List.length_append, e2, HQ.out]
        have HO2 : Hid (w2.ownsRow w.heap.size 5 1 (.slice ra2 (q + x.size) rc2) (q + x.size) ((acc xs sep (i + 1)).map (fun b => Value.int .u8 b.toNat))) := by
          rw [HE.out, List.map_append]; exact hown2
        have HM : Hid ((acc xs sep (i + 1)).length ≤ (acc xs sep xs.length).length) := acc_le _ _ _ _ (by rw [HN.out]; omega)
        clear e2 hgr2 hown2 HO hbw hcell
        by_cases hbig : 1048576 < ((q + x.size : Nat) : Int)
        · go_wp2_with fail
          go_ret
          exact ⟨by unfold Out; rw [out_no xs sep (i + 1) HM.out (by have := HA.out; omega)]; rfl, hb2⟩
        · go_wp2_with fail
          go_roundw
          case rel => exact ⟨i + 1, q + x.size, by omega, by go_num, HA.out, by omega, HO2.out, hb2⟩
          case measure => simp [intOf]; omega
    · have HF : Hid (Out xs sep = acc xs sep i) := out_yes xs sep i (by have := HN.out; omega) (by rw [HQ.out]; exact hq2)
      have hcv := Kit.conv_row wr w.heap.size _ (acc xs sep i) (by rw [HQ.out]; exact HO.out)
      generalize acc xs sep i = l at *
      go_wp2_with fail
      go_ret
      exact ⟨by rw [HF.out]; rfl, hbw⟩
end Go.Proofs.YtoaocpfehdcfgaaGreatDoor.SpecJoin
