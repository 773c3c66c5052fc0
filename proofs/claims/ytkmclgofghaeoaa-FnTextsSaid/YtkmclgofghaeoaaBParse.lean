/-
  impl.parseDigits, impl.ParseNumber and impl.ParseInt answer the number whose decimal form the text is, and write nothing.
-/
import Derived.Test.YtkmclgofghaeoaaBMark
import Derived.Test.YtkmclgofghaeoaaBRead
import Derived.Test.YtkmclgofghaeoaaRows
import Derived.WalkKit
import Derived.WalkSpells
import Derived.Outline
import Derived.Lib.Hide
namespace Go.Proofs.Ytkmclgofghaeoaa.Parse
open Go.RowKit
def pr (r : Option Nat) : Value := .tuple #[.int .i64 ((r.getD 0 : Nat) : Int), .bool r.isSome]
theorem pr_no {r : Option Nat} (h : r = none) : Ending.returned (.tuple #[.int .i64 0, .bool false]) = .returned (pr r) := by subst h; rfl
theorem pr_yes {r : Option Nat} {n : Nat} (h : r = some n) : Ending.returned (.tuple #[.int .i64 (n : Int), .bool true]) = .returned (pr r) := by subst h; rfl
theorem getElem_list (s : ByteArray) (i : Nat) (h : i < s.size) (h' : i < s.data.toList.length) : s.data.toList[i]'h' = s[i]'h := rfl
theorem len_list (s : ByteArray) : s.data.toList.length = s.size := by rw [Array.length_toList]; rfl
theorem byte_eq (c : UInt8) (n : Nat) (h : (c.toNat : Int) = n) : c = UInt8.ofNat n := by
  have : c.toNat = n := by omega
  rw [← this, UInt8.ofNat_toNat]
theorem head_list (s : ByteArray) (h : 0 < s.size) : s.data.toList.head? = some (s[0]'h) := by
  have h' : 0 < s.data.toList.length := by rw [len_list]; exact h
  rw [List.head?_eq_getElem?, List.getElem?_eq_getElem h', getElem_list s 0 h h']
set_option maxHeartbeats 400000 in
theorem digs_empty (s : ByteArray) (most : Int) (m : Nat) (w : World) (h0 : s.size = 0) :
    Calls Try.prog 100 #[.string s, .int .i64 most] w fun e w' => e = .returned (pr (Num.rdNat m s.data.toList)) ∧ w = w' := by
  have hz : s.data.toList = [] := List.eq_nil_of_length_eq_zero (by rw [len_list]; exact h0)
  have he : s.toList.isEmpty = true := by rw [ByteArray.toList_eq, hz]; rfl
  have HZ := Lib.hid hz; clear hz h0
  go_enter Try.func100, Try.ntmps100
  go_wp2_with fail
  go_ret2
  exact ⟨pr_no (by rw [HZ.out]; rfl), rfl⟩
set_option maxHeartbeats 400000 in
theorem digs_lead (s : ByteArray) (most : Int) (m : Nat) (w : World) (h1 : 1 < s.size) (hb : s.size ≤ 1048576) (h48 : ((s[0]'(by omega)).toNat : Int) = 48) :
    Calls Try.prog 100 #[.string s, .int .i64 most] w fun e w' => e = .returned (pr (Num.rdNat m s.data.toList)) ∧ w = w' := by
  have hp : 0 < s.size := by omega
  have he : s.toList.isEmpty = false := by rw [ByteArray.toList_eq, List.isEmpty_eq_false_iff]; intro h; have := len_list s; rw [h] at this; simp at this; omega
  have ht : (((s[0]'hp).toNat : Int) == 48) = true := by simpa using h48
  have hl : (1 : Int) < (s.size : Int) := by omega
  have HR : Hid (Num.rdNat m s.data.toList = none) := by
    refine Num.rd_no _ _ fun ⟨_, _, h, _⟩ => ?_
    rcases h with h | h
    · rw [len_list] at h; omega
    · rw [head_list s hp] at h; exact h (by rw [byte_eq (s[0]'hp) 48 (by omega)]; rfl)
  clear h48
  go_enter Try.func100, Try.ntmps100
  go_wp2_with fail
  go_ret2
  exact ⟨pr_no HR.out, rfl⟩
set_option maxHeartbeats 1000000 in
theorem digs_loop (s : ByteArray) (most : Int) (m : Nat) (w : World) (hp : 0 < s.size) (hb : s.size ≤ 1048576) (hm : most = m) (hm2 : most ≤ 999999999999)
    (hh : s.size = 1 ∨ (1 < s.size ∧ ¬ ((s[0]'hp).toNat : Int) = 48)) :
    Calls Try.prog 100 #[.string s, .int .i64 most] w fun e w' => e = .returned (pr (Num.rdNat m s.data.toList)) ∧ w = w' := by
  have HM := Lib.hid hm; clear hm
  have hm0 : 0 ≤ most := by have := HM.out; omega
  have he : s.toList.isEmpty = false := by rw [ByteArray.toList_eq, List.isEmpty_eq_false_iff]; intro h; have := len_list s; rw [h] at this; simp at this; omega
  have HL : Hid (s.data.toList.length = 1 ∨ s.data.toList.head? ≠ some 48) := by
    rcases hh with h | h
    · exact .inl (by rw [len_list]; exact h)
    · exact .inr (by rw [head_list s hp]; intro e; rw [Option.some.injEq] at e; rw [e] at h; exact h.2 rfl)
  rcases hh with h1 | ⟨h1, h48⟩
  · have hl : ¬ (1 : Int) < (s.size : Int) := by omega
    have H1 := Lib.hid h1; clear h1
    go_enter Try.func100, Try.ntmps100
    go_wp2_with fail
    go_loop [6, 22] (fun t j => ∃ i : Nat, i ≤ s.size ∧ t = .int .i64 (Num.val (s.data.toList.take i) : Nat) ∧ j = .int .i64 i ∧ Num.Digs s.data.toList i ∧ (Num.val (s.data.toList.take i) : Int) ≤ most)
      (fun _ j => s.size - (intOf j).toNat)
    case atStart => exact ⟨0, by omega, rfl, rfl, Num.digs_zero _, by simp [Num.val_nil]; omega⟩
    case round =>
      obtain ⟨i, hi, rfl, rfl, hd, hv⟩ := hrel
      have HD := Lib.hid hd; clear hd
      by_cases hlt : i < s.size
      · have hlt' : i < s.data.toList.length := by rw [len_list]; exact hlt
        have hv0 : (0 : Int) ≤ (Num.val (s.data.toList.take i) : Int) := by omega
        have hc0 : (0 : Int) ≤ ((s[i]'hlt).toNat : Int) := by omega
        have hc1 : ((s[i]'hlt).toNat : Int) ≤ 255 := by have := UInt8.toNat_lt (s[i]'hlt); omega
        have HB : Hid (¬ (48 ≤ (s[i]'hlt).toNat ∧ (s[i]'hlt).toNat ≤ 57) → Num.rdNat m s.data.toList = none) := fun h => Num.rd_bad m _ i hlt' (by
          rw [getElem_list s i hlt hlt', Bool.eq_false_iff]; exact fun e => h ((Num.dig_iff _).1 e))
        have HG : Hid (48 ≤ (s[i]'hlt).toNat ∧ (s[i]'hlt).toNat ≤ 57 → Num.Digs s.data.toList (i + 1) ∧ (Num.val (s.data.toList.take (i + 1)) : Int) = 10 * (Num.val (s.data.toList.take i) : Int) + (((s[i]'hlt).toNat : Int) - 48)) := fun h =>
          ⟨Num.digs_succ _ i hlt' HD.out (by rw [getElem_list s i hlt hlt']; exact h), by rw [Num.val_succ _ i hlt' (by rw [getElem_list s i hlt hlt']; exact h.1), getElem_list s i hlt hlt']⟩
        generalize Num.val (s.data.toList.take i) = v at *
        by_cases h48 : ((s[i]'hlt).toNat : Int) < 48
        · go_wp2_with fail
          go_ret2
          exact ⟨pr_no (HB.out (by omega)), rfl⟩
        · by_cases h57 : (57 : Int) < ((s[i]'hlt).toNat : Int)
          · go_wp2_with fail
            go_ret2
            exact ⟨pr_no (HB.out (by omega)), rfl⟩
          · have h48' : (48 : Int) ≤ ((s[i]'hlt).toNat : Int) := by omega
            by_cases hbig : most < (v : Int) * 10 + (((s[i]'hlt).toNat : Int) - 48)
            · go_wp2_with fail
              go_ret2
              exact ⟨pr_no (Num.rd_big m _ (i + 1) (by have h1 := (HG.out (by omega)).2; have h2 := HM.out; omega)), rfl⟩
            · go_wp2_with fail
              go_round
              case rel =>
                have h1 := HG.out (by omega)
                exact ⟨i + 1, by omega, by rw [h1.2]; go_num, by go_num, h1.1, by rw [h1.2]; omega⟩
              case measure => simp [intOf]; omega
      · have HF : Hid (Num.rdNat m s.data.toList = some (Num.val s.data.toList)) := by
          have h1 : s.data.toList.take i = s.data.toList := List.take_of_length_le (by rw [len_list]; omega)
          rw [h1] at hv
          exact Num.rd_yes m _ ⟨by intro h; have := len_list s; rw [h] at this; simp at this; omega, Num.digs_end _ i HD.out (by rw [len_list]; exact hlt), HL.out, by have h2 := HM.out; omega⟩
        have HT : Hid (Num.val (s.data.toList.take i) = Num.val s.data.toList) := by rw [Hid, List.take_of_length_le (by rw [len_list]; omega)]
        generalize Num.val (s.data.toList.take i) = v at *
        go_wp2_with fail
        go_ret2
        exact ⟨pr_yes (by rw [HF.out, HT.out]), rfl⟩
  · have hl : (1 : Int) < (s.size : Int) := by omega
    have ht : (((s[0]'hp).toNat : Int) == 48) = false := by simpa using h48
    clear h48
    go_enter Try.func100, Try.ntmps100
    go_wp2_with fail
    go_loop [6, 22] (fun t j => ∃ i : Nat, i ≤ s.size ∧ t = .int .i64 (Num.val (s.data.toList.take i) : Nat) ∧ j = .int .i64 i ∧ Num.Digs s.data.toList i ∧ (Num.val (s.data.toList.take i) : Int) ≤ most)
      (fun _ j => s.size - (intOf j).toNat)
    case atStart => exact ⟨0, by omega, rfl, rfl, Num.digs_zero _, by simp [Num.val_nil]; omega⟩
    case round =>
      obtain ⟨i, hi, rfl, rfl, hd, hv⟩ := hrel
      have HD := Lib.hid hd; clear hd
      by_cases hlt : i < s.size
      · have hlt' : i < s.data.toList.length := by rw [len_list]; exact hlt
        have hv0 : (0 : Int) ≤ (Num.val (s.data.toList.take i) : Int) := by omega
        have hc0 : (0 : Int) ≤ ((s[i]'hlt).toNat : Int) := by omega
        have hc1 : ((s[i]'hlt).toNat : Int) ≤ 255 := by have := UInt8.toNat_lt (s[i]'hlt); omega
        have HB : Hid (¬ (48 ≤ (s[i]'hlt).toNat ∧ (s[i]'hlt).toNat ≤ 57) → Num.rdNat m s.data.toList = none) := fun h => Num.rd_bad m _ i hlt' (by
          rw [getElem_list s i hlt hlt', Bool.eq_false_iff]; exact fun e => h ((Num.dig_iff _).1 e))
        have HG : Hid (48 ≤ (s[i]'hlt).toNat ∧ (s[i]'hlt).toNat ≤ 57 → Num.Digs s.data.toList (i + 1) ∧ (Num.val (s.data.toList.take (i + 1)) : Int) = 10 * (Num.val (s.data.toList.take i) : Int) + (((s[i]'hlt).toNat : Int) - 48)) := fun h =>
          ⟨Num.digs_succ _ i hlt' HD.out (by rw [getElem_list s i hlt hlt']; exact h), by rw [Num.val_succ _ i hlt' (by rw [getElem_list s i hlt hlt']; exact h.1), getElem_list s i hlt hlt']⟩
        generalize Num.val (s.data.toList.take i) = v at *
        by_cases h48 : ((s[i]'hlt).toNat : Int) < 48
        · go_wp2_with fail
          go_ret2
          exact ⟨pr_no (HB.out (by omega)), rfl⟩
        · by_cases h57 : (57 : Int) < ((s[i]'hlt).toNat : Int)
          · go_wp2_with fail
            go_ret2
            exact ⟨pr_no (HB.out (by omega)), rfl⟩
          · have h48' : (48 : Int) ≤ ((s[i]'hlt).toNat : Int) := by omega
            by_cases hbig : most < (v : Int) * 10 + (((s[i]'hlt).toNat : Int) - 48)
            · go_wp2_with fail
              go_ret2
              exact ⟨pr_no (Num.rd_big m _ (i + 1) (by have h1 := (HG.out (by omega)).2; have h2 := HM.out; omega)), rfl⟩
            · go_wp2_with fail
              go_round
              case rel =>
                have h1 := HG.out (by omega)
                exact ⟨i + 1, by omega, by rw [h1.2]; go_num, by go_num, h1.1, by rw [h1.2]; omega⟩
              case measure => simp [intOf]; omega
      · have HF : Hid (Num.rdNat m s.data.toList = some (Num.val s.data.toList)) := by
          have h1 : s.data.toList.take i = s.data.toList := List.take_of_length_le (by rw [len_list]; omega)
          rw [h1] at hv
          exact Num.rd_yes m _ ⟨by intro h; have := len_list s; rw [h] at this; simp at this; omega, Num.digs_end _ i HD.out (by rw [len_list]; exact hlt), HL.out, by have h2 := HM.out; omega⟩
        have HT : Hid (Num.val (s.data.toList.take i) = Num.val s.data.toList) := by rw [Hid, List.take_of_length_le (by rw [len_list]; omega)]
        generalize Num.val (s.data.toList.take i) = v at *
        go_wp2_with fail
        go_ret2
        exact ⟨pr_yes (by rw [HF.out, HT.out]), rfl⟩
theorem digs_any (s : ByteArray) (most : Int) (m : Nat) (r : Option Nat) (w : World) (hs : s.size ≤ 1048576) (hm : most = m) (hm2 : most ≤ 999999999999) (hr : Num.rdNat m s.data.toList = r) :
    Calls Try.prog 100 #[.string s, .int .i64 most] w fun e w' => e = .returned (.tuple #[.int .i64 ((r.getD 0 : Nat) : Int), .bool r.isSome]) ∧ w = w' := by
  subst hr
  by_cases h0 : s.size = 0
  · exact digs_empty s most m w h0
  · by_cases h1 : s.size = 1
    · exact digs_loop s most m w (by omega) hs hm hm2 (.inl h1)
    · by_cases h48 : ((s[0]'(by omega)).toNat : Int) = 48
      · exact digs_lead s most m w (by omega) hs h48
      · exact digs_loop s most m w (by omega) hs hm hm2 (.inr ⟨by omega, h48⟩)
theorem ext_data (s : ByteArray) (a b : Nat) : (s.extract a b).data.toList = (s.data.toList.take b).drop a := by
  rw [ByteArray.data_extract, Array.toList_extract, List.extract_eq_take_drop, List.drop_take]
theorem ext01 (s : ByteArray) (h : 0 < s.size) : (s.extract 0 1).toList = [s[0]'h] := by
  rw [ByteArray.toList_eq, ext_data, List.drop_zero]
  have h' : 0 < s.data.toList.length := by rw [len_list]; exact h
  rw [show (1 : Nat) = 0 + 1 from rfl, List.take_succ_eq_append_getElem h', getElem_list s 0 h h']; rfl
set_option maxHeartbeats 400000 in
theorem cut_none (s : ByteArray) (w : World) (h0 : s.size = 0) :
    Calls Try.prog 99 #[.string s, .string ⟨#[45]⟩] w fun e w' => e = .returned (.tuple #[.string s, .bool false]) ∧ w = w' := by
  have hz : ¬ (1 : Int) ≤ (s.size : Int) := by omega
  go_enter Try.func99, Try.ntmps99
  go_wp2
  go_ret2
  exact ⟨rfl, rfl⟩
set_option maxHeartbeats 400000 in
theorem cut_no (s : ByteArray) (w : World) (h0 : 0 < s.size) (hb : s.size ≤ 1048576) (h45 : ¬ ((s[0]'h0).toNat : Int) = 45) :
    Calls Try.prog 99 #[.string s, .string ⟨#[45]⟩] w fun e w' => e = .returned (.tuple #[.string s, .bool false]) ∧ w = w' := by
  have hz : (1 : Int) ≤ (s.size : Int) := by omega
  have he : ((s.extract 0 1).toList == [45]) = false := by
    rw [ext01 s h0, beq_eq_false_iff_ne]; intro h; rw [List.cons.injEq] at h; rw [h.1] at h45; exact h45 rfl
  clear h45
  go_enter Try.func99, Try.ntmps99
  go_wp2
  go_ret2
  exact ⟨rfl, rfl⟩
set_option maxHeartbeats 400000 in
theorem cut_yes (s : ByteArray) (w : World) (h0 : 0 < s.size) (hb : s.size ≤ 1048576) (h45 : ((s[0]'h0).toNat : Int) = 45) :
    Calls Try.prog 99 #[.string s, .string ⟨#[45]⟩] w fun e w' => e = .returned (.tuple #[.string (s.extract 1 s.size), .bool true]) ∧ w = w' := by
  have hz : (1 : Int) ≤ (s.size : Int) := by omega
  have he : ((s.extract 0 1).toList == [45]) = true := by
    rw [ext01 s h0, byte_eq (s[0]'h0) 45 h45]; rfl
  clear h45
  go_enter Try.func99, Try.ntmps99
  go_wp2
  go_ret2
  exact ⟨rfl, rfl⟩
def pos : Option Nat → Option Nat
  | some (n + 1) => some (n + 1)
  | _ => none
theorem rd_le (m : Nat) (l : List UInt8) (n : Nat) (h : Num.rdNat m l = some n) : n ≤ m := by
  unfold Num.rdNat at h
  split at h
  · next h1 => rw [Option.some.injEq] at h; omega
  · cases h
set_option maxHeartbeats 400000 in
theorem int_plain (s : ByteArray) (r : Option Nat) (w : World) (hs : s.size ≤ 1048576) (h45 : ∀ h : 0 < s.size, ¬ ((s[0]'h).toNat : Int) = 45) (hr : Num.rdNat 999999999999 s.data.toList = r) :
    Calls Try.prog 93 #[.string s] w fun e w' => e = .returned (.tuple #[.int .i64 ((r.getD 0 : Nat) : Int), .bool r.isSome]) ∧ w = w' := by
  have HR := Lib.hid hr; clear hr
  have hcut : Calls Try.prog 99 #[.string s, .string ⟨#[45]⟩] w fun e w' => e = .returned (.tuple #[.string s, .bool false]) ∧ w = w' := by
    by_cases h0 : 0 < s.size
    · exact cut_no s w h0 hs (h45 h0)
    · exact cut_none s w (by omega)
  have HC := Lib.hid hcut; clear hcut h45
  go_enter Try.func93, Try.ntmps93
  go_wp2_with fail
  refine HC.out.mono ?_
  rintro e w' ⟨rfl, rfl⟩
  go_wp2_with fail
  refine (digs_any s _ 999999999999 r w hs rfl (by omega) HR.out).mono ?_
  rintro e w' ⟨rfl, rfl⟩
  go_wp2_with fail
  go_ret2
  exact ⟨rfl, rfl⟩
set_option maxHeartbeats 400000 in
theorem int_neg (s : ByteArray) (r : Option Nat) (w : World) (hs : s.size ≤ 1048576) (h0 : 0 < s.size) (h45 : ((s[0]'h0).toNat : Int) = 45) (hr : Num.rdNat 999999999999 (s.extract 1 s.size).data.toList = r) :
    Calls Try.prog 93 #[.string s] w fun e w' => e = .returned (.tuple #[.int .i64 (-(((pos r).getD 0 : Nat) : Int)), .bool (pos r).isSome]) ∧ w = w' := by
  have hcut := cut_yes s w h0 hs h45
  have HC := Lib.hid hcut; clear hcut h45
  have hs' : (s.extract 1 s.size).size ≤ 1048576 := by simp [ByteArray.size_extract]; omega
  generalize s.extract 1 s.size = t at *
  have hle : ∀ n, r = some n → n ≤ 999999999999 := fun n h => rd_le _ _ n (hr.trans h)
  have HR := Lib.hid hr; clear hr
  match r, hle with
  | none, _ =>
    go_enter Try.func93, Try.ntmps93
    go_wp2_with fail
    refine HC.out.mono ?_
    rintro e w' ⟨rfl, rfl⟩
    go_wp2_with fail
    refine (digs_any t _ 999999999999 _ w hs' rfl (by omega) HR.out).mono ?_
    rintro e w' ⟨rfl, rfl⟩
    go_wp2_with fail
    go_ret2
    exact ⟨rfl, rfl⟩
  | some 0, _ =>
    go_enter Try.func93, Try.ntmps93
    go_wp2_with fail
    refine HC.out.mono ?_
    rintro e w' ⟨rfl, rfl⟩
    go_wp2_with fail
    refine (digs_any t _ 999999999999 _ w hs' rfl (by omega) HR.out).mono ?_
    rintro e w' ⟨rfl, rfl⟩
    go_wp2_with fail
    go_ret2
    exact ⟨rfl, rfl⟩
  | some (n + 1), hle =>
    have hn := hle (n + 1) rfl
    have hz : (((n + 1 : Nat) : Int) == 0) = false := by rw [beq_eq_false_iff_ne]; omega
    clear hle
    go_enter Try.func93, Try.ntmps93
    go_wp2_with fail
    refine HC.out.mono ?_
    rintro e w' ⟨rfl, rfl⟩
    go_wp2_with fail
    refine (digs_any t _ 999999999999 _ w hs' rfl (by omega) HR.out).mono ?_
    rintro e w' ⟨rfl, rfl⟩
    generalize hq : n + 1 = q at *
    have HQ := Lib.hid hq; clear hq
    have hz2 : ((q : Int) == 0) = false := by rw [beq_eq_false_iff_ne]; have := HQ.out; omega
    go_wp2_with fail
    go_ret2
    exact ⟨by rw [← HQ.out]; rfl, rfl⟩
end Go.Proofs.Ytkmclgofghaeoaa.Parse
