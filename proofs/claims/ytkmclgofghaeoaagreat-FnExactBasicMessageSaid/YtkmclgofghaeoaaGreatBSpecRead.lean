/-
  spec.l1Read, spec.ParseNumber and spec.ParseInt answer the number whose decimal form the text is, and write nothing that was there.
-/
import Derived.Test.YtkmclgofghaeoaaGreatBParse
import Derived.Test.YtkmclgofghaeoaaGreatBSpecFmt
namespace Go.Proofs.YtkmclgofghaeoaaGreat.SpecRead
open Go.RowKit
open Parse
set_option maxHeartbeats 1000000 in
theorem plain_loop (T : ByteArray) (most : Int) (m : Nat) (w : World) (hp : 0 < T.size) (hm : most = m) (hm2 : m ≤ 12) (h45 : ¬ ((T[0]'hp).toNat : Int) = 45) (hlen : T.size ≤ m) :
    Calls Tryz.prog 96 #[.string T, .int .i64 most] w fun e w' => e = .returned (pr (Num.rdNat (10 ^ m - 1) T.data.toList)) ∧ Below w.heap.size w w' := by
  have hp' : (0 : Int) < (T.size : Int) := by omega
  have hq' : ¬ (T.size : Int) < 1 := by omega
  have hl' : ¬ most < (T.size : Int) := by omega
  have ht : (((T[0]'hp).toNat : Int) == 45) = false := by simpa using h45
  have hmo : most ≤ 12 := by omega
  clear h45 hm
  · go_enter Tryz.func96, Tryz.ntmps96
    go_wp2_with fail
    go_loop [8, 9] (fun t j => ∃ i : Nat, i ≤ T.size ∧ t = .int .i64 (Num.val (T.data.toList.take i) : Nat) ∧ j = .int .i64 i ∧ Num.Digs T.data.toList i)
      (fun _ j => T.size - (intOf j).toNat)
    case atStart => exact ⟨0, by omega, rfl, rfl, Num.digs_zero _⟩
    case round =>
      obtain ⟨i, hi, rfl, rfl, hd⟩ := hrel
      have hv := Num.val_take_lt T.data.toList i m hd (by rw [len_list]; exact hlen) hm2
      have HD := Lib.hid hd; clear hd
      by_cases hlt : i < T.size
      · have hlt' : i < T.data.toList.length := by rw [len_list]; exact hlt
        have hv0 : (0 : Int) ≤ (Num.val (T.data.toList.take i) : Int) := by omega
        have hc0 : (0 : Int) ≤ ((T[i]'hlt).toNat : Int) := by omega
        have hc1 : ((T[i]'hlt).toNat : Int) ≤ 255 := by have := UInt8.toNat_lt (T[i]'hlt); omega
        have HB : Hid (¬ (48 ≤ (T[i]'hlt).toNat ∧ (T[i]'hlt).toNat ≤ 57) → Num.rdNat (10 ^ m - 1) T.data.toList = none) := fun h => Num.rd_bad _ _ i hlt' (by
          rw [getElem_list T i hlt hlt', Bool.eq_false_iff]; exact fun e => h ((Num.dig_iff _).1 e))
        have HG : Hid (48 ≤ (T[i]'hlt).toNat ∧ (T[i]'hlt).toNat ≤ 57 → Num.Digs T.data.toList (i + 1) ∧ (Num.val (T.data.toList.take (i + 1)) : Int) = 10 * (Num.val (T.data.toList.take i) : Int) + (((T[i]'hlt).toNat : Int) - 48)) := fun h =>
          ⟨Num.digs_succ _ i hlt' HD.out (by rw [getElem_list T i hlt hlt']; exact h), by rw [Num.val_succ _ i hlt' (by rw [getElem_list T i hlt hlt']; exact h.1), getElem_list T i hlt hlt']⟩
        generalize Num.val (T.data.toList.take i) = v at *
        by_cases h48 : ((T[i]'hlt).toNat : Int) < 48
        · go_wp2_with fail
          go_ret2
          exact ⟨pr_no (HB.out (by omega)), Below.refl _ _⟩
        · by_cases h57 : (57 : Int) < ((T[i]'hlt).toNat : Int)
          · go_wp2_with fail
            go_ret2
            exact ⟨pr_no (HB.out (by omega)), Below.refl _ _⟩
          · have h48' : (48 : Int) ≤ ((T[i]'hlt).toNat : Int) := by omega
            go_wp2_with fail
            go_round
            case rel =>
              have h1 := HG.out (by omega)
              exact ⟨i + 1, by omega, by rw [h1.2], by go_num, h1.1⟩
            case measure => simp [intOf]; omega
      · have ht : T.data.toList.take i = T.data.toList := List.take_of_length_le (by rw [len_list]; omega)
        have hall := Num.digs_end _ i HD.out (by rw [len_list]; exact hlt)
        rw [ht] at hv ⊢
        have hne : T.data.toList ≠ [] := by intro h; have := len_list T; rw [h] at this; simp at this; omega
        have hL : T.data.toList.length ≤ m := by rw [len_list]; exact hlen
        have HT : Hid (Num.intText (Num.val T.data.toList : Int) = Num.natText (Num.val T.data.toList)) := by
          show _ = _
          rw [Num.intText_nat, if_neg (by omega), Int.natAbs_natCast]
        by_cases he : Num.natText (Num.val T.data.toList) = T.data.toList
        · have HF : Hid (Num.rdNat (10 ^ m - 1) T.data.toList = some (Num.val T.data.toList)) := Num.rd_model_yes m hm2 _ hne hL hall he
          have hq : Num.intText (Num.val T.data.toList : Int) = T.toList := by
            rw [HT.out, he, ByteArray.toList_eq]
          have HQ := Lib.hid hq; clear hq
          clear he HT hall hne hL ht
          generalize Num.val T.data.toList = v at *
          have hvi : (v : Int) < 1000000000000 := by omega
          go_wp2_with fail
          refine (SpecFmt.fmt_any (v : Int) w (by omega) (by omega)).mono ?_
          rintro e w1 ⟨rfl, hb1⟩
          have hq := HQ.out; clear HQ
          generalize Num.intText (v : Int) = tx at *
          subst hq
          go_wp2_with fail
          go_ret2
          exact ⟨pr_yes HF.out, hb1⟩
        · have HF : Hid (Num.rdNat (10 ^ m - 1) T.data.toList = none) := Num.rd_model_text m hm2 _ hL he
          have hq : (Num.intText (Num.val T.data.toList : Int) == T.toList) = false := by
            rw [HT.out, ByteArray.toList_eq, beq_eq_false_iff_ne]; exact he
          have HQ := Lib.hid hq; clear hq
          clear he HT hall hne hL ht
          generalize Num.val T.data.toList = v at *
          have hvi : (v : Int) < 1000000000000 := by omega
          go_wp2_with fail
          refine (SpecFmt.fmt_any (v : Int) w (by omega) (by omega)).mono ?_
          rintro e w1 ⟨rfl, hb1⟩
          have hq := HQ.out; clear HQ
          generalize Num.intText (v : Int) = tx at *
          go_wp2_with fail
          go_ret2
          exact ⟨pr_no HF.out, hb1⟩
def prn (r : Option Nat) : Value := .tuple #[.int .i64 (-(((pos r).getD 0 : Nat) : Int)), .bool (pos r).isSome]
theorem prn_no {r : Option Nat} (h : r = none ∨ r = some 0) : Ending.returned (.tuple #[.int .i64 0, .bool false]) = .returned (prn r) := by rcases h with h | h <;> subst h <;> rfl
theorem prn_yes {r : Option Nat} {n : Nat} (h : r = some n) (hn : n ≠ 0) : Ending.returned (.tuple #[.int .i64 (-(n : Int)), .bool true]) = .returned (prn r) := by
  subst h
  match n, hn with
  | n + 1, _ => rfl
theorem list_cut (s : ByteArray) (h : 0 < s.size) (h45 : ((s[0]'h).toNat : Int) = 45) : s.toList = 45 :: (s.extract 1 s.size).data.toList := by
  rw [ByteArray.toList_eq, ext_data, List.take_of_length_le (by rw [len_list]; exact Nat.le_refl _)]
  have h' : 0 < s.data.toList.length := by rw [len_list]; exact h
  have e : s.data.toList[0]'h' = 45 := by rw [getElem_list s 0 h h']; exact byte_eq _ 45 h45
  rw [← e, ← List.drop_eq_getElem_cons h', List.drop_zero]
set_option maxHeartbeats 400000 in
theorem plain_empty (T : ByteArray) (most : Int) (m : Nat) (w : World) (hp : T.size = 0) :
    Calls Tryz.prog 96 #[.string T, .int .i64 most] w fun e w' => e = .returned (pr (Num.rdNat (10 ^ m - 1) T.data.toList)) ∧ Below w.heap.size w w' := by
  have hz : T.data.toList = [] := List.eq_nil_of_length_eq_zero (by rw [len_list]; exact hp)
  have HF : Hid (Num.rdNat (10 ^ m - 1) T.data.toList = none) := Num.rd_no _ _ fun h => h.1 hz
  have hp' : ¬ (0 : Int) < (T.size : Int) := by omega
  have hq' : (T.size : Int) < 1 := by omega
  clear hz hp
  go_enter Tryz.func96, Tryz.ntmps96
  go_wp2_with fail
  go_ret2
  exact ⟨pr_no HF.out, Below.refl _ _⟩
set_option maxHeartbeats 400000 in
theorem plain_long (T : ByteArray) (most : Int) (m : Nat) (w : World) (hp : 0 < T.size) (hs : T.size ≤ 1048576) (hm : most = m) (hm1 : 1 ≤ m) (hm2 : m ≤ 12) (h45 : ¬ ((T[0]'hp).toNat : Int) = 45) (hlen : ¬ T.size ≤ m) :
    Calls Tryz.prog 96 #[.string T, .int .i64 most] w fun e w' => e = .returned (pr (Num.rdNat (10 ^ m - 1) T.data.toList)) ∧ Below w.heap.size w w' := by
  have HF : Hid (Num.rdNat (10 ^ m - 1) T.data.toList = none) := Num.rd_model_long m hm1 _ (by rw [len_list]; exact hlen)
  have hp' : (0 : Int) < (T.size : Int) := by omega
  have hq' : ¬ (T.size : Int) < 1 := by omega
  have hl' : most < (T.size : Int) := by omega
  have ht : (((T[0]'hp).toNat : Int) == 45) = false := by simpa using h45
  have hmo : most ≤ 12 := by omega
  clear h45 hm
  go_enter Tryz.func96, Tryz.ntmps96
  go_wp2_with fail
  go_ret2
  exact ⟨pr_no HF.out, Below.refl _ _⟩
set_option maxHeartbeats 400000 in
theorem neg_empty (s : ByteArray) (most : Int) (m : Nat) (r : Option Nat) (w : World) (hp : s.size = 1) (h45 : ((s[0]'(by omega)).toNat : Int) = 45) (hr : Num.rdNat (10 ^ m - 1) (s.extract 1 s.size).data.toList = r) :
    Calls Tryz.prog 96 #[.string s, .int .i64 most] w fun e w' => e = .returned (prn r) ∧ Below w.heap.size w w' := by
  have hz : (s.extract 1 s.size).data.toList = [] := by
    rw [ext_data]; exact List.eq_nil_of_length_eq_zero (by simp; have := len_list s; simp at this; omega)
  have HF : Hid (r = none) := by rw [← hr]; exact Num.rd_no _ _ fun h => h.1 hz
  have hp0 : 0 < s.size := by omega
  have hp' : (0 : Int) < (s.size : Int) := by omega
  have hp1 : (1 : Int) ≤ (s.size : Int) := by omega
  have hp2 : (s.size : Int) ≤ 1 := by omega
  have ht : (((s[0]'hp0).toNat : Int) == 45) = true := by simpa using h45
  clear hz hp h45 hr
  go_enter Tryz.func96, Tryz.ntmps96
  go_wp2_with fail
  go_ret2
  exact ⟨prn_no (.inl HF.out), Below.refl _ _⟩
theorem cut_size (s : ByteArray) : (s.extract 1 s.size).size = s.size - 1 := by
  simp [ByteArray.size_extract]
set_option maxHeartbeats 400000 in
theorem neg_long (s : ByteArray) (most : Int) (m : Nat) (r : Option Nat) (w : World) (hp : 1 < s.size) (hs : s.size ≤ 1048576) (hm : most = m) (hm1 : 1 ≤ m) (hm2 : m ≤ 12) (h45 : ((s[0]'(by omega)).toNat : Int) = 45) (hlen : ¬ s.size - 1 ≤ m)
    (hr : Num.rdNat (10 ^ m - 1) (s.extract 1 s.size).data.toList = r) :
    Calls Tryz.prog 96 #[.string s, .int .i64 most] w fun e w' => e = .returned (prn r) ∧ Below w.heap.size w w' := by
  have HF : Hid (r = none) := by rw [← hr]; exact Num.rd_model_long m hm1 _ (by rw [len_list, cut_size]; exact hlen)
  have hp0 : 0 < s.size := by omega
  have hp' : (0 : Int) < (s.size : Int) := by omega
  have hp1 : (1 : Int) ≤ (s.size : Int) := by omega
  have hq' : ¬ ((s.size - 1 : Nat) : Int) < 1 := by omega
  have hl' : most < ((s.size - 1 : Nat) : Int) := by omega
  have hmo : most ≤ 12 := by omega
  have ht : (((s[0]'hp0).toNat : Int) == 45) = true := by simpa using h45
  clear h45 hr hm
  go_enter Tryz.func96, Tryz.ntmps96
  go_wp2_with fail
  go_ret2
  exact ⟨prn_no (.inl HF.out), Below.refl _ _⟩
set_option maxHeartbeats 1000000 in
theorem neg_loop (s : ByteArray) (most : Int) (m : Nat) (r : Option Nat) (w : World) (hp : 1 < s.size) (hs : s.size ≤ 1048576) (hm : most = m) (hm2 : m ≤ 12) (h45 : ((s[0]'(by omega)).toNat : Int) = 45) (hlen0 : s.size - 1 ≤ m)
    (hr : Num.rdNat (10 ^ m - 1) (s.extract 1 s.size).data.toList = r) :
    Calls Tryz.prog 96 #[.string s, .int .i64 most] w fun e w' => e = .returned (prn r) ∧ Below w.heap.size w w' := by
  have hcut := Lib.hid (list_cut s (by omega) h45)
  have hlen : (s.extract 1 s.size).size ≤ m := by rw [cut_size]; exact hlen0
  have hT0 : 0 < (s.extract 1 s.size).size := by rw [cut_size]; omega
  have HR := Lib.hid hr; clear hr
  have hp0 : 0 < s.size := by omega
  have hp' : (0 : Int) < (s.size : Int) := by omega
  have hp1 : (1 : Int) ≤ (s.size : Int) := by omega
  have hq' : ¬ ((s.size - 1 : Nat) : Int) < 1 := by omega
  have hl' : ¬ most < ((s.size - 1 : Nat) : Int) := by omega
  have hmo : most ≤ 12 := by omega
  have ht : (((s[0]'hp0).toNat : Int) == 45) = true := by simpa using h45
  have HLN := Lib.hid (And.intro hlen hT0)
  clear h45 hm hlen hT0 hlen0
  · go_enter Tryz.func96, Tryz.ntmps96
    go_wp2_with fail
    obtain ⟨hlen, hT0⟩ := HLN.out; clear HLN
    generalize hT : s.extract 1 s.size = T at *
    go_loop [8, 9] (fun t j => ∃ i : Nat, i ≤ T.size ∧ t = .int .i64 (Num.val (T.data.toList.take i) : Nat) ∧ j = .int .i64 i ∧ Num.Digs T.data.toList i)
      (fun _ j => T.size - (intOf j).toNat)
    case atStart => exact ⟨0, by omega, rfl, rfl, Num.digs_zero _⟩
    case round =>
      obtain ⟨i, hi, rfl, rfl, hd⟩ := hrel
      have hv := Num.val_take_lt T.data.toList i m hd (by rw [len_list]; exact hlen) hm2
      have HD := Lib.hid hd; clear hd
      by_cases hlt : i < T.size
      · have hlt' : i < T.data.toList.length := by rw [len_list]; exact hlt
        have hv0 : (0 : Int) ≤ (Num.val (T.data.toList.take i) : Int) := by omega
        have hc0 : (0 : Int) ≤ ((T[i]'hlt).toNat : Int) := by omega
        have hc1 : ((T[i]'hlt).toNat : Int) ≤ 255 := by have := UInt8.toNat_lt (T[i]'hlt); omega
        have HB : Hid (¬ (48 ≤ (T[i]'hlt).toNat ∧ (T[i]'hlt).toNat ≤ 57) → Num.rdNat (10 ^ m - 1) T.data.toList = none) := fun h => Num.rd_bad _ _ i hlt' (by
          rw [getElem_list T i hlt hlt', Bool.eq_false_iff]; exact fun e => h ((Num.dig_iff _).1 e))
        have HG : Hid (48 ≤ (T[i]'hlt).toNat ∧ (T[i]'hlt).toNat ≤ 57 → Num.Digs T.data.toList (i + 1) ∧ (Num.val (T.data.toList.take (i + 1)) : Int) = 10 * (Num.val (T.data.toList.take i) : Int) + (((T[i]'hlt).toNat : Int) - 48)) := fun h =>
          ⟨Num.digs_succ _ i hlt' HD.out (by rw [getElem_list T i hlt hlt']; exact h), by rw [Num.val_succ _ i hlt' (by rw [getElem_list T i hlt hlt']; exact h.1), getElem_list T i hlt hlt']⟩
        generalize Num.val (T.data.toList.take i) = v at *
        by_cases h48 : ((T[i]'hlt).toNat : Int) < 48
        · go_wp2_with fail
          go_ret2
          exact ⟨prn_no (.inl <| HR.out.symm.trans <| HB.out (by omega)), Below.refl _ _⟩
        · by_cases h57 : (57 : Int) < ((T[i]'hlt).toNat : Int)
          · go_wp2_with fail
            go_ret2
            exact ⟨prn_no (.inl <| HR.out.symm.trans <| HB.out (by omega)), Below.refl _ _⟩
          · have h48' : (48 : Int) ≤ ((T[i]'hlt).toNat : Int) := by omega
            go_wp2_with fail
            go_round
            case rel =>
              have h1 := HG.out (by omega)
              exact ⟨i + 1, by omega, by rw [h1.2], by go_num, h1.1⟩
            case measure => simp [intOf]; omega
      · have ht' : T.data.toList.take i = T.data.toList := List.take_of_length_le (by rw [len_list]; omega)
        have hall := Num.digs_end _ i HD.out (by rw [len_list]; exact hlt)
        rw [ht'] at hv ⊢
        have hne : T.data.toList ≠ [] := by intro h; have := len_list T; rw [h] at this; simp at this; omega
        have hL : T.data.toList.length ≤ m := by rw [len_list]; exact hlen
        have HS : Hid (s.toList = 45 :: T.data.toList) := hcut
        by_cases he : Num.val T.data.toList ≠ 0 ∧ Num.natText (Num.val T.data.toList) = T.data.toList
        · have HF : Hid (r = some (Num.val T.data.toList)) := by rw [← HR.out]; exact Num.rd_model_yes m hm2 _ hne hL hall he.2
          have HQ : Hid (Num.intText (-(Num.val T.data.toList : Int)) = s.toList) := by
            show _ = _
            rw [HS.out, Num.intText_nat, if_pos (by omega), Int.natAbs_neg, Int.natAbs_natCast, he.2]
          have HZ := Lib.hid he.1
          clear he hall hne hL ht' hcut
          generalize Num.val T.data.toList = v at *
          have hvi : (v : Int) < 1000000000000 := by omega
          go_wp2_with fail
          refine (SpecFmt.fmt_any (-(v : Int)) w (by omega) (by omega)).mono ?_
          rintro e w1 ⟨rfl, hb1⟩
          have hq := HQ.out; clear HQ
          generalize Num.intText (-(v : Int)) = tx at *
          subst hq
          go_wp2_with fail
          go_ret2
          exact ⟨prn_yes HF.out HZ.out, hb1⟩
        · have HF : Hid (r = none ∨ r = some 0) := by
            show _ ∨ _
            rw [← HR.out]
            by_cases h0 : Num.natText (Num.val T.data.toList) = T.data.toList
            · have h1 : Num.val T.data.toList = 0 := by
                rcases Nat.eq_zero_or_pos (Num.val T.data.toList) with h | h
                · exact h
                · exact absurd ⟨by omega, h0⟩ he
              have := Num.rd_model_yes m hm2 _ hne hL hall h0
              rw [h1] at this; exact .inr this
            · exact .inl (Num.rd_model_text m hm2 _ hL h0)
          have HQ : Hid ((Num.intText (-(Num.val T.data.toList : Int)) == s.toList) = false) := by
            show _ = _
            rw [HS.out, beq_eq_false_iff_ne]
            intro h
            rw [Num.intText_nat] at h
            split at h
            · rw [Int.natAbs_neg, Int.natAbs_natCast, List.cons.injEq] at h
              exact he ⟨by omega, h.2⟩
            · next h1 =>
              have h2 : Num.val T.data.toList = 0 := by omega
              rw [h2] at h
              exact absurd (List.cons.inj (show (48 : UInt8) :: [] = 45 :: T.data.toList from h)).1 (by decide)
          clear he hall hne hL ht' hcut
          generalize Num.val T.data.toList = v at *
          have hvi : (v : Int) < 1000000000000 := by omega
          go_wp2_with fail
          refine (SpecFmt.fmt_any (-(v : Int)) w (by omega) (by omega)).mono ?_
          rintro e w1 ⟨rfl, hb1⟩
          have hq := HQ.out; clear HQ
          generalize Num.intText (-(v : Int)) = tx at *
          go_wp2_with fail
          go_ret2
          exact ⟨prn_no HF.out, hb1⟩
theorem read_plain (s : ByteArray) (most : Int) (m : Nat) (r : Option Nat) (w : World) (hs : s.size ≤ 1048576) (hm : most = m) (hm1 : 1 ≤ m) (hm2 : m ≤ 12) (h45 : ∀ h : 0 < s.size, ¬ ((s[0]'h).toNat : Int) = 45) (hr : Num.rdNat (10 ^ m - 1) s.data.toList = r) :
    Calls Tryz.prog 96 #[.string s, .int .i64 most] w fun e w' => e = .returned (.tuple #[.int .i64 ((r.getD 0 : Nat) : Int), .bool r.isSome]) ∧ Below w.heap.size w w' := by
  subst hr
  by_cases h0 : s.size = 0
  · exact plain_empty s most m w h0
  · by_cases hl : s.size ≤ m
    · exact plain_loop s most m w (by omega) hm hm2 (h45 (by omega)) hl
    · exact plain_long s most m w (by omega) hs hm hm1 hm2 (h45 (by omega)) hl
theorem read_neg (s : ByteArray) (most : Int) (m : Nat) (r : Option Nat) (w : World) (hp : 0 < s.size) (hs : s.size ≤ 1048576) (hm : most = m) (hm1 : 1 ≤ m) (hm2 : m ≤ 12) (h45 : ((s[0]'hp).toNat : Int) = 45) (hr : Num.rdNat (10 ^ m - 1) (s.extract 1 s.size).data.toList = r) :
    Calls Tryz.prog 96 #[.string s, .int .i64 most] w fun e w' => e = .returned (.tuple #[.int .i64 (-(((pos r).getD 0 : Nat) : Int)), .bool (pos r).isSome]) ∧ Below w.heap.size w w' := by
  by_cases h1 : s.size = 1
  · exact neg_empty s most m r w h1 h45 hr
  · by_cases hl : s.size - 1 ≤ m
    · exact neg_loop s most m r w (by omega) hs hm hm2 h45 hl hr
    · exact neg_long s most m r w (by omega) hs hm hm1 hm2 h45 hl hr
end Go.Proofs.YtkmclgofghaeoaaGreat.SpecRead
