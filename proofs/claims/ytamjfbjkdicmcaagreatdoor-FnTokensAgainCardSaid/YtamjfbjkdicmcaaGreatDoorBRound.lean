/-
  Plain mathematics: decimal texts are read again, and the parts of a text give the text again when they are joined. Nothing of the program is named here.
-/
import Derived.Test.YtamjfbjkdicmcaaGreatDoorBImplSplit
import Derived.Test.YtamjfbjkdicmcaaGreatDoorBJoinMath
import Derived.Test.YtamjfbjkdicmcaaGreatDoorBRead
namespace Go.Proofs.YtamjfbjkdicmcaaGreatDoor.Num
theorem byte48 (d : Nat) (h : d < 10) : dig (48 + UInt8.ofNat d) = true ∧ ((48 : UInt8) + UInt8.ofNat d).toNat - 48 = d := by
  have := digit_toNat d h
  exact ⟨(dig_iff _).2 (by omega), by omega⟩
theorem natText_reads (n : Nat) (hb : n ≤ 18446744073709551615) : (natText n).all dig = true ∧ natText n ≠ [] ∧ val (natText n) = n := by
  induction n using Nat.strongRecOn with
  | ind n ih =>
    by_cases h : n < 10
    · have h1 := byte48 n h
      rw [natText_small n h]
      refine ⟨by simp [h1.1], by simp, ?_⟩
      have := val_snoc [] (48 + UInt8.ofNat n)
      rw [val_nil, List.nil_append] at this
      rw [this]; omega
    · have h1 := byte48 (n % 10) (by omega)
      have h2 := ih (n / 10) (by omega) (by omega)
      rw [natText_step n h hb]
      refine ⟨by rw [List.all_append, h2.1]; simp [h1.1], by simp, ?_⟩
      rw [val_snoc, h2.2.2]; omega
theorem natText_lead (n : Nat) (hb : n ≤ 18446744073709551615) : (natText n).length = 1 ∨ (natText n).head? ≠ some 48 :=
  have h := natText_reads n hb
  lead_of_text (natText n) h.2.1 h.1 (by rw [h.2.2]; exact hb) (by rw [h.2.2])
theorem rd_natText (m n : Nat) (hb : n ≤ 18446744073709551615) : rdNat m (natText n) = if n ≤ m then some n else none := by
  have h := natText_reads n hb
  split
  · next hm =>
    have := rd_yes m (natText n) ⟨h.2.1, h.1, natText_lead n hb, by rw [h.2.2]; exact hm⟩
    rw [this, h.2.2]
  · next hm => exact rd_no m _ fun hh => hm (by have := hh.2.2.2; rw [h.2.2] at this; exact this)
theorem natText_head (n : Nat) (hb : n ≤ 18446744073709551615) : (natText n).head? ≠ some 45 := by
  have h := (natText_reads n hb).1
  cases hl : natText n with
  | nil => simp
  | cons c t =>
    rw [hl] at h
    simp at h
    intro e
    simp at e
    subst e
    exact absurd h.1 (by decide)
end Go.Proofs.YtamjfbjkdicmcaaGreatDoor.Num
namespace Go.Proofs.YtamjfbjkdicmcaaGreatDoor.Cuts
open JoinMath
def flat (b : UInt8) (xs : List ByteArray) : List UInt8 := (xs.map fun x => x.data.toList ++ [b]).flatten
theorem flat_snoc (b : UInt8) (xs : List ByteArray) (y : ByteArray) : flat b (xs ++ [y]) = flat b xs ++ y.data.toList ++ [b] := by simp [flat]
theorem ext_list (s : ByteArray) (a b : Nat) : (s.extract a b).data.toList = (s.data.toList.take b).drop a := by
  rw [ByteArray.data_extract, Array.toList_extract, List.extract_eq_take_drop, List.drop_take]
theorem take_more (l : List UInt8) (f i : Nat) (h : f ≤ i) : l.take f ++ (l.take i).drop f = l.take i := by
  have := List.take_append_drop f (l.take i)
  rw [List.take_take, Nat.min_eq_left h] at this
  exact this
theorem flat_cuts (s : ByteArray) (b : Int) (i : Nat) : flat (UInt8.ofNat b.toNat) (cuts s b i).1 = s.data.toList.take (cuts s b i).2 := by
  induction i with
  | zero => rfl
  | succ i ih =>
    by_cases h : i < s.size
    · by_cases hb : ((s[i]'h).toNat : Int) = b
      · rw [cuts_hit s b i h hb]
        have h' : i < s.data.toList.length := by rw [Array.length_toList]; exact h
        have e : UInt8.ofNat b.toNat = s.data.toList[i]'h' := by
          rw [← hb, Int.toNat_natCast, UInt8.ofNat_toNat]; rfl
        simp only
        rw [flat_snoc, ih, ext_list, take_more _ _ _ (cuts_le s b i).1, List.take_succ_eq_append_getElem h', ← e]
      · rw [cuts_miss s b i h hb]; exact ih
    · have : cuts s b (i + 1) = cuts s b i := by rw [cuts, dif_neg h]
      rw [this]; exact ih
theorem acc_flat (ys : List ByteArray) (b : UInt8) (k : Nat) (hk : k < ys.length) : acc ys ⟨#[b]⟩ (k + 1) = flat b (ys.take k) ++ (at_ ys k).data.toList := by
  induction k with
  | zero => rfl
  | succ k ih =>
    have e : at_ ys k = ys[k] := by simp [at_, List.getD, show k < ys.length by omega]
    rw [acc_more _ _ _ (by omega), ih (by omega), List.take_succ_eq_append_getElem (by omega), flat_snoc, e]
theorem acc_parts (s : ByteArray) (b : Int) : acc (parts s b) ⟨#[UInt8.ofNat b.toNat]⟩ (parts s b).length = s.data.toList := by
  have hl : (parts s b).length = (cuts s b s.size).1.length + 1 := by simp [parts]
  rw [hl, acc_flat _ _ _ (by omega)]
  have e1 : (parts s b).take (cuts s b s.size).1.length = (cuts s b s.size).1 := by rw [parts, List.take_left]
  have e2 : at_ (parts s b) (cuts s b s.size).1.length = s.extract (cuts s b s.size).2 s.size := by simp [at_, List.getD, parts]
  have hsz : s.data.toList.take s.size = s.data.toList := List.take_of_length_le (by rw [Array.length_toList]; exact Nat.le_refl _)
  rw [e1, e2, flat_cuts, ext_list, take_more _ _ _ (cuts_le s b s.size).1, hsz]
theorem total_acc (xs : List ByteArray) (sep : ByteArray) (i : Nat) : total xs i ≤ (acc xs sep i).length := by
  have e2 : ∀ s : ByteArray, s.data.toList.length = s.size := fun s => by rw [Array.length_toList]; rfl
  induction i with
  | zero => exact Nat.le_refl _
  | succ i ih =>
    rw [total]
    by_cases h : 0 < i
    · rw [acc_more _ _ _ h]; simp only [List.length_append, e2]; omega
    · have : i = 0 := by omega
      subst this; simp only [acc, total, if_true, e2]; omega
end Go.Proofs.YtamjfbjkdicmcaaGreatDoor.Cuts
