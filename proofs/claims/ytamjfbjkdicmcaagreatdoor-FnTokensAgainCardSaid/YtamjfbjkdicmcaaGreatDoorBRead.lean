/-
  Plain mathematics: which texts are the decimal form of a number, and of which. Nothing of the program is named here.
-/
import Derived.Test.YtamjfbjkdicmcaaGreatDoorBNum
namespace Go.Proofs.YtamjfbjkdicmcaaGreatDoor.Num
def dig (c : UInt8) : Bool := decide (48 ≤ c.toNat) && decide (c.toNat ≤ 57)
theorem dig_iff (c : UInt8) : dig c = true ↔ 48 ≤ c.toNat ∧ c.toNat ≤ 57 := by simp [dig]
def val (l : List UInt8) : Nat := l.foldl (fun a c => 10 * a + (c.toNat - 48)) 0
theorem val_nil : val [] = 0 := rfl
theorem val_snoc (l : List UInt8) (c : UInt8) : val (l ++ [c]) = 10 * val l + (c.toNat - 48) := by simp [val]
theorem rev_ind {P : List UInt8 → Prop} (h0 : P []) (h1 : ∀ l c, P l → P (l ++ [c])) (l : List UInt8) : P l := by
  have : ∀ r : List UInt8, P r.reverse := by
    intro r
    induction r with
    | nil => exact h0
    | cons c r ih => rw [List.reverse_cons]; exact h1 _ _ ih
  have := this l.reverse
  rwa [List.reverse_reverse] at this
theorem head_app (l r : List UInt8) (h : l ≠ []) : (l ++ r).head? = l.head? := by
  cases l with
  | nil => exact absurd rfl h
  | cons a l => rfl
theorem val_lt (l : List UInt8) : l.all dig = true → val l < 10 ^ l.length := by
  refine rev_ind (P := fun l => l.all dig = true → val l < 10 ^ l.length) ?_ ?_ l
  · intro _; simp [val_nil]
  · intro l c ih h
    rw [List.all_append, Bool.and_eq_true] at h
    have hc := (dig_iff c).1 (by simpa using h.2)
    have := ih h.1
    rw [val_snoc, List.length_append, List.length_singleton, Nat.pow_succ]
    omega
theorem val_ge (l : List UInt8) : l ≠ [] → l.all dig = true → l.head? ≠ some 48 → 10 ^ (l.length - 1) ≤ val l := by
  refine rev_ind (P := fun l => l ≠ [] → l.all dig = true → l.head? ≠ some 48 → 10 ^ (l.length - 1) ≤ val l) ?_ ?_ l
  · intro h; exact absurd rfl h
  · intro l c ih _ h hh
    rw [List.all_append, Bool.and_eq_true] at h
    have hc := (dig_iff c).1 (by simpa using h.2)
    rw [val_snoc, List.length_append, List.length_singleton]
    by_cases hl : l = []
    · subst hl
      simp at hh
      have : c.toNat ≠ 48 := fun e => hh (UInt8.toNat_inj.1 (by rw [e]; rfl))
      simp [val_nil]; omega
    · have h1 := ih hl h.1 (by rw [head_app l _ hl] at hh; exact hh)
      have h2 : l.length - 1 + 1 = l.length := by have := List.length_pos_iff.2 hl; omega
      rw [Nat.add_sub_cancel, ← h2, Nat.pow_succ]
      omega
theorem val_mono (l : List UInt8) (k : Nat) : val (l.take k) ≤ val l := by
  refine rev_ind (P := fun l => ∀ k, val (l.take k) ≤ val l) ?_ ?_ l k
  · intro k; simp
  · intro l c ih k
    rw [val_snoc]
    by_cases hk : k ≤ l.length
    · rw [List.take_append_of_le_length hk]; have := ih k; omega
    · rw [List.take_of_length_le (by simp; omega), val_snoc]; exact Nat.le_refl _
theorem natText_val (l : List UInt8) : l ≠ [] → l.all dig = true → (l.length = 1 ∨ l.head? ≠ some 48) → val l ≤ 18446744073709551615 → natText (val l) = l := by
  refine rev_ind (P := fun l => l ≠ [] → l.all dig = true → (l.length = 1 ∨ l.head? ≠ some 48) → val l ≤ 18446744073709551615 → natText (val l) = l) ?_ ?_ l
  · intro h; exact absurd rfl h
  · intro l c ih _ h hh hb
    rw [List.all_append, Bool.and_eq_true] at h
    have hc := (dig_iff c).1 (by simpa using h.2)
    have hcc : (48 : UInt8) + UInt8.ofNat (c.toNat - 48) = c := UInt8.toNat_inj.1 (by rw [digit_toNat _ (by omega)]; omega)
    by_cases hl : l = []
    · subst hl
      have e : val ([] ++ [c]) = c.toNat - 48 := by rw [val_snoc, val_nil]; omega
      rw [e, natText_small _ (by omega), hcc]; rfl
    · have hlen := List.length_pos_iff.2 hl
      have hh' : l.head? ≠ some 48 := by
        rcases hh with hh | hh
        · rw [List.length_append, List.length_singleton] at hh; omega
        · rw [head_app l _ hl] at hh; exact hh
      have h1 := val_ge l hl h.1 hh'
      have h2 : 0 < 10 ^ (l.length - 1) := Nat.pow_pos (by omega)
      rw [val_snoc] at hb ⊢
      rw [natText_step _ (by omega) hb, show (10 * val l + (c.toNat - 48)) / 10 = val l by omega, show (10 * val l + (c.toNat - 48)) % 10 = c.toNat - 48 by omega,
        ih hl h.1 (.inr hh') (by omega), hcc]
theorem cnt_of_lt (k : Nat) : ∀ n, n ≤ 18446744073709551615 → n < 10 ^ (k + 1) → cnt n ≤ k + 1 := by
  induction k with
  | zero => intro n _ h; rw [cnt_small n (by omega)]; omega
  | succ k ih =>
    intro n hb h
    by_cases hs : n < 10
    · rw [cnt_small n hs]; omega
    · rw [cnt_step n hs hb]
      have := ih (n / 10) (by omega) (by rw [Nat.pow_succ] at h; omega)
      omega
theorem val_cons48 (t : List UInt8) : val (48 :: t) = val t := rfl
theorem lead_of_text (l : List UInt8) (h : l ≠ []) (ha : l.all dig = true) (hb : val l ≤ 18446744073709551615) (he : natText (val l) = l) : l.length = 1 ∨ l.head? ≠ some 48 := by
  by_cases h1 : l.length = 1
  · exact .inl h1
  · refine .inr fun h2 => ?_
    match l, h, h2 with
    | c :: t, _, h2 =>
      simp at h2
      subst h2
      have hl := congrArg List.length he
      rw [natText_len, val_cons48] at hl
      simp at h1 hl
      have ht : t.all dig = true := by simp at ha ⊢; exact ha.2
      have hlt := val_lt t ht
      have hp := List.length_pos_iff.2 h1
      rw [val_cons48] at hb
      have := cnt_of_lt (t.length - 1) (val t) hb (by rw [show t.length - 1 + 1 = t.length by omega]; exact hlt)
      omega
def rdNat (most : Nat) (l : List UInt8) : Option Nat := if l ≠ [] ∧ l.all dig = true ∧ (l.length = 1 ∨ l.head? ≠ some 48) ∧ val l ≤ most then some (val l) else none
theorem rd_no (most : Nat) (l : List UInt8) (h : ¬ (l ≠ [] ∧ l.all dig = true ∧ (l.length = 1 ∨ l.head? ≠ some 48) ∧ val l ≤ most)) : rdNat most l = none := if_neg h
theorem rd_yes (most : Nat) (l : List UInt8) (h : l ≠ [] ∧ l.all dig = true ∧ (l.length = 1 ∨ l.head? ≠ some 48) ∧ val l ≤ most) : rdNat most l = some (val l) := if_pos h
theorem rd_model_yes (m : Nat) (hm : m ≤ 12) (l : List UInt8) (h1 : l ≠ []) (h2 : l.length ≤ m) (h3 : l.all dig = true) (h4 : natText (val l) = l) : rdNat (10 ^ m - 1) l = some (val l) := by
  have hv := val_lt l h3
  have hp : 10 ^ l.length ≤ 10 ^ m := Nat.pow_le_pow_right (by omega) h2
  have hq : 10 ^ m ≤ 10 ^ 12 := Nat.pow_le_pow_right (by omega) hm
  exact rd_yes _ _ ⟨h1, h3, lead_of_text l h1 h3 (by omega) h4, by omega⟩
theorem rd_model_long (m : Nat) (hm : 1 ≤ m) (l : List UInt8) (h2 : ¬ l.length ≤ m) : rdNat (10 ^ m - 1) l = none := by
  refine rd_no _ _ fun ⟨h1, h3, h4, h5⟩ => ?_
  rcases h4 with h4 | h4
  · omega
  · have := val_ge l h1 h3 h4
    have hp : 10 ^ m ≤ 10 ^ (l.length - 1) := Nat.pow_le_pow_right (by omega) (by omega)
    have hq : 0 < 10 ^ m := Nat.pow_pos (by omega)
    omega
theorem rd_model_text (m : Nat) (hm : m ≤ 12) (l : List UInt8) (h2 : l.length ≤ m) (h4 : ¬ natText (val l) = l) : rdNat (10 ^ m - 1) l = none := by
  refine rd_no _ _ fun ⟨h1, h3, h5, h6⟩ => h4 ?_
  have hv := val_lt l h3
  have hp : 10 ^ l.length ≤ 10 ^ m := Nat.pow_le_pow_right (by omega) h2
  have hq : 10 ^ m ≤ 10 ^ 12 := Nat.pow_le_pow_right (by omega) hm
  exact natText_val l h1 h3 h5 (by omega)
theorem rd_bad (most : Nat) (l : List UInt8) (i : Nat) (hi : i < l.length) (h : dig l[i] = false) : rdNat most l = none := by
  refine rd_no _ _ fun ⟨_, h3, _⟩ => ?_
  rw [List.all_eq_true] at h3
  have := h3 l[i] (List.getElem_mem hi)
  rw [h] at this; cases this
theorem rd_big (most : Nat) (l : List UInt8) (i : Nat) (h : ¬ val (l.take i) ≤ most) : rdNat most l = none := by
  refine rd_no _ _ fun ⟨_, _, _, h3⟩ => ?_
  have := val_mono l i
  omega
def Digs (l : List UInt8) (i : Nat) : Prop := (l.take i).all dig = true
theorem digs_zero (l : List UInt8) : Digs l 0 := by simp [Digs]
theorem digs_end (l : List UInt8) (i : Nat) (h : Digs l i) (hi : ¬ i < l.length) : l.all dig = true := by
  unfold Digs at h; rwa [List.take_of_length_le (by omega)] at h
theorem take_snoc (l : List UInt8) (i : Nat) (hi : i < l.length) : l.take (i + 1) = l.take i ++ [l[i]] := by
  rw [List.take_succ_eq_append_getElem hi]
theorem digs_succ (l : List UInt8) (i : Nat) (hi : i < l.length) (h : Digs l i) (hc : 48 ≤ l[i].toNat ∧ l[i].toNat ≤ 57) : Digs l (i + 1) := by
  unfold Digs at *
  rw [take_snoc l i hi, List.all_append, h]
  simp [(dig_iff l[i]).2 hc]
theorem val_succ (l : List UInt8) (i : Nat) (hi : i < l.length) (hc : 48 ≤ l[i].toNat) : (val (l.take (i + 1)) : Int) = 10 * (val (l.take i) : Int) + ((l[i].toNat : Int) - 48) := by
  rw [take_snoc l i hi, val_snoc]; omega
theorem val_take_lt (l : List UInt8) (i m : Nat) (h : Digs l i) (hl : l.length ≤ m) (hm : m ≤ 12) : val (l.take i) < 1000000000000 := by
  have h1 := val_lt _ h
  have h2 : (l.take i).length ≤ 12 := by have := List.length_take_le i l; simp; omega
  have h3 : 10 ^ (l.take i).length ≤ 10 ^ 12 := Nat.pow_le_pow_right (by omega) h2
  omega
end Go.Proofs.YtamjfbjkdicmcaaGreatDoor.Num
