/-
  Plain mathematics: the decimal form of an integer, and that it is read again. Nothing of the program is named here.
-/

namespace Go.Proofs.YtamjfbjkdicmcaaGreatDoor.Num
def dec : Nat → Nat → List UInt8
  | 0, _ => []
  | f + 1, n => if n = 0 then [] else dec f (n / 10) ++ [48 + UInt8.ofNat (n % 10)]
theorem dec_zero (f : Nat) : dec f 0 = [] := by cases f <;> simp [dec]
theorem dec_fuel (f : Nat) : ∀ n, n < 10 ^ f → dec (f + 1) n = dec f n := by
  induction f with
  | zero => intro n h; have : n = 0 := by omega
            subst this; simp [dec]
  | succ f ih =>
    intro n h
    rw [dec, dec.eq_2 n f]
    have : n / 10 < 10 ^ f := by rw [Nat.pow_succ] at h; omega
    rw [ih _ this]
def decN (n : Nat) : List UInt8 := dec 20 n
theorem decN_zero : decN 0 = [] := dec_zero _
theorem decN_step (n : Nat) (h : 0 < n) (hb : n ≤ 18446744073709551615) : decN n = decN (n / 10) ++ [48 + UInt8.ofNat (n % 10)] := by
  unfold decN
  rw [dec.eq_2 n 19, if_neg (by omega), dec_fuel 19 (n / 10) (by omega)]
theorem dec_ne (f n : Nat) (h : 0 < n) : dec (f + 1) n ≠ [] := by
  rw [dec, if_neg (by omega)]; simp
def intText (z : Int) : List UInt8 := if z = 0 then [48] else if z < 0 then 45 :: decN z.natAbs else decN z.natAbs
theorem intText_pos (z : Int) (h : 0 < z) : intText z = decN z.natAbs := by
  unfold intText; rw [if_neg (by omega), if_neg (by omega)]
theorem intText_neg (z : Int) (h : z < 0) : intText z = 45 :: decN z.natAbs := by
  unfold intText; rw [if_neg (by omega), if_pos h]
theorem step_in (m : Nat) (l r : List UInt8) (h : 0 < m) (hb : m ≤ 18446744073709551615) (hd : decN m ++ l = r) :
    decN (m / 10) ++ ((48 + UInt8.ofNat (m % 10)) :: l) = r := by
  rw [← hd, decN_step m h hb, List.append_assoc]
  rfl
theorem dec_len (f : Nat) : ∀ n, (dec f n).length ≤ f := by
  induction f with
  | zero => intro n; simp [dec]
  | succ f ih => intro n; rw [dec]; split
                 · simp
                 · have := ih (n / 10); simp; omega
theorem decN_len (n : Nat) : (decN n).length ≤ 20 := dec_len _ _
theorem step_in0 (m : Nat) (l r : List UInt8) (h : 0 < m) (hb : m ≤ 18446744073709551615) (h0 : (m : Int) % 10 ≤ 0) (hd : decN m ++ l = r) :
    decN (m / 10) ++ (UInt8.ofNat (48 + -((m : Int) % 10)).toNat :: l) = r := by
  rw [← step_in m l r h hb hd]
  have e1 : (48 + -((m : Int) % 10)).toNat = 48 := by omega
  have e2 : m % 10 = 0 := by omega
  rw [e1, e2]; rfl
theorem suffix_len (a l : List UInt8) (n : Nat) (h : a ++ l = decN n) : l.length ≤ 20 := by
  have h1 := congrArg List.length h
  have := decN_len n
  simp at h1; omega
theorem intText_len (z : Int) : (intText z).length ≤ 21 := by
  unfold intText
  have := decN_len z.natAbs
  split
  · simp
  · split
    · simp; omega
    · omega
def natText (n : Nat) : List UInt8 := if n = 0 then [48] else decN n
theorem intText_nat (n : Int) : intText n = if n < 0 then 45 :: natText n.natAbs else natText n.natAbs := by
  unfold intText natText
  by_cases h : n = 0
  · subst h; rfl
  · rw [if_neg h]; simp only [show ¬ n.natAbs = 0 by omega, if_false]
theorem natText_small (n : Nat) (h : n < 10) : natText n = [48 + UInt8.ofNat n] := by
  unfold natText
  split
  · next h => subst h; rfl
  · rw [decN_step n (by omega) (by omega), show n / 10 = 0 by omega, decN_zero, show n % 10 = n by omega]; rfl
theorem natText_step (n : Nat) (h : ¬ n < 10) (hb : n ≤ 18446744073709551615) : natText n = natText (n / 10) ++ [48 + UInt8.ofNat (n % 10)] := by
  unfold natText
  rw [if_neg (by omega), if_neg (by omega), decN_step n (by omega) hb]
def cnt (n : Nat) : Nat := if n = 0 then 1 else (decN n).length
theorem cnt_le (n : Nat) : cnt n ≤ 20 := by
  unfold cnt; have := decN_len n; split <;> omega
theorem cnt_pos (n : Nat) : 1 ≤ cnt n := by
  unfold cnt
  split
  · omega
  · have h := dec_ne 19 n (by omega)
    have := List.length_pos_iff.2 h
    exact this
theorem cnt_small (n : Nat) (h : n < 10) : cnt n = 1 := by
  unfold cnt
  split
  · rfl
  · rw [decN_step n (by omega) (by omega), show n / 10 = 0 by omega, decN_zero]; rfl
theorem cnt_step (n : Nat) (h : ¬ n < 10) (hb : n ≤ 18446744073709551615) : cnt n = cnt (n / 10) + 1 := by
  unfold cnt
  rw [if_neg (by omega), if_neg (by omega), decN_step n (by omega) hb]
  simp
theorem natText_len (n : Nat) : (natText n).length = cnt n := by
  unfold natText cnt; split <;> rfl
theorem digit_toNat (d : Nat) (h : d < 10) : ((48 : UInt8) + UInt8.ofNat d).toNat = 48 + d := by
  rw [UInt8.toNat_add, UInt8.toNat_ofNat_of_lt' (by show d < 256; omega)]
  show (48 + d) % 256 = 48 + d
  omega
theorem natText_at (k : Nat) : ∀ n, n ≤ 18446744073709551615 → k < cnt n → (natText n).getD (cnt n - 1 - k) 0 = 48 + UInt8.ofNat (n / 10 ^ k % 10) := by
  induction k with
  | zero =>
    intro n hb hk
    by_cases h : n < 10
    · rw [natText_small n h, cnt_small n h]; simp [Nat.mod_eq_of_lt h]
    · have hl := natText_len (n / 10)
      rw [natText_step n h hb, cnt_step n h hb]
      simp [List.getD, ← hl]
  | succ k ih =>
    intro n hb hk
    by_cases h : n < 10
    · rw [cnt_small n h] at hk; omega
    · have hl := natText_len (n / 10)
      rw [cnt_step n h hb] at hk ⊢
      have := ih (n / 10) (by omega) (by omega)
      rw [natText_step n h hb, Nat.pow_succ, Nat.mul_comm, ← Nat.div_div_eq_div_mul, ← this]
      have e : cnt (n / 10) + 1 - 1 - (k + 1) = cnt (n / 10) - 1 - k := by omega
      rw [e, List.getD, List.getD, List.getElem?_append_left (by omega)]
def Laid (t : List UInt8) (c k : Nat) (buf : List Int) : Prop := buf.length = c ∧ ∀ j, c - k ≤ j → j < c → buf.getD j 0 = ((t.getD j 0).toNat : Int)
theorem laid_start (t : List UInt8) (c : Nat) : Laid t c 0 (List.replicate c 0) := ⟨by simp, fun j h1 h2 => by omega⟩
theorem laid_step (n c k m : Nat) (buf : List Int) (hc : cnt n = c) (hn : n ≤ 18446744073709551615) (hk : k < c) (hm : m = n / 10 ^ k) (h : Laid (natText n) c k buf) :
    Laid (natText n) c (k + 1) (buf.set (c - 1 - k) (48 + (m : Int) % 10)) := by
  refine ⟨by simp [h.1], fun j h1 h2 => ?_⟩
  have h1' := h.1
  by_cases hj : j = c - 1 - k
  · subst hj
    have := natText_at k n hn (by omega)
    rw [hc, ← hm] at this
    rw [this, digit_toNat _ (by omega)]
    simp [List.getD, h1', show c - 1 - k < c by omega]
  · rw [← h.2 j (by omega) h2]
    simp [List.getD, show ¬ c - 1 - k = j by omega]
theorem laid_end (t : List UInt8) (c : Nat) (buf : List Int) (ht : t.length = c) (h : Laid t c c buf) : buf = t.map (fun b => (b.toNat : Int)) := by
  apply List.ext_getElem
  · simp [h.1, ht]
  · intro j h1 h2
    have h3 := h.2 j (by omega) (by rw [← h.1]; exact h1)
    have h4 : j < t.length := by simpa using h2
    simpa [List.getD, h1, h4] using h3
end Go.Proofs.YtamjfbjkdicmcaaGreatDoor.Num
