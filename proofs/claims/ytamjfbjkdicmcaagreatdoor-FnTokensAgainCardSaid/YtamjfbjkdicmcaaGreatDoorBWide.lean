/-
  Plain facts: what a range over a text passes by where a byte beyond ASCII stands: no byte of ASCII among it; what selectors begin with; numbers of few digits. Nothing of the program is named here.
-/
import Derived.Test.YtamjfbjkdicmcaaGreatDoorBReadMath
import Derived.Laws.RangeAny
namespace Go.Proofs.YtamjfbjkdicmcaaGreatDoor.Tok
theorem decode_cases (s : ByteArray) (pos : Nat) : (Utf8.decode s pos).2 = 1 ∨ ((Utf8.decode s pos).2 = 2 ∧ (decide (pos + 1 < s.size) && (s.get! (pos + 1)).toNat / 64 == 2) = true) ∨
    ((Utf8.decode s pos).2 = 3 ∧ (decide (pos + 1 < s.size) && (s.get! (pos + 1)).toNat / 64 == 2) = true ∧ (decide (pos + 2 < s.size) && (s.get! (pos + 2)).toNat / 64 == 2) = true) ∨
    ((Utf8.decode s pos).2 = 4 ∧ (decide (pos + 1 < s.size) && (s.get! (pos + 1)).toNat / 64 == 2) = true ∧ (decide (pos + 2 < s.size) && (s.get! (pos + 2)).toNat / 64 == 2) = true ∧ (decide (pos + 3 < s.size) && (s.get! (pos + 3)).toNat / 64 == 2) = true) := by
  simp only [Utf8.decode]
  repeat' split
  all_goals simp_all
theorem decode_wide (s : ByteArray) (pos : Nat) (h : pos < s.size) (ha : 128 ≤ (s[pos]'h).toNat) : ∀ j, j < (Utf8.decode s pos).2 → ∃ h' : pos + j < s.size, ¬ s[pos + j]'h' = 39 := by
  have h0 : ∃ h' : pos + 0 < s.size, ¬ s[pos + 0]'h' = 39 := ⟨h, fun e => by
    have e2 : (s[pos]'h).toNat = 39 := by rw [show s[pos]'h = 39 from e]; rfl
    omega⟩
  have hk : ∀ k, (decide (pos + k < s.size) && (s.get! (pos + k)).toNat / 64 == 2) = true → ∃ h' : pos + k < s.size, ¬ s[pos + k]'h' = 39 := by
    intro k hc
    rw [Bool.and_eq_true, decide_eq_true_eq, beq_iff_eq] at hc
    refine ⟨hc.1, fun e => ?_⟩
    have e2 := get_at s (pos + k) hc.1
    rw [Nat.add_zero] at e2
    rw [e2, e] at hc
    exact absurd hc.2 (by decide)
  intro j hj
  rcases decode_cases s pos with h1 | ⟨h1, c1⟩ | ⟨h1, c1, c2⟩ | ⟨h1, c1, c2, c3⟩
  · rw [h1] at hj
    obtain rfl : j = 0 := by omega
    exact h0
  · rw [h1] at hj
    obtain rfl | rfl : j = 0 ∨ j = 1 := by omega
    · exact h0
    · exact hk 1 c1
  · rw [h1] at hj
    obtain rfl | rfl | rfl : j = 0 ∨ j = 1 ∨ j = 2 := by omega
    · exact h0
    · exact hk 1 c1
    · exact hk 2 c2
  · rw [h1] at hj
    obtain rfl | rfl | rfl | rfl : j = 0 ∨ j = 1 ∨ j = 2 ∨ j = 3 := by omega
    · exact h0
    · exact hk 1 c1
    · exact hk 2 c2
    · exact hk 3 c3
theorem qlen_pass (l : List UInt8) : ∀ (k i : Nat), (∀ j, j < k → ∃ h : i + j < l.length, ¬ l[i + j] = 39) → qlen (l.drop i) i true = qlen (l.drop (i + k)) (i + k) true := by
  intro k
  induction k with
  | zero => intro i _; rfl
  | succ k ih =>
    intro i h
    obtain ⟨h1, h2⟩ := h 0 (by omega)
    rw [List.drop_eq_getElem_cons (show i < l.length from h1), qlen]
    have h3 : ¬ l[i]'h1 = 39 := h2
    simp only [if_neg h3, Bool.true_eq_false, false_and, if_false]
    rw [ih (i + 1) (fun j hj => by
      obtain ⟨h4, h5⟩ := h (j + 1) (by omega)
      have e : i + 1 + j = i + (j + 1) := by omega
      exact ⟨by omega, by simpa only [e] using h5⟩)]
    rw [show i + 1 + k = i + (k + 1) by omega]
theorem qlen_bound (l : List UInt8) (p : Nat) (o : Bool) : qlen l p o ≤ p + l.length := by
  induction l generalizing p o with
  | nil => exact Nat.zero_le _
  | cons c l ih =>
    have h := ih (p + 1) (if c = 39 then !o else o)
    show (if (if c = 39 then !o else o) = false ∧ ¬ l.head? = some 39 then p + 1 else qlen l (p + 1) (if c = 39 then !o else o)) ≤ p + (l.length + 1)
    generalize (if c = 39 then !o else o) = o' at *
    split
    · omega
    · omega
theorem cuts_head (s : ByteArray) (b : Int) : ∀ i, ((Cuts.cuts s b i).1 = [] ∧ (Cuts.cuts s b i).2 = 0) ∨ ∃ k r, (Cuts.cuts s b i).1 = s.extract 0 k :: r := by
  intro i
  induction i with
  | zero => exact .inl ⟨rfl, rfl⟩
  | succ i ih =>
    by_cases h : i < s.size
    · by_cases hb : ((s[i]'h).toNat : Int) = b
      · rw [Cuts.cuts_hit s b i h hb]
        rcases ih with ⟨h1, h2⟩ | ⟨k, r, h1⟩
        · exact .inr ⟨i, [], by rw [h1, h2]; rfl⟩
        · exact .inr ⟨k, r ++ [s.extract (Cuts.cuts s b i).2 i], by rw [h1]; rfl⟩
      · rw [Cuts.cuts_miss s b i h hb]; exact ih
    · have : Cuts.cuts s b (i + 1) = Cuts.cuts s b i := by rw [Cuts.cuts, dif_neg h]
      rw [this]; exact ih
theorem letter_take (l : List UInt8) (k : Nat) (h : letterAt (l.take k) 0 = true) : letterAt l 0 = true := by
  cases l with
  | nil => rw [List.take_nil] at h; exact h
  | cons c l =>
    cases k with
    | zero => exact absurd h (by decide : ¬ letterAt [] 0 = true)
    | succ k => exact h
theorem name20_letter (l : List UInt8) (h : name20 l = true) : letterAt l 0 = true := by
  rw [name20_def] at h
  simp only [Bool.and_eq_true] at h
  exact h.1.2
theorem sel_begins (s : ByteArray) (h : sel s = true) : has binaries s = true ∨ letterAt s.data.toList 0 = true := by
  unfold sel at h
  rw [Bool.or_eq_true] at h
  rcases h with h | h
  · exact .inl h
  · refine .inr ?_
    split at h
    · next hl =>
      unfold keys at h
      rw [Bool.and_eq_true, Bool.and_eq_true] at h
      have ha := List.all_eq_true.1 h.1.2
      unfold Cuts.parts at hl ha
      rw [List.dropLast_concat] at ha
      rcases cuts_head s 58 s.size with ⟨h1, _⟩ | ⟨k, r, h1⟩
      · rw [h1] at hl; simp at hl
      · rw [h1] at ha
        have h2 := name20_letter _ (ha (s.extract 0 k) List.mem_cons_self)
        rw [ext_data, List.drop_zero] at h2
        exact letter_take _ _ h2
    · unfold isName at h
      rw [Bool.and_eq_true] at h
      exact name20_letter _ h.1
def pick (x : ByteArray) : ByteArray := if (starts x 0 binaries).toList.isEmpty = false then starts x 0 binaries else x.extract 0 (selLen x.data.toList)
theorem empty_size (x : ByteArray) (h : x.toList.isEmpty = true) : x.size = 0 := by
  rw [ByteArray.toList_eq, List.isEmpty_iff] at h
  rw [← len_list, h]; rfl
theorem op_prefix (x y : ByteArray) (k : Nat) (hy : y = x.extract 0 k) (h : has binaries y = true) : (starts x 0 binaries).toList.isEmpty = false := by
  rw [has_data, bin_data, List.contains_iff_mem] at h
  rw [ByteArray.toList_eq, starts_data x 0 _ (Nat.zero_le _), bin_data, List.drop_zero, ← Bool.not_eq_true, List.isEmpty_iff]
  intro h1
  unfold startsL at h1
  have h2 : y.data.toList.isPrefixOf x.data.toList = true := by
    rw [List.isPrefixOf_iff_prefix, hy, ext_data, List.drop_zero]; exact List.take_prefix _ _
  cases hf : binL.find? fun z => z.isPrefixOf x.data.toList with
  | none =>
    rw [List.find?_eq_none] at hf
    exact hf _ h h2
  | some z =>
    rw [hf] at h1
    have h3 := List.mem_of_find?_eq_some hf
    have h4 : ∀ z ∈ binL, z ≠ [] := by decide
    exact h4 z h3 h1
theorem selector_read (s : ByteArray) (hp : 1 ≤ s.size) : selectorAt s 1 = if sel (pick (rest s 1)) = true then some (⟨5, pick (rest s 1), 0⟩, 1 + (pick (rest s 1)).size) else none := by
  have h := selectorAt_rest s 1 0 hp
  rw [Nat.add_zero] at h
  rw [h]
  generalize rest s 1 = x
  unfold pick
  by_cases h1 : (starts x 0 binaries).toList.isEmpty = false
  · rw [selectorAt_op x 0 h1, if_pos h1]
    have h2 : sel (starts x 0 binaries) = true := by unfold sel; rw [op_starts x 0 (Nat.zero_le _) h1]; rfl
    rw [if_pos h2]
    unfold shift; simp only [Option.map_some, Nat.zero_add]
  · rw [if_neg h1]
    rw [Bool.not_eq_false] at h1
    by_cases h2 : letterAt x.data.toList 0 = true
    · rw [selectorAt_x x 0 (selEnd x.data.toList 0) h1 h2 rfl, ← selLen_is _ h2]
      have h3 : selLen x.data.toList ≤ x.size := by
        unfold selLen
        have h4 := run_le x.data.toList 0 (Nat.zero_le _)
        have h5 := selGo_le x.data.toList (x.data.toList.length + 1) 0 (Nat.zero_le _)
        rw [len_list] at h4 h5
        split
        · exact h4.2
        · rw [len_list]; exact h5.2
      have h4 : (x.extract 0 (selLen x.data.toList)).size = selLen x.data.toList := by
        rw [← len_list, ext_data, List.length_take, List.length_drop, len_list]; omega
      rw [h4]
      split
      · rfl
      · rfl
    · rw [Bool.not_eq_true] at h2
      rw [selectorAt_no x 0 h1 h2]
      have h3 : ¬ sel (x.extract 0 (selLen x.data.toList)) = true := by
        intro h4
        rcases sel_begins _ h4 with h5 | h5
        · rw [op_prefix x _ _ rfl h5] at h1; exact absurd h1 (by decide)
        · rw [ext_data, List.drop_zero] at h5
          rw [letter_take _ _ h5] at h2; exact absurd h2 (by decide)
      rw [if_neg h3]; rfl
theorem dval_lt (l : List UInt8) (h : l.all digit = true) : dval l < 10 ^ l.length := by
  have hk : ∀ k, k ≤ l.length → dval (l.take k) < 10 ^ k := by
    intro k
    induction k with
    | zero => intro _; rw [List.take_zero]; decide
    | succ k ih =>
      intro hk
      have h1 := ih (by omega)
      have h2 := List.all_eq_true.1 h l[k] (List.getElem_mem _)
      unfold digit at h2
      rw [Bool.and_eq_true, decide_eq_true_eq, decide_eq_true_eq] at h2
      rw [List.take_succ_eq_append_getElem (by omega), dval_snoc, Nat.pow_succ]
      omega
  have := hk l.length (Nat.le_refl _)
  rwa [List.take_length] at this
end Go.Proofs.YtamjfbjkdicmcaaGreatDoor.Tok
