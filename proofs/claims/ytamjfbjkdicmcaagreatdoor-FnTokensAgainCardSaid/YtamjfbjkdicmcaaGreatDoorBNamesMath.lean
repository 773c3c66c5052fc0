/-
  Plain mathematics: operators, names and selectors, told by what a text begins and ends with and by its colons. Nothing of the program is named here.
-/
import Derived.Test.YtamjfbjkdicmcaaGreatDoorBRest
import Derived.Lib.Strings
import Derived.Lib.Bytealg
namespace Go.Proofs.YtamjfbjkdicmcaaGreatDoor.Tok
theorem begins_prefix (s : ByteArray) (i : Nat) (x : ByteArray) (hi : i ≤ s.size) : begins s i x = x.data.toList.isPrefixOf (s.data.toList.drop i) := by
  unfold begins
  rw [ByteArray.toList_eq, ByteArray.toList_eq, ext_data, Bool.eq_iff_iff, Bool.and_eq_true, decide_eq_true_eq, beq_iff_eq, List.isPrefixOf_iff_prefix, show i + x.size - i = x.size by omega, List.prefix_iff_eq_take, len_list]
  constructor
  · rintro ⟨_, h⟩; exact h.symm
  · intro h
    have h1 := congrArg List.length h
    rw [List.length_take, List.length_drop, len_list, len_list] at h1
    exact ⟨by omega, h.symm⟩
def startsL (l : List UInt8) (xs : List (List UInt8)) : List UInt8 := (xs.find? fun x => x.isPrefixOf l).getD []
theorem starts_data (s : ByteArray) (i : Nat) (xs : List ByteArray) (hi : i ≤ s.size) : (starts s i xs).data.toList = startsL (s.data.toList.drop i) (xs.map fun x => x.data.toList) := by
  unfold starts startsL
  induction xs with
  | nil => rfl
  | cons x xs ih =>
    rw [List.map_cons, List.find?_cons, List.find?_cons, begins_prefix s i x hi]
    cases x.data.toList.isPrefixOf (s.data.toList.drop i) with
    | true => rfl
    | false => exact ih
def binL : List (List UInt8) := [[47, 47], [92, 92], [60, 61], [62, 61], [61, 61], [126, 61], [126, 126], [43], [45], [42], [60], [62], [61], [44], [38]]
def markL : List (List UInt8) := [[58, 61], [94], [46], [59], [91], [93], [40], [41], [124], [58]]
theorem bin_data : binaries.map (fun x => x.data.toList) = binL := rfl
theorem mark_data : marks.map (fun x => x.data.toList) = markL := rfl
theorem binL_self : ∀ x ∈ binL, startsL x binL = x := by decide
theorem startsL_mem (l : List UInt8) (xs : List (List UInt8)) (h : startsL l xs ≠ []) : startsL l xs ∈ xs ∧ startsL l xs <+: l := by
  unfold startsL at *
  cases hf : xs.find? fun x => x.isPrefixOf l with
  | none => rw [hf] at h; exact absurd rfl h
  | some x =>
    have h1 := List.mem_of_find?_eq_some hf
    have h2 := List.find?_some hf
    exact ⟨h1, List.isPrefixOf_iff_prefix.1 h2⟩
theorem has_data (s : ByteArray) (xs : List ByteArray) : has xs s = (xs.map fun x => x.data.toList).contains s.data.toList := by
  unfold has
  induction xs with
  | nil => rfl
  | cons x xs ih =>
    rw [List.any_cons, List.map_cons, List.contains_cons, ih, ByteArray.toList_eq, ByteArray.toList_eq]
    congr 1
    rw [Bool.eq_iff_iff, beq_iff_eq, beq_iff_eq, eq_comm]
theorem op_is (s : ByteArray) : has binaries s = (!s.data.toList.isEmpty && ((starts s 0 binaries).toList == s.toList)) := by
  rw [has_data, bin_data, ByteArray.toList_eq, ByteArray.toList_eq, starts_data s 0 _ (Nat.zero_le _), bin_data, List.drop_zero]
  generalize s.data.toList = l
  rw [Bool.eq_iff_iff, List.contains_iff_mem, Bool.and_eq_true, beq_iff_eq]
  constructor
  · intro h
    refine ⟨?_, binL_self l h⟩
    cases l with
    | nil => revert h; decide
    | cons c l => rfl
  · rintro ⟨h1, h2⟩
    have h3 : startsL l binL ≠ [] := by rw [h2]; intro h; rw [h] at h1; exact absurd h1 (by decide)
    have := (startsL_mem l binL h3).1
    rwa [h2] at this
theorem op_starts (s : ByteArray) (i : Nat) (hi : i ≤ s.size) (h : (starts s i binaries).toList.isEmpty = false) : has binaries (starts s i binaries) = true := by
  rw [ByteArray.toList_eq, starts_data s i _ hi, bin_data] at h
  rw [has_data, bin_data, starts_data s i _ hi, bin_data, List.contains_iff_mem]
  refine (startsL_mem _ binL ?_).1
  intro h1; rw [h1] at h; exact absurd h (by decide)
theorem colon_is (s : ByteArray) : colon s.data.toList 0 = ((starts s 0 marks).toList == ByteArray.toList ⟨#[58]⟩) := by
  rw [ByteArray.toList_eq, ByteArray.toList_eq, starts_data s 0 _ (Nat.zero_le _), mark_data, List.drop_zero]
  generalize s.data.toList = l
  unfold colon
  match l with
  | [] => decide
  | c :: l =>
    by_cases hc : c = 58
    · subst hc
      match l with
      | [] => decide
      | d :: l =>
        by_cases hd : d = 61
        · subst hd; simp [startsL, markL, List.isPrefixOf]
        · simp [startsL, markL, List.isPrefixOf, hd, Ne.symm hd]
    · have h1 : ((c :: l)[0]? == some (58 : UInt8)) = false := by simpa using hc
      rw [h1, Bool.false_and, eq_comm, beq_eq_false_iff_ne]
      intro h
      have h2 : startsL (c :: l) markL ≠ [] := by rw [h]; decide
      have h3 := (startsL_mem (c :: l) markL h2).2
      rw [h] at h3
      have : (58 : UInt8) = c := (List.cons_prefix_cons.1 h3).1
      exact hc this.symm
theorem run_all (s : ByteArray) : ((s.extract 0 (run s.data.toList 0)).toList == s.toList) = decide (run s.data.toList 0 = s.data.toList.length) := by
  have hr := run_le s.data.toList 0 (Nat.zero_le _)
  rw [ByteArray.toList_eq, ByteArray.toList_eq, ext_data, List.drop_zero, Nat.sub_zero, Bool.eq_iff_iff, beq_iff_eq, decide_eq_true_eq]
  constructor
  · intro h
    have := congrArg List.length h
    rw [List.length_take] at this
    omega
  · intro h
    rw [h]; exact List.take_length
theorem name20_def (l : List UInt8) : name20 l = (decide (1 ≤ l.length) && decide (l.length ≤ 20) && letterAt l 0 && decide (run l 0 = l.length)) := by
  cases l with
  | nil => rfl
  | cons c l => rfl
theorem name20_is (s : ByteArray) : name20 s.data.toList = (decide (s.size ≤ 20) && letterAt s.data.toList 0 && ((s.extract 0 (run s.data.toList 0)).toList == s.toList)) := by
  rw [run_all]
  rw [name20_def, len_list]
  by_cases h0 : letterAt s.data.toList 0 = true
  · have : 1 ≤ s.size := by
      rw [← len_list]
      cases h : s.data.toList with
      | nil => rw [h] at h0; exact absurd h0 (by decide)
      | cons c l => simp
    rw [h0, decide_eq_true this]; simp
  · rw [Bool.not_eq_true] at h0
    rw [h0]; simp
def colons (s : ByteArray) : Nat := s.data.toList.count 58
theorem cuts_count (s : ByteArray) : ∀ i, i ≤ s.size → (Cuts.cuts s 58 i).1.length = (s.data.toList.take i).count 58 := by
  intro i
  induction i with
  | zero => intro _; rfl
  | succ i ih =>
    intro h
    have h' : i < s.data.toList.length := by rw [len_list]; omega
    have hx : s.data.toList[i]'h' = s[i]'(by omega) := rfl
    rw [List.take_succ_eq_append_getElem h', List.count_append, hx]
    by_cases hb : ((s[i]'(by omega)).toNat : Int) = 58
    · have : s[i]'(by omega) = (58 : UInt8) := UInt8.toNat_inj.1 (by have : (s[i]'(by omega)).toNat = 58 := by omega
                                                                     rw [this]; rfl)
      rw [Cuts.cuts_hit s 58 i (by omega) hb, List.length_append, ih (by omega), this]; rfl
    · have : ¬ s[i]'(by omega) = (58 : UInt8) := fun h => hb (by rw [h]; rfl)
      rw [Cuts.cuts_miss s 58 i (by omega) hb, ih (by omega), List.count_singleton]
      simp [this]
theorem parts_count (s : ByteArray) : (Cuts.parts s 58).length = colons s + 1 := by
  unfold Cuts.parts colons
  rw [List.length_append, cuts_count s s.size (Nat.le_refl _), ← len_list, List.take_length]; rfl
theorem cuts_init (s : ByteArray) (n : Nat) (hn : n ≤ s.size) : ∀ i, i ≤ n → Cuts.cuts (s.extract 0 n) 58 i = Cuts.cuts s 58 i := by
  have hsz : (s.extract 0 n).size = n := by rw [← len_list, ext_data, List.length_take, List.length_drop, len_list]; omega
  intro i
  induction i with
  | zero => intro _; rfl
  | succ i ih =>
    intro h
    have hx : (s.extract 0 n)[i]'(by omega) = s[i]'(by omega) := by
      have h1 : i < (s.extract 0 n).data.toList.length := by rw [len_list]; omega
      have h2 : i < s.data.toList.length := by rw [len_list]; omega
      show (s.extract 0 n).data.toList[i]'h1 = s.data.toList[i]'h2
      simp only [ext_data, List.getElem_take, List.getElem_drop, Nat.zero_add]
    by_cases hb : ((s[i]'(by omega)).toNat : Int) = 58
    · rw [Cuts.cuts_hit s 58 i (by omega) hb, Cuts.cuts_hit (s.extract 0 n) 58 i (by omega) (by rw [hx]; exact hb), ih (by omega)]
      congr 2
      congr 1
      apply ba_ext
      have := (Cuts.cuts_le s 58 i).1
      rw [ext_data, ext_data, ext_data, List.drop_zero, Nat.sub_zero, List.drop_take, List.take_take, Nat.min_eq_left (by omega)]
    · rw [Cuts.cuts_miss s 58 i (by omega) hb, Cuts.cuts_miss (s.extract 0 n) 58 i (by omega) (by rw [hx]; exact hb), ih (by omega)]
theorem parts_colon (s : ByteArray) (n : Nat) (hn : s.size = n + 1) (hc : ((s[n]'(by omega)).toNat : Int) = 58) : Cuts.parts s 58 = Cuts.parts (s.extract 0 n) 58 ++ [ByteArray.empty] := by
  have hsz : (s.extract 0 n).size = n := by rw [← len_list, ext_data, List.length_take, List.length_drop, len_list]; omega
  unfold Cuts.parts
  rw [hsz, cuts_init s n (by omega) n (Nat.le_refl _)]
  rw [hn, Cuts.cuts_hit s 58 n (by omega) hc]
  have h1 : s.extract (n + 1) (n + 1) = ByteArray.empty := ba_ext (by rw [ext_data, Nat.sub_self]; rfl)
  have h2 : (s.extract 0 n).extract (Cuts.cuts s 58 n).2 n = s.extract (Cuts.cuts s 58 n).2 n := by
    apply ba_ext
    rw [ext_data, ext_data, ext_data, List.drop_zero, Nat.sub_zero, List.drop_take, List.take_take, Nat.min_self]
  rw [h1, h2]
theorem parts_other (s : ByteArray) (n : Nat) (hn : s.size = n + 1) (hc : ¬ ((s[n]'(by omega)).toNat : Int) = 58) : ((Cuts.parts s 58).getLast?.getD ByteArray.empty).toList.isEmpty = false := by
  have h1 : (Cuts.parts s 58).getLast?.getD ByteArray.empty = s.extract (Cuts.cuts s 58 s.size).2 s.size := by
    unfold Cuts.parts; rw [List.getLast?_append]; rfl
  have h2 : (Cuts.cuts s 58 s.size).2 ≤ n := by
    rw [hn, Cuts.cuts_miss s 58 n (by omega) hc]
    exact (Cuts.cuts_le s 58 n).1
  rw [h1, ByteArray.toList_eq, ← Bool.not_eq_true, List.isEmpty_iff]
  intro h
  have := congrArg List.length h
  rw [ext_data, List.length_take, List.length_drop, len_list] at this
  simp at this; omega
def args (s : ByteArray) : Int :=
  if has binaries s = true then 1 else if isName s = true then 0
  else if Lib.hasSuffix s.data.toList [58] = false then -1 else if 4 < colons s then -1
  else if (Cuts.parts (s.extract 0 (s.size - 1)) 58).all (fun p => name20 p.data.toList) = true then colons s else -1
theorem suffix_last (s : ByteArray) : Lib.hasSuffix s.data.toList [58] = decide (∃ h : 0 < s.size, ((s[s.size - 1]'(by omega)).toNat : Int) = 58) := by
  unfold Lib.hasSuffix
  rw [Bool.eq_iff_iff, decide_eq_true_eq, List.isSuffixOf_iff_suffix]
  have hl := len_list s
  constructor
  · rintro ⟨t, h⟩
    have h1 := congrArg List.length h
    rw [List.length_append, hl] at h1
    simp at h1
    refine ⟨by omega, ?_⟩
    have h2 : s.size - 1 < s.data.toList.length := by omega
    show ((s.data.toList[s.size - 1]'h2).toNat : Int) = 58
    have h3 : s.data.toList[s.size - 1]? = some 58 := by
      rw [← h, List.getElem?_append_right (by omega)]
      rw [show s.size - 1 - t.length = 0 by omega]; rfl
    rw [List.getElem?_eq_getElem h2, Option.some.injEq] at h3
    rw [h3]; rfl
  · rintro ⟨h, hc⟩
    have h2 : s.size - 1 < s.data.toList.length := by omega
    refine ⟨s.data.toList.take (s.size - 1), ?_⟩
    have h3 : s.data.toList[s.size - 1]'h2 = 58 := UInt8.toNat_inj.1 (by
      have : (s.data.toList[s.size - 1]'h2).toNat = 58 := by
        have : (((s.data.toList[s.size - 1]'h2)).toNat : Int) = 58 := hc
        omega
      rw [this]; rfl)
    have h4 := List.take_succ_eq_append_getElem h2
    rw [h3, show s.size - 1 + 1 = s.data.toList.length by omega, List.take_length] at h4
    exact h4.symm
theorem count_zero_name (s : ByteArray) (h : isName s = true) : colons s = 0 := by
  unfold isName at h
  rw [Bool.and_eq_true] at h
  have h1 := h.1
  unfold name20 at h1
  simp only [Bool.and_eq_true, decide_eq_true_eq] at h1
  have h2 := h1.2
  unfold run at h2
  rw [List.drop_zero, Nat.zero_add] at h2
  have h3 : s.data.toList.takeWhile alnum = s.data.toList := (List.takeWhile_prefix alnum).eq_of_length h2
  unfold colons
  rw [List.count_eq_zero]
  intro hm
  have h4 : ∀ x ∈ s.data.toList.takeWhile alnum, alnum x = true := fun x hx => by
    have := List.all_takeWhile (p := alnum) (l := s.data.toList)
    exact List.all_eq_true.1 this x hx
  rw [h3] at h4
  exact absurd (h4 58 hm) (by decide)
theorem args_is (s : ByteArray) : countArgs s = args s := by
  unfold countArgs args sel
  by_cases h1 : has binaries s = true
  · rw [h1]; rfl
  · rw [if_neg h1, if_neg h1]
    rw [Bool.not_eq_true] at h1
    rw [h1, Bool.false_or, parts_count]
    by_cases h2 : isName s = true
    · have h3 : (if 1 < colons s + 1 then keys (Cuts.parts s 58) else isName s) = true := by
        rw [if_neg (by rw [count_zero_name s h2]; omega)]; exact h2
      rw [h3, if_pos rfl, if_pos h2, count_zero_name s h2]; rfl
    · rw [if_neg h2]
      by_cases h3 : Lib.hasSuffix s.data.toList [58] = false
      · rw [if_pos h3]
        by_cases h4 : 1 < colons s + 1
        · rw [if_pos h4]
          have h5 : 0 < s.size := by
            rcases Nat.eq_zero_or_pos s.size with h | h
            · have : s.data.toList = [] := List.eq_nil_of_length_eq_zero (by rw [len_list]; exact h)
              unfold colons at h4; rw [this] at h4; simp at h4
            · exact h
          have h6 : ¬ ((s[s.size - 1]'(by omega)).toNat : Int) = 58 := by
            intro h; rw [suffix_last, decide_eq_false_iff_not] at h3; exact h3 ⟨h5, h⟩
          have h7 := parts_other s (s.size - 1) (by omega) h6
          have h8 : keys (Cuts.parts s 58) = false := by unfold keys; rw [h7]; rfl
          rw [h8]; rfl
        · rw [if_neg h4]; simp [h2]
      · rw [if_neg h3]
        rw [Bool.not_eq_false] at h3
        rw [suffix_last, decide_eq_true_eq] at h3
        obtain ⟨h5, h6⟩ := h3
        have h7 := parts_colon s (s.size - 1) (by omega) h6
        have h8 := parts_count s
        have h9 : 1 < colons s + 1 := by
          rw [← h8, h7, List.length_append]
          have := (Cuts.parts_len (s.extract 0 (s.size - 1)) 58).1
          simp; omega
        rw [if_pos h9]
        have h10 : keys (Cuts.parts s 58) = ((Cuts.parts (s.extract 0 (s.size - 1)) 58).all (fun p => name20 p.data.toList) && decide (colons s ≤ 4)) := by
          unfold keys
          rw [h8, h7, List.getLast?_append, List.dropLast_concat]
          have : ((ByteArray.empty).toList.isEmpty) = true := by rw [ByteArray.toList_eq]; rfl
          simp only [List.getLast?_singleton, Option.getD_some, Option.some_or, this, Bool.true_and]
          congr 1
          rw [Bool.eq_iff_iff, decide_eq_true_eq, decide_eq_true_eq]; omega
        rw [h10]
        by_cases h11 : 4 < colons s
        · rw [if_pos h11, decide_eq_false (by omega), Bool.and_false]; rfl
        · rw [if_neg h11, decide_eq_true (by omega), Bool.and_true]
          split
          · show ((colons s + 1 : Nat) : Int) - 1 = colons s
            omega
          · rfl
theorem sel_is (s : ByteArray) : sel s = decide (0 ≤ countArgs s) := by
  have h := (Cuts.parts_len s 58).1
  unfold countArgs
  cases hs : sel s with
  | true =>
    rw [if_pos rfl]
    split
    · rfl
    · rw [eq_comm, decide_eq_true_eq]; omega
  | false => rfl
end Go.Proofs.YtamjfbjkdicmcaaGreatDoor.Tok
