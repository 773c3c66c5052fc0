/-
  Plain mathematics: what is read of a text that begins with a token, told by the letters and digits it begins with, by replacing, by cutting. Nothing of the program is named here.
-/
import Derived.Test.YtamjfbjkdicmcaaGreatDoorBNamesMath
import Derived.Lib.Replace
import Derived.Lib.CountLaws
import Derived.Lib.SplitLaws
import Derived.Lib.SlTrimSet
namespace Go.Proofs.YtamjfbjkdicmcaaGreatDoor.Tok
theorem colon_piece (s : ByteArray) (e : Nat) (h : colon s.data.toList e = true) : s.extract 0 (e + 1) = s.extract 0 e ++ ⟨#[58]⟩ := by
  have hl := colon_lt _ _ h
  have hc : s.data.toList[e] = 58 := by
    unfold colon at h
    rw [List.getElem?_eq_getElem hl] at h
    simp at h; exact h.1
  apply ba_ext
  have h1 : (s.extract 0 e ++ (⟨#[58]⟩ : ByteArray)).data.toList = (s.extract 0 e).data.toList ++ [58] := by rw [ByteArray.data_append, Array.toList_append]
  rw [h1, ext_data, ext_data, List.drop_zero, Nat.sub_zero, Nat.sub_zero, List.take_succ_eq_append_getElem hl, hc]
theorem number_word (l : List UInt8) : number l 0 = (let x := l.take (run l 0); if 9 < x.length then none else if x.all digit = true then some (⟨3, ByteArray.empty, dval x⟩, x.length) else none) := by
  have hx : l.take (run l 0) = l.takeWhile alnum := by
    unfold run
    rw [List.drop_zero, Nat.zero_add]
    exact ((List.prefix_iff_eq_take).1 (List.takeWhile_prefix alnum)).symm
  rw [hx]
  have hd : drun l 0 = (l.takeWhile digit).length := by unfold drun; rw [List.drop_zero, Nat.zero_add]
  have hle : (l.takeWhile digit).length ≤ (l.takeWhile alnum).length ∧ ((l.takeWhile alnum).all digit = true → l.takeWhile digit = l.takeWhile alnum) ∧ ((l.takeWhile alnum).all digit = false → letterAt l (l.takeWhile digit).length = true) ∧ ((l.takeWhile alnum).all digit = true → letterAt l (l.takeWhile digit).length = false) := by
    clear hx hd
    induction l with
    | nil => exact ⟨Nat.le_refl _, fun _ => rfl, (fun h => absurd h (by decide)), fun _ => rfl⟩
    | cons c l ih =>
      rw [List.takeWhile_cons, List.takeWhile_cons]
      by_cases h1 : digit c = true
      · have h2 : alnum c = true := by unfold alnum; rw [h1, Bool.or_true]
        rw [h1, h2]
        simp only [if_true, List.length_cons, List.all_cons, h1, Bool.true_and]
        refine ⟨by omega, fun h => by rw [ih.2.1 h], fun h => ?_, fun h => ?_⟩
        · have := ih.2.2.1 h; unfold letterAt at *; rw [List.getElem?_cons_succ]; exact this
        · have := ih.2.2.2 h; unfold letterAt at *; rw [List.getElem?_cons_succ]; exact this
      · rw [Bool.not_eq_true] at h1
        rw [h1]
        by_cases h2 : letter c = true
        · have h3 : alnum c = true := by unfold alnum; rw [h2, Bool.true_or]
          rw [h3]
          simp only [if_true, List.all_cons, h1, Bool.false_and]
          exact ⟨Nat.zero_le _, (fun h => absurd h (by decide)), fun _ => h2, fun h => absurd h (by decide)⟩
        · rw [Bool.not_eq_true] at h2
          have h3 : alnum c = false := by unfold alnum; rw [h2, h1]; rfl
          rw [h3]
          simp only [Bool.false_eq_true, if_false]
          exact ⟨Nat.le_refl _, fun _ => trivial, (fun h => absurd h (by decide)), fun _ => h2⟩
  obtain ⟨h1, h2, h3, h4⟩ := hle
  unfold number
  rw [hd, Nat.sub_zero, List.drop_zero]
  simp only
  by_cases ha : (l.takeWhile alnum).all digit = true
  · rw [h2 ha] at h4 ⊢
    rw [if_pos ha]
    by_cases h9 : 9 < (l.takeWhile alnum).length
    · rw [if_pos h9, if_pos h9]
    · rw [if_neg h9, if_neg h9, h4 ha]
      rw [← (List.prefix_iff_eq_take).1 (List.takeWhile_prefix alnum)]
      rfl
  · rw [if_neg ha]
    rw [Bool.not_eq_true] at ha
    rw [h3 ha]
    by_cases h9 : 9 < (l.takeWhile alnum).length
    · rw [if_pos h9]; split <;> rfl
    · rw [if_neg h9]; split <;> rfl
theorem index_skip (c : UInt8) (l old : List UInt8) (h : old.isPrefixOf (c :: l) = false) : Lib.index (c :: l) old = if Lib.index l old = -1 then -1 else Lib.index l old + 1 := by
  rw [Lib.index, h]
  simp only [Bool.false_eq_true, if_false]
  by_cases h1 : Lib.index l old = -1
  · rw [if_pos h1, h1]; rfl
  · rw [if_neg h1]
    have : (Lib.index l old == -1) = false := by rw [beq_eq_false_iff_ne]; exact h1
    rw [this]; rfl
theorem rep_nil (old new : List UInt8) (ho : old ≠ []) (hne : (old == new) = false) : Lib.replaceAll [] old new = [] := by
  have h1 : Lib.index [] old = -1 := by
    cases old with
    | nil => exact absurd rfl ho
    | cons a t => rfl
  unfold Lib.replaceAll Lib.replace Lib.replaceNum
  rw [hne, if_pos (Or.inl (by decide)), Lib.count_miss h1]
  rfl
theorem rep_skip (c : UInt8) (l old new : List UInt8) (ho : old ≠ []) (hne : (old == new) = false) (h : old.isPrefixOf (c :: l) = false) : Lib.replaceAll (c :: l) old new = c :: Lib.replaceAll l old new := by
  have hi := index_skip c l old h
  unfold Lib.replaceAll Lib.replace Lib.replaceNum
  rw [hne, if_pos (Or.inl (by decide)), if_pos (Or.inl (by decide))]
  simp only [Bool.false_eq_true, if_false]
  by_cases h1 : Lib.index l old = -1
  · rw [if_pos h1] at hi
    rw [Lib.count_miss hi, Lib.count_miss h1]; rfl
  · rw [if_neg h1] at hi
    have hge := Lib.index_ge l old
    obtain ⟨i, hi2⟩ : ∃ i : Nat, Lib.index l old = i := ⟨(Lib.index l old).toNat, by omega⟩
    have hi3 : Lib.index (c :: l) old = ((i + 1 : Nat) : Int) := by rw [hi, hi2]; rfl
    rw [Lib.count_hit ho hi2, Lib.count_hit ho hi3]
    rw [show i + 1 + old.length = (i + old.length) + 1 by omega, List.drop_succ_cons, Nat.add_comm 1]
    rw [Lib.replaceK_hit old new _ l i hi2, Lib.replaceK_hit old new _ (c :: l) (i + 1) hi3]
    rw [show i + 1 + old.length = (i + old.length) + 1 by omega, List.drop_succ_cons, List.take_succ_cons]
    simp only [List.cons_append]
theorem rep_hit (l old new : List UInt8) (ho : old ≠ []) (hne : (old == new) = false) : Lib.replaceAll (old ++ l) old new = new ++ Lib.replaceAll l old new := by
  have h0 : Lib.index (old ++ l) old = ((0 : Nat) : Int) := by
    cases old with
    | nil => exact absurd rfl ho
    | cons a t =>
      rw [List.cons_append, Lib.index, ← List.cons_append, if_pos (List.isPrefixOf_iff_prefix.2 (List.prefix_append _ _))]
      rfl
  unfold Lib.replaceAll Lib.replace Lib.replaceNum
  rw [hne, if_pos (Or.inl (by decide)), if_pos (Or.inl (by decide)), Lib.count_hit ho h0, Nat.add_comm 1]
  simp only [Bool.false_eq_true, if_false]
  rw [Lib.replaceK_hit old new _ _ 0 h0, Nat.zero_add, List.drop_left]
  rfl
theorem esc_rep (l : List UInt8) : Lib.replaceAll l [39] [39, 39] = esc l := by
  induction l with
  | nil => exact rep_nil _ _ (by decide) (by decide)
  | cons c l ih =>
    rw [esc]
    by_cases h : c = 39
    · subst h
      rw [if_pos rfl, ← ih]
      exact rep_hit l [39] [39, 39] (by decide) (by decide)
    · rw [if_neg h, rep_skip c l _ _ (by decide) (by decide) (by simp [List.isPrefixOf, Ne.symm h]), ih]
      rfl
def unq : List UInt8 → Option (List UInt8 × Nat)
  | [] => none
  | [c] => if c = 39 then some ([], 1) else none
  | c :: d :: l => if c = 39 then (if d = 39 then (unq l).map (fun x => (39 :: x.1, x.2 + 2)) else some ([], 1)) else (unq (d :: l)).map fun x => (c :: x.1, x.2 + 1)
theorem unq_go (c : UInt8) (l : List UInt8) (h : ¬ c = 39) : unq (c :: l) = (unq l).map fun x => (c :: x.1, x.2 + 1) := by
  cases l with
  | nil =>
    show (if c = 39 then some ([], 1) else none) = _
    rw [if_neg h]; rfl
  | cons d l => rw [unq, if_neg h]
theorem unq_end (l : List UInt8) (h : ¬ l.head? = some 39) : unq (39 :: l) = some ([], 1) := by
  cases l with
  | nil => rfl
  | cons d l =>
    have : ¬ d = 39 := fun hd => h (by rw [hd]; rfl)
    rw [unq, if_pos rfl, if_neg this]
theorem unq_two (l : List UInt8) : unq (39 :: 39 :: l) = (unq l).map fun x => (39 :: x.1, x.2 + 2) := by rw [unq, if_pos rfl, if_pos rfl]
theorem quote_cases (P : List UInt8 → Prop) (h0 : P []) (h1 : ∀ l, ¬ l.head? = some 39 → P (39 :: l)) (h2 : ∀ l, P l → P (39 :: 39 :: l)) (h3 : ∀ c l, ¬ c = 39 → P l → P (c :: l)) : ∀ l, P l := by
  have : ∀ n l, l.length ≤ n → P l := by
    intro n
    induction n with
    | zero =>
      intro l h
      obtain rfl : l = [] := List.eq_nil_of_length_eq_zero (by omega)
      exact h0
    | succ n ih =>
      intro l h
      match l with
      | [] => exact h0
      | c :: l =>
        by_cases hc : c = 39
        · subst hc
          match l with
          | [] => exact h1 [] (by decide)
          | d :: l =>
            by_cases hd : d = 39
            · subst hd; exact h2 l (ih l (by simp at h; omega))
            · exact h1 (d :: l) (by simpa using hd)
        · exact h3 c l hc (ih l (by simpa using h))
  exact fun l => this l.length l (Nat.le_refl _)
def qlen : List UInt8 → Nat → Bool → Nat
  | [], _, _ => 0
  | c :: l, p, o => let o := if c = 39 then !o else o
    if o = false ∧ ¬ l.head? = some 39 then p + 1 else qlen l (p + 1) o
theorem qlen_unq : ∀ (l : List UInt8) (p : Nat), qlen l p true = match unq l with | none => 0 | some x => p + x.2 := by
  refine quote_cases _ (fun p => rfl) ?_ ?_ ?_
  · intro l h p
    rw [unq_end l h, qlen]
    simp [h]
  · intro l ih p
    rw [unq_two, qlen]
    simp only [if_true, Bool.not_true, List.head?_cons, not_true, and_false, if_false]
    rw [qlen]
    simp only [if_true, Bool.not_false, Bool.true_eq_false, false_and, if_false]
    rw [ih]
    cases unq l with
    | none => rfl
    | some x =>
      show p + 1 + 1 + x.2 = p + (x.2 + 2)
      omega
  · intro c l hc ih p
    rw [unq_go c l hc, qlen]
    simp only [if_neg hc, Bool.true_eq_false, false_and, if_false]
    rw [ih]
    cases unq l with
    | none => rfl
    | some x =>
      show p + 1 + x.2 = p + (x.2 + 1)
      omega
theorem unq_rep : ∀ (l : List UInt8) (o : List UInt8) (n : Nat), unq l = some (o, n) → 1 ≤ n ∧ n ≤ l.length ∧ Lib.replaceAll (l.take (n - 1)) [39, 39] [39] = o := by
  refine quote_cases _ (fun o n h => by cases h) ?_ ?_ ?_
  · intro l h o n he
    rw [unq_end l h] at he
    simp only [Option.some.injEq, Prod.mk.injEq] at he
    obtain ⟨rfl, rfl⟩ := he
    exact ⟨Nat.le_refl _, by simp, rep_nil _ _ (by decide) (by decide)⟩
  · intro l ih o n he
    rw [unq_two] at he
    cases hu : unq l with
    | none => rw [hu] at he; cases he
    | some x =>
      rw [hu] at he
      simp only [Option.map_some, Option.some.injEq, Prod.mk.injEq] at he
      obtain ⟨rfl, rfl⟩ := he
      obtain ⟨h1, h2, h3⟩ := ih x.1 x.2 hu
      refine ⟨by omega, by simp; omega, ?_⟩
      rw [show x.2 + 2 - 1 = (x.2 - 1) + 1 + 1 by omega, List.take_succ_cons, List.take_succ_cons]
      have := rep_hit (l.take (x.2 - 1)) [39, 39] [39] (by decide) (by decide)
      rw [h3] at this
      exact this
  · intro c l hc ih o n he
    rw [unq_go c l hc] at he
    cases hu : unq l with
    | none => rw [hu] at he; cases he
    | some x =>
      rw [hu] at he
      simp only [Option.map_some, Option.some.injEq, Prod.mk.injEq] at he
      obtain ⟨rfl, rfl⟩ := he
      obtain ⟨h1, h2, h3⟩ := ih x.1 x.2 hu
      refine ⟨by omega, by simp; omega, ?_⟩
      rw [show x.2 + 1 - 1 = (x.2 - 1) + 1 by omega, List.take_succ_cons, rep_skip c _ _ _ (by decide) (by decide) (by simp [List.isPrefixOf, Ne.symm hc]), h3]
def plain (c : UInt8) : Bool := decide (32 ≤ c.toNat) && decide (c.toNat ≤ 126)
theorem quo_unq (l : List UInt8) : ∀ (m : List UInt8) (f i : Nat) (out : List UInt8), l.drop i = m → l.length < f + i → quo l f i out = match unq m with | none => none | some x => if x.1.all plain = true then some (out ++ x.1, i + x.2) else none := by
  refine quote_cases _ ?_ ?_ ?_ ?_
  · intro f i out hd hf
    have := congrArg List.length hd
    rw [List.length_drop] at this
    rw [quo_end l f i out (by simp at this; omega)]; rfl
  · intro m h f i out hd hf
    have hi : i < l.length := by have := congrArg List.length hd; rw [List.length_drop] at this; simp at this; omega
    rw [List.drop_eq_getElem_cons hi, List.cons.injEq] at hd
    obtain ⟨f, rfl⟩ : ∃ g, f = g + 1 := ⟨f - 1, by omega⟩
    rw [unq_end m h, quo_one l f i out hi hd.1 (by rw [← List.head?_drop, hd.2]; exact h)]
    simp
  · intro m ih f i out hd hf
    have hi : i + 1 < l.length := by have := congrArg List.length hd; rw [List.length_drop] at this; simp at this; omega
    rw [List.drop_eq_getElem_cons (by omega : i < l.length), List.drop_eq_getElem_cons hi, List.cons.injEq, List.cons.injEq] at hd
    obtain ⟨f, rfl⟩ : ∃ g, f = g + 1 := ⟨f - 1, by omega⟩
    rw [unq_two, quo_two l f i out (by omega) hd.1 (by rw [List.getElem?_eq_getElem hi, hd.2.1]), ih f (i + 2) _ hd.2.2 (by omega)]
    cases unq m with
    | none => rfl
    | some x =>
      simp only [Option.map_some, List.all_cons, show plain 39 = true from rfl, Bool.true_and]
      split
      · simp; omega
      · rfl
  · intro c m hc ih f i out hd hf
    have hi : i < l.length := by have := congrArg List.length hd; rw [List.length_drop] at this; simp at this; omega
    rw [List.drop_eq_getElem_cons hi, List.cons.injEq] at hd
    obtain ⟨f, rfl⟩ : ∃ g, f = g + 1 := ⟨f - 1, by omega⟩
    rw [unq_go c m hc]
    by_cases hp : 32 ≤ c.toNat ∧ c.toNat ≤ 126
    · rw [quo_go l f i out hi (by rw [hd.1]; exact hc) (by rw [hd.1]; exact hp), ih f (i + 1) _ hd.2 (by omega)]
      have hpl : plain c = true := by unfold plain; rw [decide_eq_true hp.1, decide_eq_true hp.2]; rfl
      cases unq m with
      | none => rfl
      | some x =>
        simp only [Option.map_some, List.all_cons, hpl, Bool.true_and, hd.1]
        split
        · simp; omega
        · rfl
    · rw [quo_bad l f i out hi (by rw [hd.1]; exact hc) (by rw [hd.1]; exact hp)]
      have hpl : plain c = false := by
        unfold plain
        by_cases h1 : 32 ≤ c.toNat
        · rw [decide_eq_false (fun h2 => hp ⟨h1, h2⟩), Bool.and_false]
        · rw [decide_eq_false h1]; rfl
      cases unq m with
      | none => rfl
      | some x => simp only [Option.map_some, List.all_cons, hpl, Bool.false_and]; rfl
theorem quoted_unq (c : UInt8) (l : List UInt8) : quoted (c :: l) 0 = match unq l with | none => none | some x => if x.1.all plain = true ∧ x.1.length ≤ 40 then some (⟨4, ⟨x.1.toArray⟩, 0⟩, 1 + x.2) else none := by
  unfold quoted
  rw [quo_unq (c :: l) l ((c :: l).length + 1) (0 + 1) [] rfl (by omega)]
  cases unq l with
  | none => rfl
  | some x =>
    simp only [List.nil_append, Nat.zero_add]
    by_cases h1 : x.1.all plain = true
    · rw [if_pos h1]
      by_cases h2 : x.1.length ≤ 40
      · simp only [if_pos h2, h1, true_and]
      · simp only [if_neg h2, h1, true_and]
    · rw [if_neg h1, if_neg (fun h => h1 h.1)]
def selLen (l : List UInt8) : Nat := if selGo l (l.length + 1) 0 = 0 then run l 0 else selGo l (l.length + 1) 0
theorem selLen_is (l : List UInt8) (h : letterAt l 0 = true) : selLen l = selEnd l 0 := by
  have h0 : 0 < run l 0 := by
    cases l with
    | nil => exact absurd h (by decide)
    | cons c l => exact (run_gt (c :: l) 0 (by simp) (by show (letter c || digit c) = true; rw [show letter c = true from h]; rfl)).1
  unfold selLen selEnd
  by_cases hc : colon l (run l 0) = true
  · have e := selGo_go l l.length 0 ⟨h0, hc⟩
    have h1 := selGo_le l l.length (run l 0 + 1) (by have := colon_lt _ _ hc; omega)
    have h2 : ¬ selGo l l.length (run l 0 + 1) = 0 := by omega
    rw [e, if_neg h2, if_pos hc]
    exact selGo_fuel l l.length (l.length + 1) (run l 0 + 1) (by omega) (by omega)
  · have e := selGo_stop l (l.length + 1) 0 (fun h => hc h.2)
    rw [e, if_pos rfl, if_neg hc]
theorem cut_one (l : List UInt8) (c : UInt8) : Lib.cut l [c] = if (l.takeWhile fun x => !(x == c)).length < l.length then (l.takeWhile (fun x => !(x == c)), l.drop ((l.takeWhile fun x => !(x == c)).length + 1), true) else (l, [], false) := by
  have hi : Lib.index l [c] = if (l.takeWhile fun x => !(x == c)).length < l.length then (((l.takeWhile fun x => !(x == c)).length : Nat) : Int) else -1 := by
    induction l with
    | nil => rfl
    | cons d l ih =>
      rw [List.takeWhile_cons]
      by_cases hd : d = c
      · subst hd
        simp [Lib.index, List.isPrefixOf]
      · have h1 : ([c] : List UInt8).isPrefixOf (d :: l) = false := by simp [List.isPrefixOf, Ne.symm hd]
        rw [index_skip d l [c] h1, ih]
        have h2 : (!(d == c)) = true := by simpa using hd
        rw [h2]
        simp only [if_true, List.length_cons]
        by_cases h3 : (l.takeWhile fun x => !(x == c)).length < l.length
        · have h4 : (l.takeWhile fun x => !(x == c)).length + 1 < l.length + 1 := by omega
          have h5 : ¬ (((l.takeWhile fun x => !(x == c)).length : Nat) : Int) = -1 := by omega
          rw [if_pos h3, if_pos h4, if_neg h5]; rfl
        · have h4 : ¬ (l.takeWhile fun x => !(x == c)).length + 1 < l.length + 1 := by omega
          rw [if_neg h3, if_neg h4, if_pos rfl]
  unfold Lib.cut
  rw [hi]
  by_cases h : (l.takeWhile fun x => !(x == c)).length < l.length
  · rw [if_pos h, if_pos h, if_pos (by omega)]
    simp only [Int.toNat_natCast, List.length_singleton]
    congr 1
    exact ((List.prefix_iff_eq_take).1 (List.takeWhile_prefix _)).symm
  · rw [if_neg h, if_neg h, if_neg (by decide)]
theorem qend_cut (l : List UInt8) (p : Nat) : qend l p = p + ((l.drop p).takeWhile fun c => !(c == 34)).length := rfl
def skip : Nat → List UInt8 → Option (List UInt8)
  | 0, _ => none
  | f + 1, l =>
    let m := Lib.trimLeftS l [32, 10, 9]
    if Lib.hasPrefix m [34] = true then (if (Lib.cut (Lib.trimPrefix m [34]) [34]).2.2 = true then skip f (Lib.cut (Lib.trimPrefix m [34]) [34]).2.1 else none) else some m
theorem blanks_from (s : ByteArray) (acc : List T) : ∀ (m : List UInt8) (p : Nat), p ≤ s.size → s.data.toList.drop p = m → ∃ q, p ≤ q ∧ q ≤ s.size ∧ Lib.trimLeftS m [32, 10, 9] = s.data.toList.drop q ∧ from_ s p acc = from_ s q acc ∧ ∀ h : q < s.data.toList.length, ¬ (s.data.toList[q] = 32 ∨ s.data.toList[q] = 10 ∨ s.data.toList[q] = 9) := by
  have hls := len_list s
  intro m
  induction m with
  | nil =>
    intro p hp hd
    have := congrArg List.length hd
    rw [List.length_drop] at this
    simp at this
    exact ⟨p, Nat.le_refl _, hp, by rw [hd]; rfl, rfl, fun h => by omega⟩
  | cons c m ih =>
    intro p hp hd
    have hi : p < s.data.toList.length := by have := congrArg List.length hd; rw [List.length_drop] at this; simp at this; omega
    have hd' := hd
    rw [List.drop_eq_getElem_cons hi, List.cons.injEq] at hd'
    by_cases hc : c = 32 ∨ c = 10 ∨ c = 9
    · obtain ⟨q, h1, h2, h3, h4, h5⟩ := ih (p + 1) (by omega) hd'.2
      refine ⟨q, by omega, h2, ?_, ?_, h5⟩
      · rw [← h3]
        have : ([32, 10, 9] : List UInt8).contains c = true := by rcases hc with rfl | rfl | rfl <;> rfl
        unfold Lib.trimLeftS
        rw [List.dropWhile_cons, if_pos this]
      · rw [← h4]
        exact from_skip s p acc hi (by rw [hd'.1]; exact hc)
    · refine ⟨p, Nat.le_refl _, hp, ?_, rfl, fun h => by rw [hd'.1]; exact hc⟩
      have : ¬ ([32, 10, 9] : List UInt8).contains c = true := by
        rw [List.contains_iff_mem]
        intro hm
        simp at hm
        exact hc hm
      unfold Lib.trimLeftS
      rw [hd, List.dropWhile_cons, if_neg this]
theorem skip_from (s : ByteArray) (acc : List T) : ∀ (f p : Nat), p ≤ s.size → s.size < f + p → match skip f (s.data.toList.drop p) with
    | none => from_ s p acc = none
    | some m => ∃ q, p ≤ q ∧ q ≤ s.size ∧ m = s.data.toList.drop q ∧ from_ s p acc = from_ s q acc ∧ ∀ h : q < s.data.toList.length, ¬ (s.data.toList[q] = 32 ∨ s.data.toList[q] = 10 ∨ s.data.toList[q] = 9) ∧ ¬ s.data.toList[q] = 34 := by
  have hls := len_list s
  intro f
  induction f with
  | zero => intro p h1 h2; omega
  | succ f ih =>
    intro p hp hf
    obtain ⟨q, h1, h2, h3, h4, h5⟩ := blanks_from s acc _ p hp rfl
    rw [skip]
    simp only [h3]
    by_cases hq : q < s.data.toList.length
    · rw [List.drop_eq_getElem_cons hq]
      by_cases hc : s.data.toList[q] = 34
      · have hpre : Lib.hasPrefix (s.data.toList[q] :: s.data.toList.drop (q + 1)) [34] = true := by rw [hc]; simp [Lib.hasPrefix, List.isPrefixOf]
        have htr : Lib.trimPrefix (s.data.toList[q] :: s.data.toList.drop (q + 1)) [34] = s.data.toList.drop (q + 1) := by
          unfold Lib.trimPrefix; rw [if_pos hpre]; rfl
        rw [if_pos hpre, htr, cut_one]
        have hqe := qend_cut s.data.toList (q + 1)
        have hln : (s.data.toList.drop (q + 1)).length = s.size - (q + 1) := by rw [List.length_drop, hls]
        by_cases hk : ((s.data.toList.drop (q + 1)).takeWhile fun x => !(x == 34)).length < (s.data.toList.drop (q + 1)).length
        · rw [if_pos hk]
          simp only [if_true]
          rw [List.drop_drop]
          have hcm := from_comment s q (qend s.data.toList (q + 1)) acc hq hc rfl (by omega)
          have := ih (qend s.data.toList (q + 1) + 1) (by omega) (by omega)
          rw [show q + 1 + (((s.data.toList.drop (q + 1)).takeWhile fun x => !(x == 34)).length + 1) = qend s.data.toList (q + 1) + 1 by omega]
          cases hsk : skip f (s.data.toList.drop (qend s.data.toList (q + 1) + 1)) with
          | none => rw [hsk] at this; simp only at this ⊢; rw [h4, hcm, this]
          | some m =>
            rw [hsk] at this
            simp only at this ⊢
            obtain ⟨r, g1, g2, g3, g4, g5⟩ := this
            exact ⟨r, by omega, g2, g3, by rw [h4, hcm, g4], g5⟩
        · rw [if_neg hk]
          simp only [Bool.false_eq_true, if_false]
          rw [h4]
          exact from_open s q acc hq hc (by omega)
      · have hpre : ¬ Lib.hasPrefix (s.data.toList[q] :: s.data.toList.drop (q + 1)) [34] = true := by
          intro h
          exact hc (List.cons_prefix_cons.1 (List.isPrefixOf_iff_prefix.1 h)).1.symm
        rw [if_neg hpre, ← List.drop_eq_getElem_cons hq]
        exact ⟨q, h1, h2, rfl, h4, fun h => ⟨h5 h, hc⟩⟩
    · have hnil : s.data.toList.drop q = [] := List.drop_of_length_le (by omega)
      have hpre : ¬ Lib.hasPrefix [] [34] = true := by decide
      rw [hnil, if_neg hpre]
      exact ⟨q, h1, h2, hnil.symm, h4, fun h => absurd h hq⟩
end Go.Proofs.YtamjfbjkdicmcaaGreatDoor.Tok
