/-
  Plain mathematics: a token that is read ends behind its place and within the text, and is of a kind. Nothing of the program is named here.
-/
import Derived.Test.YtamjfbjkdicmcaaGreatDoorBTok
import Derived.Laws.Strings
namespace Go.Proofs.YtamjfbjkdicmcaaGreatDoor.Tok
theorem run_gt (l : List UInt8) (p : Nat) (h : p < l.length) (ha : alnum l[p] = true) : p < run l p ∧ run l p ≤ l.length := by
  rw [run_go l p h ha]
  have := run_le l (p + 1) (by omega)
  omega
theorem drun_le (l : List UInt8) (i : Nat) (hi : i ≤ l.length) : drun l i ≤ l.length := by
  unfold drun
  have := (List.takeWhile_prefix (p := digit) (l := l.drop i)).length_le
  simp at this; omega
theorem len_list (s : ByteArray) : s.data.toList.length = s.size := by rw [Array.length_toList]; rfl
theorem name_step (s : ByteArray) (p : Nat) (h : p < s.data.toList.length) (hl : letter s.data.toList[p] = true) (t : T) (e : Nat) (hn : nameAt s p = some (t, e)) : p < e ∧ e ≤ s.size ∧ t.kind ≠ 0 := by
  have hr := run_gt s.data.toList p h (by unfold alnum; rw [hl]; rfl)
  have hls := len_list s
  unfold nameAt at hn
  simp only at hn
  split at hn
  · cases hn
  · split at hn
    · next hc =>
      have := colon_lt _ _ hc
      simp only [Option.some.injEq, Prod.mk.injEq] at hn
      obtain ⟨rfl, rfl⟩ := hn
      exact ⟨by omega, by omega, (by decide : (2 : Int) ≠ 0)⟩
    · simp only [Option.some.injEq, Prod.mk.injEq] at hn
      obtain ⟨rfl, rfl⟩ := hn
      refine ⟨by omega, by omega, ?_⟩
      show (if _ then (8 : Int) else 1) ≠ 0
      split <;> decide
theorem number_step (l : List UInt8) (p : Nat) (h : p < l.length) (hd : digit l[p] = true) (t : T) (e : Nat) (hn : number l p = some (t, e)) : p < e ∧ e ≤ l.length ∧ t.kind ≠ 0 := by
  have h1 := drun_go l p h hd
  have h2 := drun_ge l (p + 1)
  have h3 := drun_le l p (by omega)
  unfold number at hn
  split at hn
  · cases hn
  · split at hn
    · cases hn
    · simp only [Option.some.injEq, Prod.mk.injEq] at hn
      obtain ⟨rfl, rfl⟩ := hn
      exact ⟨by omega, h3, (by decide : (3 : Int) ≠ 0)⟩
theorem quo_step (l : List UInt8) (f : Nat) : ∀ i out o e, quo l f i out = some (o, e) → i < e ∧ e ≤ l.length := by
  induction f with
  | zero => intro i out o e h; cases h
  | succ f ih =>
    intro i out o e h
    rw [quo] at h
    by_cases hi : i < l.length
    · rw [List.getElem?_eq_getElem hi] at h
      simp only at h
      split at h
      · split at h
        · have := ih _ _ _ _ h; omega
        · simp only [Option.some.injEq, Prod.mk.injEq] at h; omega
      · split at h
        · have := ih _ _ _ _ h; omega
        · cases h
    · rw [List.getElem?_eq_none (by omega)] at h; cases h
theorem quoted_step (l : List UInt8) (p : Nat) (t : T) (e : Nat) (hn : quoted l p = some (t, e)) : p < e ∧ e ≤ l.length ∧ t.kind ≠ 0 := by
  unfold quoted at hn
  cases hq : quo l (l.length + 1) (p + 1) [] with
  | none => rw [hq] at hn; cases hn
  | some r =>
    obtain ⟨o, e'⟩ := r
    have := quo_step l _ _ _ _ _ hq
    rw [hq] at hn
    simp only at hn
    split at hn
    · simp only [Option.some.injEq, Prod.mk.injEq] at hn
      obtain ⟨rfl, rfl⟩ := hn
      exact ⟨by omega, by omega, (by decide : (4 : Int) ≠ 0)⟩
    · cases hn
theorem selGo_le (l : List UInt8) (f : Nat) : ∀ e, e ≤ l.length → e ≤ selGo l f e ∧ selGo l f e ≤ l.length := by
  induction f with
  | zero => intro e h; exact ⟨Nat.le_refl _, h⟩
  | succ f ih =>
    intro e h
    rw [selGo]
    split
    · next hc =>
      have := colon_lt _ _ hc.2
      have := ih (run l e + 1) (by omega)
      omega
    · omega
theorem starts_pos (s : ByteArray) (p : Nat) (xs : List ByteArray) (h : (starts s p xs).toList.isEmpty = false) : 0 < (starts s p xs).size ∧ p + (starts s p xs).size ≤ s.size := by
  unfold starts at *
  cases hf : xs.find? (begins s p) with
  | none => rw [hf, ByteArray.toList_eq] at h; exact absurd h (by decide)
  | some x =>
    rw [hf] at h
    have hb := List.find?_some hf
    unfold begins at hb
    rw [Bool.and_eq_true, decide_eq_true_eq] at hb
    refine ⟨?_, hb.1⟩
    show 0 < x.size
    rcases Nat.eq_zero_or_pos x.size with h0 | h0
    · have h1 : x.data.toList = [] := List.eq_nil_of_length_eq_zero (by rw [len_list]; exact h0)
      have h2 : x.toList = [] := by rw [ByteArray.toList_eq, h1]
      simp only [Option.getD_some, h2] at h
      exact absurd h (by decide)
    · exact h0
theorem selector_step (s : ByteArray) (p : Nat) (t : T) (e : Nat) (hn : selectorAt s p = some (t, e)) : p < e ∧ e ≤ s.size ∧ t.kind ≠ 0 := by
  have hls := len_list s
  unfold selectorAt at hn
  simp only at hn
  split at hn
  · next h0 =>
    have := starts_pos s p binaries h0
    simp only [Option.some.injEq, Prod.mk.injEq] at hn
    obtain ⟨rfl, rfl⟩ := hn
    exact ⟨by omega, by omega, (by decide : (5 : Int) ≠ 0)⟩
  · split at hn
    · cases hn
    · next hla =>
      split at hn
      · simp only [Option.some.injEq, Prod.mk.injEq] at hn
        obtain ⟨rfl, rfl⟩ := hn
        have hlt : p < s.data.toList.length := by
          rcases Nat.lt_or_ge p s.data.toList.length with h1 | h1
          · exact h1
          · exact absurd (by unfold letterAt; rw [List.getElem?_eq_none h1]) hla
        have hl : letter s.data.toList[p] = true := by
          unfold letterAt at hla
          rw [List.getElem?_eq_getElem hlt] at hla
          simpa using hla
        have hr := run_gt s.data.toList p hlt (by unfold alnum; rw [hl]; rfl)
        refine ⟨?_, ?_, (by decide : (5 : Int) ≠ 0)⟩
        · unfold selEnd
          split
          · next hc =>
            have := selGo_le s.data.toList (s.data.toList.length + 1) (run s.data.toList p + 1) (by have := colon_lt _ _ hc; omega)
            omega
          · exact hr.1
        · unfold selEnd
          split
          · next hc =>
            have := selGo_le s.data.toList (s.data.toList.length + 1) (run s.data.toList p + 1) (by have := colon_lt _ _ hc; omega)
            omega
          · omega
      · cases hn
theorem next_step (s : ByteArray) (p : Nat) (h : p < s.data.toList.length) (t : T) (e : Nat) (hn : next s p s.data.toList[p] = some (t, e)) : p < e ∧ e ≤ s.size ∧ t.kind ≠ 0 := by
  have hls := len_list s
  unfold next at hn
  split at hn
  · next hl => exact name_step s p h hl t e hn
  · split at hn
    · next hd => have := number_step _ p h hd t e hn; omega
    · split at hn
      · have := quoted_step _ p t e hn; omega
      · split at hn
        · have := selector_step s (p + 1) t e hn; omega
        · split at hn
          · next h0 =>
            have := starts_pos s p binaries h0
            simp only [Option.some.injEq, Prod.mk.injEq] at hn
            obtain ⟨rfl, rfl⟩ := hn
            exact ⟨by omega, by omega, (by decide : (6 : Int) ≠ 0)⟩
          · split at hn
            · next h0 =>
              have := starts_pos s p marks h0
              simp only [Option.some.injEq, Prod.mk.injEq] at hn
              obtain ⟨rfl, rfl⟩ := hn
              exact ⟨by omega, by omega, (by decide : (7 : Int) ≠ 0)⟩
            · cases hn
def qend (l : List UInt8) (i : Nat) : Nat := i + ((l.drop i).takeWhile fun c => !(c == 34)).length
theorem qend_stop (l : List UInt8) (i : Nat) (h : ∀ hi : i < l.length, l[i] = 34) : qend l i = i := by
  unfold qend
  by_cases hi : i < l.length
  · rw [List.drop_eq_getElem_cons hi, List.takeWhile_cons, h hi]; rfl
  · rw [List.drop_of_length_le (by omega)]; rfl
theorem qend_go (l : List UInt8) (i : Nat) (hi : i < l.length) (h : ¬ l[i] = 34) : qend l i = qend l (i + 1) := by
  unfold qend
  rw [List.drop_eq_getElem_cons hi, List.takeWhile_cons]
  simp [h]; omega
def toks (s : ByteArray) : Nat → Nat → List T → Option (List T)
  | 0, _, _ => none
  | f + 1, p, acc =>
    match s.data.toList[p]? with
    | none => some acc
    | some c =>
      if c = 32 ∨ c = 10 ∨ c = 9 then toks s f (p + 1) acc
      else if c = 34 then (if qend s.data.toList (p + 1) < s.data.toList.length then toks s f (qend s.data.toList (p + 1) + 1) acc else none)
      else match next s p c with
        | none => none
        | some (t, e) => if 800 ≤ acc.length then none else toks s f e (acc ++ [t])
def tokens (s : ByteArray) : Option (List T) := if 4000 < s.size then none else toks s (s.size + 1) 0 []
theorem toks_end (s : ByteArray) (f p : Nat) (acc : List T) (h : ¬ p < s.data.toList.length) : toks s (f + 1) p acc = some acc := by
  rw [toks, List.getElem?_eq_none (by omega)]
theorem toks_skip (s : ByteArray) (f p : Nat) (acc : List T) (h : p < s.data.toList.length) (hc : s.data.toList[p] = 32 ∨ s.data.toList[p] = 10 ∨ s.data.toList[p] = 9) : toks s (f + 1) p acc = toks s f (p + 1) acc := by
  rw [toks, List.getElem?_eq_getElem h]; simp only [if_pos hc]
theorem toks_open (s : ByteArray) (f p : Nat) (acc : List T) (h : p < s.data.toList.length) (hc : s.data.toList[p] = 34) (hq : ¬ qend s.data.toList (p + 1) < s.data.toList.length) : toks s (f + 1) p acc = none := by
  rw [toks, List.getElem?_eq_getElem h]; simp only [hc, if_neg hq]; rfl
theorem toks_comment (s : ByteArray) (f p q : Nat) (acc : List T) (h : p < s.data.toList.length) (hc : s.data.toList[p] = 34) (hq : qend s.data.toList (p + 1) = q) (hl : q < s.data.toList.length) : toks s (f + 1) p acc = toks s f (q + 1) acc := by
  rw [toks, List.getElem?_eq_getElem h]; simp only [hc, hq, if_pos hl]; rfl
theorem toks_none (s : ByteArray) (f p : Nat) (acc : List T) (h : p < s.data.toList.length) (hc : ¬ (s.data.toList[p] = 32 ∨ s.data.toList[p] = 10 ∨ s.data.toList[p] = 9)) (hq : ¬ s.data.toList[p] = 34) (hn : next s p s.data.toList[p] = none) : toks s (f + 1) p acc = none := by
  rw [toks, List.getElem?_eq_getElem h]; simp only [if_neg hc, if_neg hq, hn]
theorem toks_full (s : ByteArray) (f p : Nat) (acc : List T) (h : p < s.data.toList.length) (hc : ¬ (s.data.toList[p] = 32 ∨ s.data.toList[p] = 10 ∨ s.data.toList[p] = 9)) (hq : ¬ s.data.toList[p] = 34) (t : T) (e : Nat) (hn : next s p s.data.toList[p] = some (t, e)) (h8 : 800 ≤ acc.length) : toks s (f + 1) p acc = none := by
  rw [toks, List.getElem?_eq_getElem h]; simp only [if_neg hc, if_neg hq, hn, if_pos h8]
theorem toks_more (s : ByteArray) (f p : Nat) (acc : List T) (h : p < s.data.toList.length) (hc : ¬ (s.data.toList[p] = 32 ∨ s.data.toList[p] = 10 ∨ s.data.toList[p] = 9)) (hq : ¬ s.data.toList[p] = 34) (t : T) (e : Nat) (hn : next s p s.data.toList[p] = some (t, e)) (h8 : ¬ 800 ≤ acc.length) : toks s (f + 1) p acc = toks s f e (acc ++ [t]) := by
  rw [toks, List.getElem?_eq_getElem h]; simp only [if_neg hc, if_neg hq, hn, if_neg h8]
theorem tokens_long (s : ByteArray) (h : 4000 < s.size) : tokens s = none := by unfold tokens; rw [if_pos h]
theorem tokens_short (s : ByteArray) (h : ¬ 4000 < s.size) : tokens s = toks s (s.size + 1) 0 [] := by unfold tokens; rw [if_neg h]
end Go.Proofs.YtamjfbjkdicmcaaGreatDoor.Tok
