/-
  Plain mathematics: a token that is read ends behind its place and within the text, and is of a kind. Nothing of the program is named here.
  Plain mathematics: what stands in a text from a place on, read as a text of its own. Nothing of the program is named here.
-/
import Derived.Test.YtekeondbbikkpaaGreatBTok
import Derived.Laws.Strings
import Derived.Lib.Strings
namespace Go.Proofs.YtekeondbbikkpaaGreat.Tok
theorem run_gt (l : List UInt8) (p : Nat) (h : p < l.length) (ha : alnum l[p] = true) : p < run l p ∧ run l p ≤ l.length := by
  rw [run_go l p h ha]
  have := run_le l (p + 1) (by omega)
  omega
theorem drun_le (l : List UInt8) (i : Nat) (hi : i ≤ l.length) : drun l i ≤ l.length := by
  unfold drun
  have := (List.takeWhile_prefix (p := digit) (l := l.drop i)).length_le
  simp at this; omega
theorem len_list (s : ByteArray) : s.data.toList.length = s.size := by rw [Array.length_toList]; rfl
theorem name_step (s : ByteArray) (p : Nat) (h : p < s.data.toList.length) (hl : letter s.data.toList[p] = true) (t : T) (e : Nat) (hn : nameAt s p = some (t, e)) : p < e ∧ e ≤ s.size ∧ t.kind ≠ 0 := by
  have hr := run_gt s.data.toList p h (by unfold alnum; rw [hl]; rfl)
  have hls := len_list s
  unfold nameAt at hn
  simp only at hn
  split at hn
  · cases hn
  · split at hn
    · next hc =>
      have := colon_lt _ _ hc
      simp only [Option.some.injEq, Prod.mk.injEq] at hn
      obtain ⟨rfl, rfl⟩ := hn
      exact ⟨by omega, by omega, (by decide : (2 : Int) ≠ 0)⟩
    · simp only [Option.some.injEq, Prod.mk.injEq] at hn
      obtain ⟨rfl, rfl⟩ := hn
      refine ⟨by omega, by omega, ?_⟩
      show (if _ then (8 : Int) else 1) ≠ 0
      split <;> decide
theorem number_step (l : List UInt8) (p : Nat) (h : p < l.length) (hd : digit l[p] = true) (t : T) (e : Nat) (hn : number l p = some (t, e)) : p < e ∧ e ≤ l.length ∧ t.kind ≠ 0 := by
  have h1 := drun_go l p h hd
  have h2 := drun_ge l (p + 1)
  have h3 := drun_le l p (by omega)
  unfold number at hn
  split at hn
  · cases hn
  · split at hn
    · cases hn
    · simp only [Option.some.injEq, Prod.mk.injEq] at hn
      obtain ⟨rfl, rfl⟩ := hn
      exact ⟨by omega, h3, (by decide : (3 : Int) ≠ 0)⟩
theorem quo_step (l : List UInt8) (f : Nat) : ∀ i out o e, quo l f i out = some (o, e) → i < e ∧ e ≤ l.length := by
  induction f with
  | zero => intro i out o e h; cases h
  | succ f ih =>
    intro i out o e h
    rw [quo] at h
    by_cases hi : i < l.length
    · rw [List.getElem?_eq_getElem hi] at h
      simp only at h
      split at h
      · split at h
        · have := ih _ _ _ _ h; omega
        · simp only [Option.some.injEq, Prod.mk.injEq] at h; omega
      · split at h
        · have := ih _ _ _ _ h; omega
        · cases h
    · rw [List.getElem?_eq_none (by omega)] at h; cases h
theorem quoted_step (l : List UInt8) (p : Nat) (t : T) (e : Nat) (hn : quoted l p = some (t, e)) : p < e ∧ e ≤ l.length ∧ t.kind ≠ 0 := by
  unfold quoted at hn
  cases hq : quo l (l.length + 1) (p + 1) [] with
  | none => rw [hq] at hn; cases hn
  | some r =>
    obtain ⟨o, e'⟩ := r
    have := quo_step l _ _ _ _ _ hq
    rw [hq] at hn
    simp only at hn
    split at hn
    · simp only [Option.some.injEq, Prod.mk.injEq] at hn
      obtain ⟨rfl, rfl⟩ := hn
      exact ⟨by omega, by omega, (by decide : (4 : Int) ≠ 0)⟩
    · cases hn
theorem selGo_le (l : List UInt8) (f : Nat) : ∀ e, e ≤ l.length → e ≤ selGo l f e ∧ selGo l f e ≤ l.length := by
  induction f with
  | zero => intro e h; exact ⟨Nat.le_refl _, h⟩
  | succ f ih =>
    intro e h
    rw [selGo]
    split
    · next hc =>
      have := colon_lt _ _ hc.2
      have := ih (run l e + 1) (by omega)
      omega
    · omega
theorem starts_pos (s : ByteArray) (p : Nat) (xs : List ByteArray) (h : (starts s p xs).toList.isEmpty = false) : 0 < (starts s p xs).size ∧ p + (starts s p xs).size ≤ s.size := by
  unfold starts at *
  cases hf : xs.find? (begins s p) with
  | none => rw [hf, ByteArray.toList_eq] at h; exact absurd h (by decide)
  | some x =>
    rw [hf] at h
    have hb := List.find?_some hf
    unfold begins at hb
    rw [Bool.and_eq_true, decide_eq_true_eq] at hb
    refine ⟨?_, hb.1⟩
    show 0 < x.size
    rcases Nat.eq_zero_or_pos x.size with h0 | h0
    · have h1 : x.data.toList = [] := List.eq_nil_of_length_eq_zero (by rw [len_list]; exact h0)
      have h2 : x.toList = [] := by rw [ByteArray.toList_eq, h1]
      simp only [Option.getD_some, h2] at h
      exact absurd h (by decide)
    · exact h0
theorem selector_step (s : ByteArray) (p : Nat) (t : T) (e : Nat) (hn : selectorAt s p = some (t, e)) : p < e ∧ e ≤ s.size ∧ t.kind ≠ 0 := by
  have hls := len_list s
  unfold selectorAt at hn
  simp only at hn
  split at hn
  · next h0 =>
    have := starts_pos s p binaries h0
    simp only [Option.some.injEq, Prod.mk.injEq] at hn
    obtain ⟨rfl, rfl⟩ := hn
    exact ⟨by omega, by omega, (by decide : (5 : Int) ≠ 0)⟩
  · split at hn
    · cases hn
    · next hla =>
      split at hn
      · simp only [Option.some.injEq, Prod.mk.injEq] at hn
        obtain ⟨rfl, rfl⟩ := hn
        have hlt : p < s.data.toList.length := by
          rcases Nat.lt_or_ge p s.data.toList.length with h1 | h1
          · exact h1
          · exact absurd (by unfold letterAt; rw [List.getElem?_eq_none h1]) hla
        have hl : letter s.data.toList[p] = true := by
          unfold letterAt at hla
          rw [List.getElem?_eq_getElem hlt] at hla
          simpa using hla
        have hr := run_gt s.data.toList p hlt (by unfold alnum; rw [hl]; rfl)
        refine ⟨?_, ?_, (by decide : (5 : Int) ≠ 0)⟩
        · unfold selEnd
          split
          · next hc =>
            have := selGo_le s.data.toList (s.data.toList.length + 1) (run s.data.toList p + 1) (by have := colon_lt _ _ hc; omega)
            omega
          · exact hr.1
        · unfold selEnd
          split
          · next hc =>
            have := selGo_le s.data.toList (s.data.toList.length + 1) (run s.data.toList p + 1) (by have := colon_lt _ _ hc; omega)
            omega
          · omega
      · cases hn
theorem next_step (s : ByteArray) (p : Nat) (h : p < s.data.toList.length) (t : T) (e : Nat) (hn : next s p s.data.toList[p] = some (t, e)) : p < e ∧ e ≤ s.size ∧ t.kind ≠ 0 := by
  have hls := len_list s
  unfold next at hn
  split at hn
  · next hl => exact name_step s p h hl t e hn
  · split at hn
    · next hd => have := number_step _ p h hd t e hn; omega
    · split at hn
      · have := quoted_step _ p t e hn; omega
      · split at hn
        · have := selector_step s (p + 1) t e hn; omega
        · split at hn
          · next h0 =>
            have := starts_pos s p binaries h0
            simp only [Option.some.injEq, Prod.mk.injEq] at hn
            obtain ⟨rfl, rfl⟩ := hn
            exact ⟨by omega, by omega, (by decide : (6 : Int) ≠ 0)⟩
          · split at hn
            · next h0 =>
              have := starts_pos s p marks h0
              simp only [Option.some.injEq, Prod.mk.injEq] at hn
              obtain ⟨rfl, rfl⟩ := hn
              exact ⟨by omega, by omega, (by decide : (7 : Int) ≠ 0)⟩
            · cases hn
def qend (l : List UInt8) (i : Nat) : Nat := i + ((l.drop i).takeWhile fun c => !(c == 34)).length
theorem qend_stop (l : List UInt8) (i : Nat) (h : ∀ hi : i < l.length, l[i] = 34) : qend l i = i := by
  unfold qend
  by_cases hi : i < l.length
  · rw [List.drop_eq_getElem_cons hi, List.takeWhile_cons, h hi]; rfl
  · rw [List.drop_of_length_le (by omega)]; rfl
theorem qend_go (l : List UInt8) (i : Nat) (hi : i < l.length) (h : ¬ l[i] = 34) : qend l i = qend l (i + 1) := by
  unfold qend
  rw [List.drop_eq_getElem_cons hi, List.takeWhile_cons]
  simp [h]; omega
def toks (s : ByteArray) : Nat → Nat → List T → Option (List T)
  | 0, _, _ => none
  | f + 1, p, acc =>
    match s.data.toList[p]? with
    | none => some acc
    | some c =>
      if c = 32 ∨ c = 10 ∨ c = 9 then toks s f (p + 1) acc
      else if c = 34 then (if qend s.data.toList (p + 1) < s.data.toList.length then toks s f (qend s.data.toList (p + 1) + 1) acc else none)
      else match next s p c with
        | none => none
        | some (t, e) => if 800 ≤ acc.length then none else toks s f e (acc ++ [t])
def tokens (s : ByteArray) : Option (List T) := if 4000 < s.size then none else toks s (s.size + 1) 0 []
theorem toks_end (s : ByteArray) (f p : Nat) (acc : List T) (h : ¬ p < s.data.toList.length) : toks s (f + 1) p acc = some acc := by
  rw [toks, List.getElem?_eq_none (by omega)]
theorem toks_skip (s : ByteArray) (f p : Nat) (acc : List T) (h : p < s.data.toList.length) (hc : s.data.toList[p] = 32 ∨ s.data.toList[p] = 10 ∨ s.data.toList[p] = 9) : toks s (f + 1) p acc = toks s f (p + 1) acc := by
  rw [toks, List.getElem?_eq_getElem h]; simp only [if_pos hc]
theorem toks_open (s : ByteArray) (f p : Nat) (acc : List T) (h : p < s.data.toList.length) (hc : s.data.toList[p] = 34) (hq : ¬ qend s.data.toList (p + 1) < s.data.toList.length) : toks s (f + 1) p acc = none := by
  rw [toks, List.getElem?_eq_getElem h]; simp only [hc, if_neg hq]; rfl
theorem toks_comment (s : ByteArray) (f p q : Nat) (acc : List T) (h : p < s.data.toList.length) (hc : s.data.toList[p] = 34) (hq : qend s.data.toList (p + 1) = q) (hl : q < s.data.toList.length) : toks s (f + 1) p acc = toks s f (q + 1) acc := by
  rw [toks, List.getElem?_eq_getElem h]; simp only [hc, hq, if_pos hl]; rfl
theorem toks_none (s : ByteArray) (f p : Nat) (acc : List T) (h : p < s.data.toList.length) (hc : ¬ (s.data.toList[p] = 32 ∨ s.data.toList[p] = 10 ∨ s.data.toList[p] = 9)) (hq : ¬ s.data.toList[p] = 34) (hn : next s p s.data.toList[p] = none) : toks s (f + 1) p acc = none := by
  rw [toks, List.getElem?_eq_getElem h]; simp only [if_neg hc, if_neg hq, hn]
theorem toks_full (s : ByteArray) (f p : Nat) (acc : List T) (h : p < s.data.toList.length) (hc : ¬ (s.data.toList[p] = 32 ∨ s.data.toList[p] = 10 ∨ s.data.toList[p] = 9)) (hq : ¬ s.data.toList[p] = 34) (t : T) (e : Nat) (hn : next s p s.data.toList[p] = some (t, e)) (h8 : 800 ≤ acc.length) : toks s (f + 1) p acc = none := by
  rw [toks, List.getElem?_eq_getElem h]; simp only [if_neg hc, if_neg hq, hn, if_pos h8]
theorem toks_more (s : ByteArray) (f p : Nat) (acc : List T) (h : p < s.data.toList.length) (hc : ¬ (s.data.toList[p] = 32 ∨ s.data.toList[p] = 10 ∨ s.data.toList[p] = 9)) (hq : ¬ s.data.toList[p] = 34) (t : T) (e : Nat) (hn : next s p s.data.toList[p] = some (t, e)) (h8 : ¬ 800 ≤ acc.length) : toks s (f + 1) p acc = toks s f e (acc ++ [t]) := by
  rw [toks, List.getElem?_eq_getElem h]; simp only [if_neg hc, if_neg hq, hn, if_neg h8]
theorem tokens_long (s : ByteArray) (h : 4000 < s.size) : tokens s = none := by unfold tokens; rw [if_pos h]
theorem tokens_short (s : ByteArray) (h : ¬ 4000 < s.size) : tokens s = toks s (s.size + 1) 0 [] := by unfold tokens; rw [if_neg h]
end Go.Proofs.YtekeondbbikkpaaGreat.Tok

namespace Go.Proofs.YtekeondbbikkpaaGreat.Tok
theorem ba_ext {a b : ByteArray} (h : a.data.toList = b.data.toList) : a = b := ByteArray.ext (Array.toList_inj.1 h)
theorem ext_data (s : ByteArray) (a b : Nat) : (s.extract a b).data.toList = (s.data.toList.drop a).take (b - a) := Lib.extract_data s a b
def rest (s : ByteArray) (p : Nat) : ByteArray := s.extract p s.size
theorem rest_data (s : ByteArray) (p : Nat) : (rest s p).data.toList = s.data.toList.drop p := by
  unfold rest
  rw [ext_data]
  exact List.take_of_length_le (by rw [List.length_drop, len_list]; omega)
theorem rest_size (s : ByteArray) (p : Nat) : (rest s p).size = s.size - p := by
  rw [← len_list, rest_data, List.length_drop, len_list]
theorem rest_zero (s : ByteArray) : rest s 0 = s := ba_ext (by rw [rest_data]; rfl)
theorem rest_rest (s : ByteArray) (p q : Nat) : rest (rest s p) q = rest s (p + q) := ba_ext (by rw [rest_data, rest_data, rest_data, List.drop_drop])
theorem extract_rest (s : ByteArray) (p a b : Nat) : (rest s p).extract a b = s.extract (p + a) (p + b) := by
  apply ba_ext
  rw [ext_data, ext_data, rest_data, List.drop_drop, show p + b - (p + a) = b - a by omega]
theorem extract_end (s : ByteArray) (a : Nat) : s.extract a s.size = rest s a := rfl
theorem run_rest (l : List UInt8) (p i : Nat) : run l (p + i) = p + run (l.drop p) i := by
  unfold run; rw [List.drop_drop]; omega
theorem drun_rest (l : List UInt8) (p i : Nat) : drun l (p + i) = p + drun (l.drop p) i := by
  unfold drun; rw [List.drop_drop]; omega
theorem colon_rest (l : List UInt8) (p i : Nat) : colon l (p + i) = colon (l.drop p) i := by
  unfold colon; rw [List.getElem?_drop, List.getElem?_drop, Nat.add_assoc]
theorem letterAt_rest (l : List UInt8) (p i : Nat) : letterAt l (p + i) = letterAt (l.drop p) i := by
  unfold letterAt; rw [List.getElem?_drop]
theorem begins_rest (s : ByteArray) (p i : Nat) (x : ByteArray) (hp : p ≤ s.size) : begins s (p + i) x = begins (rest s p) i x := by
  unfold begins
  rw [extract_rest, rest_size, Nat.add_assoc]
  congr 1
  rw [Bool.eq_iff_iff, decide_eq_true_eq, decide_eq_true_eq]; omega
theorem starts_rest (s : ByteArray) (p i : Nat) (xs : List ByteArray) (hp : p ≤ s.size) : starts s (p + i) xs = starts (rest s p) i xs := by
  unfold starts
  congr 2
  funext x
  exact begins_rest s p i x hp
def shift (p : Nat) (r : Option (T × Nat)) : Option (T × Nat) := r.map fun x => (x.1, p + x.2)
theorem name_rest (s : ByteArray) (p i : Nat) : nameAt s (p + i) = shift p (nameAt (rest s p) i) := by
  unfold nameAt shift
  simp only [rest_data, run_rest, extract_rest, colon_rest, show p + run (s.data.toList.drop p) i - (p + i) = run (s.data.toList.drop p) i - i by omega]
  split
  · rfl
  · split
    · rfl
    · rfl
theorem number_rest (l : List UInt8) (p i : Nat) : number l (p + i) = shift p (number (l.drop p) i) := by
  unfold number shift
  simp only [drun_rest, letterAt_rest, List.drop_drop, show p + drun (l.drop p) i - (p + i) = drun (l.drop p) i - i by omega]
  split
  · rfl
  · split
    · rfl
    · rfl
theorem quo_fuel (l : List UInt8) : ∀ (f g i : Nat) (out : List UInt8), l.length < f + i → l.length < g + i → quo l f i out = quo l g i out := by
  intro f
  induction f with
  | zero => intro g i out h1 h2; rw [quo_end l 0 i out (by omega), quo_end l g i out (by omega)]
  | succ f ih =>
    intro g i out h1 h2
    match g with
    | 0 => rw [quo_end l 0 i out (by omega), quo_end l (f + 1) i out (by omega)]
    | g + 1 =>
      rw [quo, quo]
      by_cases hi : i < l.length
      · rw [List.getElem?_eq_getElem hi]
        simp only
        rw [ih g (i + 2) _ (by omega) (by omega), ih g (i + 1) _ (by omega) (by omega)]
      · rw [List.getElem?_eq_none (by omega)]
theorem quo_rest (l : List UInt8) (p : Nat) : ∀ (f i : Nat) (out : List UInt8), quo l f (p + i) out = (quo (l.drop p) f i out).map fun x => (x.1, p + x.2) := by
  intro f
  induction f with
  | zero => intro i out; rfl
  | succ f ih =>
    intro i out
    rw [quo, quo, List.getElem?_drop, List.getElem?_drop, ← Nat.add_assoc]
    cases hc : l[p + i]? with
    | none => rfl
    | some c =>
      simp only
      rw [show p + i + 2 = p + (i + 2) by omega, show p + i + 1 = p + (i + 1) by omega, ih, ih]
      split
      · split
        · rfl
        · rfl
      · split
        · rfl
        · rfl
theorem quoted_rest (l : List UInt8) (p i : Nat) (hp : p ≤ l.length) : quoted l (p + i) = shift p (quoted (l.drop p) i) := by
  unfold quoted
  rw [quo_fuel l (l.length + 1) ((l.drop p).length + 1) (p + i + 1) [] (by omega) (by rw [List.length_drop]; omega), Nat.add_assoc, quo_rest]
  cases quo (l.drop p) ((l.drop p).length + 1) (i + 1) [] with
  | none => rfl
  | some r =>
    obtain ⟨o, e⟩ := r
    simp only [Option.map_some]
    split
    · rfl
    · rfl
theorem selGo_fuel (l : List UInt8) : ∀ (f g e : Nat), l.length < f + e → l.length < g + e → selGo l f e = selGo l g e := by
  have far : ∀ e f, l.length ≤ e → selGo l f e = e := by
    intro e f h
    refine selGo_stop l f e ?_
    rw [run_stop l e (fun hi => by omega)]; omega
  intro f
  induction f with
  | zero => intro g e h1 h2; rw [far e 0 (by omega), far e g (by omega)]
  | succ f ih =>
    intro g e h1 h2
    match g with
    | 0 => rw [far e 0 (by omega), far e (f + 1) (by omega)]
    | g + 1 =>
      rw [selGo, selGo]
      by_cases h : e < run l e ∧ colon l (run l e) = true
      · rw [if_pos h, if_pos h, ih g _ (by omega) (by omega)]
      · rw [if_neg h, if_neg h]
theorem selGo_rest (l : List UInt8) (p : Nat) : ∀ (f e : Nat), selGo l f (p + e) = p + selGo (l.drop p) f e := by
  intro f
  induction f with
  | zero => intro e; rfl
  | succ f ih =>
    intro e
    rw [selGo, selGo, run_rest, colon_rest]
    by_cases h : e < run (l.drop p) e ∧ colon (l.drop p) (run (l.drop p) e) = true
    · rw [if_pos (⟨by omega, h.2⟩ : p + e < p + run (l.drop p) e ∧ _), if_pos h, Nat.add_assoc, ih]
    · rw [if_neg (fun h' => h ⟨by omega, h'.2⟩), if_neg h]
theorem selEnd_rest (l : List UInt8) (p i : Nat) (hp : p ≤ l.length) : selEnd l (p + i) = p + selEnd (l.drop p) i := by
  unfold selEnd
  rw [run_rest, colon_rest]
  split
  · rw [selGo_fuel l (l.length + 1) ((l.drop p).length + 1) (p + run (l.drop p) i + 1) (by omega) (by rw [List.length_drop]; omega), Nat.add_assoc, selGo_rest]
  · rfl
theorem selectorAt_rest (s : ByteArray) (p i : Nat) (hp : p ≤ s.size) : selectorAt s (p + i) = shift p (selectorAt (rest s p) i) := by
  unfold selectorAt shift
  simp only [rest_data, starts_rest s p i _ hp, letterAt_rest, selEnd_rest s.data.toList p i (by rw [len_list]; exact hp), extract_rest]
  split
  · simp only [Option.map_some, Nat.add_assoc]
  · split
    · rfl
    · split
      · rfl
      · rfl
theorem next_rest (s : ByteArray) (p : Nat) (c : UInt8) (hp : p ≤ s.size) : next s p c = shift p (next (rest s p) 0 c) := by
  have e1 := name_rest s p 0
  have e2 := number_rest s.data.toList p 0
  have e3 := quoted_rest s.data.toList p 0 (by rw [len_list]; exact hp)
  have e4 := selectorAt_rest s p 1 hp
  have e5 := fun xs => starts_rest s p 0 xs hp
  simp only [Nat.add_zero] at e1 e2 e3 e5
  unfold next
  rw [e1, e2, e3, e4, e5, e5, rest_data]
  split
  · rfl
  · split
    · rfl
    · split
      · rfl
      · split
        · rfl
        · split
          · unfold shift; simp only [Option.map_some, Nat.zero_add]
          · split
            · unfold shift; simp only [Option.map_some, Nat.zero_add]
            · rfl
theorem toks_fuel (s : ByteArray) : ∀ (f g p : Nat) (acc : List T), p ≤ s.size → s.size < f + p → s.size < g + p → toks s f p acc = toks s g p acc := by
  have hls := len_list s
  intro f
  induction f with
  | zero => intro g p acc h0 h1 h2; omega
  | succ f ih =>
    intro g p acc h0 h1 h2
    match g, h2 with
    | 0, h2 => omega
    | g + 1, h2 =>
      rw [toks, toks]
      by_cases hi : p < s.data.toList.length
      · rw [List.getElem?_eq_getElem hi]
        simp only
        rw [ih g (p + 1) acc (by omega) (by omega) (by omega)]
        by_cases hq : qend s.data.toList (p + 1) < s.data.toList.length
        · have hge : p + 1 ≤ qend s.data.toList (p + 1) := by unfold qend; omega
          rw [ih g (qend s.data.toList (p + 1) + 1) acc (by omega) (by omega) (by omega)]
          split
          · rfl
          · split
            · rfl
            · cases hn : next s p s.data.toList[p] with
              | none => rfl
              | some r =>
                obtain ⟨t, e⟩ := r
                have := next_step s p hi t e hn
                simp only
                rw [ih g e (acc ++ [t]) (by omega) (by omega) (by omega)]
        · rw [if_neg hq, if_neg hq]
          split
          · rfl
          · split
            · rfl
            · cases hn : next s p s.data.toList[p] with
              | none => rfl
              | some r =>
                obtain ⟨t, e⟩ := r
                have := next_step s p hi t e hn
                simp only
                rw [ih g e (acc ++ [t]) (by omega) (by omega) (by omega)]
      · rw [List.getElem?_eq_none (by omega)]
def from_ (s : ByteArray) (p : Nat) (acc : List T) : Option (List T) := toks s (s.size + 1) p acc
theorem from_toks (s : ByteArray) (f p : Nat) (acc : List T) (hp : p ≤ s.size) (hf : s.size < f + p) : toks s f p acc = from_ s p acc := toks_fuel s f (s.size + 1) p acc hp hf (by omega)
theorem from_end (s : ByteArray) (p : Nat) (acc : List T) (h : ¬ p < s.size) : from_ s p acc = some acc := toks_end s s.size p acc (by rw [len_list]; exact h)
theorem from_skip (s : ByteArray) (p : Nat) (acc : List T) (h : p < s.data.toList.length) (hc : s.data.toList[p] = 32 ∨ s.data.toList[p] = 10 ∨ s.data.toList[p] = 9) : from_ s p acc = from_ s (p + 1) acc := by
  have := len_list s
  rw [← from_toks s s.size (p + 1) acc (by omega) (by omega)]
  exact toks_skip s s.size p acc h hc
theorem from_open (s : ByteArray) (p : Nat) (acc : List T) (h : p < s.data.toList.length) (hc : s.data.toList[p] = 34) (hq : ¬ qend s.data.toList (p + 1) < s.data.toList.length) : from_ s p acc = none := toks_open s s.size p acc h hc hq
theorem from_comment (s : ByteArray) (p q : Nat) (acc : List T) (h : p < s.data.toList.length) (hc : s.data.toList[p] = 34) (hq : qend s.data.toList (p + 1) = q) (hl : q < s.data.toList.length) : from_ s p acc = from_ s (q + 1) acc := by
  have h1 := len_list s
  have h2 : p + 1 ≤ q := by rw [← hq]; unfold qend; omega
  rw [← from_toks s s.size (q + 1) acc (by omega) (by omega)]
  exact toks_comment s s.size p q acc h hc hq hl
theorem from_none (s : ByteArray) (p : Nat) (acc : List T) (h : p < s.data.toList.length) (hc : ¬ (s.data.toList[p] = 32 ∨ s.data.toList[p] = 10 ∨ s.data.toList[p] = 9)) (hq : ¬ s.data.toList[p] = 34) (hn : next s p s.data.toList[p] = none) : from_ s p acc = none := toks_none s s.size p acc h hc hq hn
theorem from_full (s : ByteArray) (p : Nat) (acc : List T) (h : p < s.data.toList.length) (hc : ¬ (s.data.toList[p] = 32 ∨ s.data.toList[p] = 10 ∨ s.data.toList[p] = 9)) (hq : ¬ s.data.toList[p] = 34) (t : T) (e : Nat) (hn : next s p s.data.toList[p] = some (t, e)) (h8 : 800 ≤ acc.length) : from_ s p acc = none := toks_full s s.size p acc h hc hq t e hn h8
theorem from_more (s : ByteArray) (p : Nat) (acc : List T) (h : p < s.data.toList.length) (hc : ¬ (s.data.toList[p] = 32 ∨ s.data.toList[p] = 10 ∨ s.data.toList[p] = 9)) (hq : ¬ s.data.toList[p] = 34) (t : T) (e : Nat) (hn : next s p s.data.toList[p] = some (t, e)) (h8 : ¬ 800 ≤ acc.length) : from_ s p acc = from_ s e (acc ++ [t]) := by
  have h1 := len_list s
  have h2 := next_step s p h t e hn
  rw [← from_toks s s.size e (acc ++ [t]) (by omega) (by omega)]
  exact toks_more s s.size p acc h hc hq t e hn h8
end Go.Proofs.YtekeondbbikkpaaGreat.Tok
