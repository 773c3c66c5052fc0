/-
  Plain mathematics: what stands in a text from a place on, read as a text of its own. Nothing of the program is named here.
-/
import Derived.Test.YtamjfbjkdicmcaaGreatDoorBTokStep
import Derived.Lib.Strings
namespace Go.Proofs.YtamjfbjkdicmcaaGreatDoor.Tok
theorem ba_ext {a b : ByteArray} (h : a.data.toList = b.data.toList) : a = b := ByteArray.ext (Array.toList_inj.1 h)
theorem ext_data (s : ByteArray) (a b : Nat) : (s.extract a b).data.toList = (s.data.toList.drop a).take (b - a) := Lib.extract_data s a b
def rest (s : ByteArray) (p : Nat) : ByteArray := s.extract p s.size
theorem rest_data (s : ByteArray) (p : Nat) : (rest s p).data.toList = s.data.toList.drop p := by
  unfold rest
  rw [ext_data]
  exact List.take_of_length_le (by rw [List.length_drop, len_list]; omega)
theorem rest_size (s : ByteArray) (p : Nat) : (rest s p).size = s.size - p := by
  rw [← len_list, rest_data, List.length_drop, len_list]
theorem rest_zero (s : ByteArray) : rest s 0 = s := ba_ext (by rw [rest_data]; rfl)
theorem rest_rest (s : ByteArray) (p q : Nat) : rest (rest s p) q = rest s (p + q) := ba_ext (by rw [rest_data, rest_data, rest_data, List.drop_drop])
theorem extract_rest (s : ByteArray) (p a b : Nat) : (rest s p).extract a b = s.extract (p + a) (p + b) := by
  apply ba_ext
  rw [ext_data, ext_data, rest_data, List.drop_drop, show p + b - (p + a) = b - a by omega]
theorem extract_end (s : ByteArray) (a : Nat) : s.extract a s.size = rest s a := rfl
theorem run_rest (l : List UInt8) (p i : Nat) : run l (p + i) = p + run (l.drop p) i := by
  unfold run; rw [List.drop_drop]; omega
theorem drun_rest (l : List UInt8) (p i : Nat) : drun l (p + i) = p + drun (l.drop p) i := by
  unfold drun; rw [List.drop_drop]; omega
theorem colon_rest (l : List UInt8) (p i : Nat) : colon l (p + i) = colon (l.drop p) i := by
  unfold colon; rw [List.getElem?_drop, List.getElem?_drop, Nat.add_assoc]
theorem letterAt_rest (l : List UInt8) (p i : Nat) : letterAt l (p + i) = letterAt (l.drop p) i := by
  unfold letterAt; rw [List.getElem?_drop]
theorem begins_rest (s : ByteArray) (p i : Nat) (x : ByteArray) (hp : p ≤ s.size) : begins s (p + i) x = begins (rest s p) i x := by
  unfold begins
  rw [extract_rest, rest_size, Nat.add_assoc]
  congr 1
  rw [Bool.eq_iff_iff, decide_eq_true_eq, decide_eq_true_eq]; omega
theorem starts_rest (s : ByteArray) (p i : Nat) (xs : List ByteArray) (hp : p ≤ s.size) : starts s (p + i) xs = starts (rest s p) i xs := by
  unfold starts
  congr 2
  funext x
  exact begins_rest s p i x hp
def shift (p : Nat) (r : Option (T × Nat)) : Option (T × Nat) := r.map fun x => (x.1, p + x.2)
theorem name_rest (s : ByteArray) (p i : Nat) : nameAt s (p + i) = shift p (nameAt (rest s p) i) := by
  unfold nameAt shift
  simp only [rest_data, run_rest, extract_rest, colon_rest, show p + run (s.data.toList.drop p) i - (p + i) = run (s.data.toList.drop p) i - i by omega]
  split
  · rfl
  · split
    · rfl
    · rfl
theorem number_rest (l : List UInt8) (p i : Nat) : number l (p + i) = shift p (number (l.drop p) i) := by
  unfold number shift
  simp only [drun_rest, letterAt_rest, List.drop_drop, show p + drun (l.drop p) i - (p + i) = drun (l.drop p) i - i by omega]
  split
  · rfl
  · split
    · rfl
    · rfl
theorem quo_fuel (l : List UInt8) : ∀ (f g i : Nat) (out : List UInt8), l.length < f + i → l.length < g + i → quo l f i out = quo l g i out := by
  intro f
  induction f with
  | zero => intro g i out h1 h2; rw [quo_end l 0 i out (by omega), quo_end l g i out (by omega)]
  | succ f ih =>
    intro g i out h1 h2
    match g with
    | 0 => rw [quo_end l 0 i out (by omega), quo_end l (f + 1) i out (by omega)]
    | g + 1 =>
      rw [quo, quo]
      by_cases hi : i < l.length
      · rw [List.getElem?_eq_getElem hi]
        simp only
        rw [ih g (i + 2) _ (by omega) (by omega), ih g (i + 1) _ (by omega) (by omega)]
      · rw [List.getElem?_eq_none (by omega)]
theorem quo_rest (l : List UInt8) (p : Nat) : ∀ (f i : Nat) (out : List UInt8), quo l f (p + i) out = (quo (l.drop p) f i out).map fun x => (x.1, p + x.2) := by
  intro f
  induction f with
  | zero => intro i out; rfl
  | succ f ih =>
    intro i out
    rw [quo, quo, List.getElem?_drop, List.getElem?_drop, ← Nat.add_assoc]
    cases hc : l[p + i]? with
    | none => rfl
    | some c =>
      simp only
      rw [show p + i + 2 = p + (i + 2) by omega, show p + i + 1 = p + (i + 1) by omega, ih, ih]
      split
      · split
        · rfl
        · rfl
      · split
        · rfl
        · rfl
theorem quoted_rest (l : List UInt8) (p i : Nat) (hp : p ≤ l.length) : quoted l (p + i) = shift p (quoted (l.drop p) i) := by
  unfold quoted
  rw [quo_fuel l (l.length + 1) ((l.drop p).length + 1) (p + i + 1) [] (by omega) (by rw [List.length_drop]; omega), Nat.add_assoc, quo_rest]
  cases quo (l.drop p) ((l.drop p).length + 1) (i + 1) [] with
  | none => rfl
  | some r =>
    obtain ⟨o, e⟩ := r
    simp only [Option.map_some]
    split
    · rfl
    · rfl
theorem selGo_fuel (l : List UInt8) : ∀ (f g e : Nat), l.length < f + e → l.length < g + e → selGo l f e = selGo l g e := by
  have far : ∀ e f, l.length ≤ e → selGo l f e = e := by
    intro e f h
    refine selGo_stop l f e ?_
    rw [run_stop l e (fun hi => by omega)]; omega
  intro f
  induction f with
  | zero => intro g e h1 h2; rw [far e 0 (by omega), far e g (by omega)]
  | succ f ih =>
    intro g e h1 h2
    match g with
    | 0 => rw [far e 0 (by omega), far e (f + 1) (by omega)]
    | g + 1 =>
      rw [selGo, selGo]
      by_cases h : e < run l e ∧ colon l (run l e) = true
      · rw [if_pos h, if_pos h, ih g _ (by omega) (by omega)]
      · rw [if_neg h, if_neg h]
theorem selGo_rest (l : List UInt8) (p : Nat) : ∀ (f e : Nat), selGo l f (p + e) = p + selGo (l.drop p) f e := by
  intro f
  induction f with
  | zero => intro e; rfl
  | succ f ih =>
    intro e
    rw [selGo, selGo, run_rest, colon_rest]
    by_cases h : e < run (l.drop p) e ∧ colon (l.drop p) (run (l.drop p) e) = true
    · rw [if_pos (⟨by omega, h.2⟩ : p + e < p + run (l.drop p) e ∧ _), if_pos h, Nat.add_assoc, ih]
    · rw [if_neg (fun h' => h ⟨by omega, h'.2⟩), if_neg h]
theorem selEnd_rest (l : List UInt8) (p i : Nat) (hp : p ≤ l.length) : selEnd l (p + i) = p + selEnd (l.drop p) i := by
  unfold selEnd
  rw [run_rest, colon_rest]
  split
  · rw [selGo_fuel l (l.length + 1) ((l.drop p).length + 1) (p + run (l.drop p) i + 1) (by omega) (by rw [List.length_drop]; omega), Nat.add_assoc, selGo_rest]
  · rfl
theorem selectorAt_rest (s : ByteArray) (p i : Nat) (hp : p ≤ s.size) : selectorAt s (p + i) = shift p (selectorAt (rest s p) i) := by
  unfold selectorAt shift
  simp only [rest_data, starts_rest s p i _ hp, letterAt_rest, selEnd_rest s.data.toList p i (by rw [len_list]; exact hp), extract_rest]
  split
  · simp only [Option.map_some, Nat.add_assoc]
  · split
    · rfl
    · split
      · rfl
      · rfl
theorem next_rest (s : ByteArray) (p : Nat) (c : UInt8) (hp : p ≤ s.size) : next s p c = shift p (next (rest s p) 0 c) := by
  have e1 := name_rest s p 0
  have e2 := number_rest s.data.toList p 0
  have e3 := quoted_rest s.data.toList p 0 (by rw [len_list]; exact hp)
  have e4 := selectorAt_rest s p 1 hp
  have e5 := fun xs => starts_rest s p 0 xs hp
  simp only [Nat.add_zero] at e1 e2 e3 e5
  unfold next
  rw [e1, e2, e3, e4, e5, e5, rest_data]
  split
  · rfl
  · split
    · rfl
    · split
      · rfl
      · split
        · rfl
        · split
          · unfold shift; simp only [Option.map_some, Nat.zero_add]
          · split
            · unfold shift; simp only [Option.map_some, Nat.zero_add]
            · rfl
theorem toks_fuel (s : ByteArray) : ∀ (f g p : Nat) (acc : List T), p ≤ s.size → s.size < f + p → s.size < g + p → toks s f p acc = toks s g p acc := by
  have hls := len_list s
  intro f
  induction f with
  | zero => intro g p acc h0 h1 h2; omega
  | succ f ih =>
    intro g p acc h0 h1 h2
    match g, h2 with
    | 0, h2 => omega
    | g + 1, h2 =>
      rw [toks, toks]
      by_cases hi : p < s.data.toList.length
      · rw [List.getElem?_eq_getElem hi]
        simp only
        rw [ih g (p + 1) acc (by omega) (by omega) (by omega)]
        by_cases hq : qend s.data.toList (p + 1) < s.data.toList.length
        · have hge : p + 1 ≤ qend s.data.toList (p + 1) := by unfold qend; omega
          rw [ih g (qend s.data.toList (p + 1) + 1) acc (by omega) (by omega) (by omega)]
          split
          · rfl
          · split
            · rfl
            · cases hn : next s p s.data.toList[p] with
              | none => rfl
              | some r =>
                obtain ⟨t, e⟩ := r
                have := next_step s p hi t e hn
                simp only
                rw [ih g e (acc ++ [t]) (by omega) (by omega) (by omega)]
        · rw [if_neg hq, if_neg hq]
          split
          · rfl
          · split
            · rfl
            · cases hn : next s p s.data.toList[p] with
              | none => rfl
              | some r =>
                obtain ⟨t, e⟩ := r
                have := next_step s p hi t e hn
                simp only
                rw [ih g e (acc ++ [t]) (by omega) (by omega) (by omega)]
      · rw [List.getElem?_eq_none (by omega)]
def from_ (s : ByteArray) (p : Nat) (acc : List T) : Option (List T) := toks s (s.size + 1) p acc
theorem from_toks (s : ByteArray) (f p : Nat) (acc : List T) (hp : p ≤ s.size) (hf : s.size < f + p) : toks s f p acc = from_ s p acc := toks_fuel s f (s.size + 1) p acc hp hf (by omega)
theorem from_end (s : ByteArray) (p : Nat) (acc : List T) (h : ¬ p < s.size) : from_ s p acc = some acc := toks_end s s.size p acc (by rw [len_list]; exact h)
theorem from_skip (s : ByteArray) (p : Nat) (acc : List T) (h : p < s.data.toList.length) (hc : s.data.toList[p] = 32 ∨ s.data.toList[p] = 10 ∨ s.data.toList[p] = 9) : from_ s p acc = from_ s (p + 1) acc := by
  have := len_list s
  rw [← from_toks s s.size (p + 1) acc (by omega) (by omega)]
  exact toks_skip s s.size p acc h hc
theorem from_open (s : ByteArray) (p : Nat) (acc : List T) (h : p < s.data.toList.length) (hc : s.data.toList[p] = 34) (hq : ¬ qend s.data.toList (p + 1) < s.data.toList.length) : from_ s p acc = none := toks_open s s.size p acc h hc hq
theorem from_comment (s : ByteArray) (p q : Nat) (acc : List T) (h : p < s.data.toList.length) (hc : s.data.toList[p] = 34) (hq : qend s.data.toList (p + 1) = q) (hl : q < s.data.toList.length) : from_ s p acc = from_ s (q + 1) acc := by
  have h1 := len_list s
  have h2 : p + 1 ≤ q := by rw [← hq]; unfold qend; omega
  rw [← from_toks s s.size (q + 1) acc (by omega) (by omega)]
  exact toks_comment s s.size p q acc h hc hq hl
theorem from_none (s : ByteArray) (p : Nat) (acc : List T) (h : p < s.data.toList.length) (hc : ¬ (s.data.toList[p] = 32 ∨ s.data.toList[p] = 10 ∨ s.data.toList[p] = 9)) (hq : ¬ s.data.toList[p] = 34) (hn : next s p s.data.toList[p] = none) : from_ s p acc = none := toks_none s s.size p acc h hc hq hn
theorem from_full (s : ByteArray) (p : Nat) (acc : List T) (h : p < s.data.toList.length) (hc : ¬ (s.data.toList[p] = 32 ∨ s.data.toList[p] = 10 ∨ s.data.toList[p] = 9)) (hq : ¬ s.data.toList[p] = 34) (t : T) (e : Nat) (hn : next s p s.data.toList[p] = some (t, e)) (h8 : 800 ≤ acc.length) : from_ s p acc = none := toks_full s s.size p acc h hc hq t e hn h8
theorem from_more (s : ByteArray) (p : Nat) (acc : List T) (h : p < s.data.toList.length) (hc : ¬ (s.data.toList[p] = 32 ∨ s.data.toList[p] = 10 ∨ s.data.toList[p] = 9)) (hq : ¬ s.data.toList[p] = 34) (t : T) (e : Nat) (hn : next s p s.data.toList[p] = some (t, e)) (h8 : ¬ 800 ≤ acc.length) : from_ s p acc = from_ s e (acc ++ [t]) := by
  have h1 := len_list s
  have h2 := next_step s p h t e hn
  rw [← from_toks s s.size e (acc ++ [t]) (by omega) (by omega)]
  exact toks_more s s.size p acc h hc hq t e hn h8
end Go.Proofs.YtamjfbjkdicmcaaGreatDoor.Tok
