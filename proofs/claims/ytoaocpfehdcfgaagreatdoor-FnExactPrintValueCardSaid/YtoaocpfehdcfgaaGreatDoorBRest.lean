/-
  Plain mathematics: letters, digits, words, names, and lists of texts in which one is looked for. Nothing of the program is named here.
  Plain mathematics: a token that is read ends behind its place and within the text, and is of a kind. Nothing of the program is named here.
  Plain mathematics: what stands in a text from a place on, read as a text of its own. Nothing of the program is named here.
-/
import Derived.Test.YtoaocpfehdcfgaaGreatDoorBNum
import Derived.Test.YtoaocpfehdcfgaaGreatDoorBSpecSplit
import Derived.Laws.Strings
import Derived.Lib.Strings
namespace Go.Proofs.YtoaocpfehdcfgaaGreatDoor.Tok
def letter (c : UInt8) : Bool := (decide (97 ≤ c.toNat) && decide (c.toNat ≤ 122)) || (decide (65 ≤ c.toNat) && decide (c.toNat ≤ 90))
def digit (c : UInt8) : Bool := decide (48 ≤ c.toNat) && decide (c.toNat ≤ 57)
def alnum (c : UInt8) : Bool := letter c || digit c
def words : List ByteArray := [⟨#[99, 108, 97, 115, 115]⟩, ⟨#[101, 120, 116, 101, 110, 100, 115]⟩, ⟨#[102, 105, 101, 108, 100, 115]⟩, ⟨#[109, 101, 116, 104, 111, 100]⟩, ⟨#[99, 108, 97, 115, 115, 109, 101, 116, 104, 111, 100]⟩, ⟨#[101, 110, 100]⟩, ⟨#[109, 97, 105, 110]⟩]
def binaries : List ByteArray := [⟨#[47, 47]⟩, ⟨#[92, 92]⟩, ⟨#[60, 61]⟩, ⟨#[62, 61]⟩, ⟨#[61, 61]⟩, ⟨#[126, 61]⟩, ⟨#[126, 126]⟩, ⟨#[43]⟩, ⟨#[45]⟩, ⟨#[42]⟩, ⟨#[60]⟩, ⟨#[62]⟩, ⟨#[61]⟩, ⟨#[44]⟩, ⟨#[38]⟩]
def marks : List ByteArray := [⟨#[58, 61]⟩, ⟨#[94]⟩, ⟨#[46]⟩, ⟨#[59]⟩, ⟨#[91]⟩, ⟨#[93]⟩, ⟨#[40]⟩, ⟨#[41]⟩, ⟨#[124]⟩, ⟨#[58]⟩]
def has (xs : List ByteArray) (s : ByteArray) : Bool := xs.any fun x => x.toList == s.toList
theorem has_at (xs : List ByteArray) (s : ByteArray) (i : Nat) (h : i < xs.length) (he : (xs[i].toList == s.toList) = true) : has xs s = true := by
  unfold has; rw [List.any_eq_true]; exact ⟨xs[i], List.getElem_mem h, he⟩
theorem has_not (xs : List ByteArray) (s : ByteArray) (h : ∀ i (hi : i < xs.length), (xs[i].toList == s.toList) = false) : has xs s = false := by
  unfold has; rw [List.any_eq_false]
  intro x hx
  obtain ⟨i, hi, rfl⟩ := List.mem_iff_getElem.1 hx
  rw [h i hi]; exact Bool.false_ne_true
def run (l : List UInt8) (i : Nat) : Nat := i + ((l.drop i).takeWhile alnum).length
theorem run_stop (l : List UInt8) (i : Nat) (h : ∀ (hi : i < l.length), alnum l[i] = false) : run l i = i := by
  unfold run
  by_cases hi : i < l.length
  · rw [List.drop_eq_getElem_cons hi, List.takeWhile_cons, h hi]; rfl
  · rw [List.drop_of_length_le (by omega)]; rfl
theorem run_go (l : List UInt8) (i : Nat) (hi : i < l.length) (h : alnum l[i] = true) : run l i = run l (i + 1) := by
  unfold run
  rw [List.drop_eq_getElem_cons hi, List.takeWhile_cons, h]
  simp; omega
theorem run_le (l : List UInt8) (i : Nat) (hi : i ≤ l.length) : i ≤ run l i ∧ run l i ≤ l.length := by
  unfold run
  have := List.takeWhile_prefix (p := alnum) (l := l.drop i)
  have := this.length_le
  simp at this; omega
def colon (l : List UInt8) (i : Nat) : Bool := (l[i]? == some 58) && !(l[i + 1]? == some 61)
theorem colon_lt (l : List UInt8) (i : Nat) (h : colon l i = true) : i < l.length := by
  unfold colon at h
  rcases Nat.lt_or_ge i l.length with h1 | h1
  · exact h1
  · rw [List.getElem?_eq_none h1] at h; simp at h
def name20 (l : List UInt8) : Bool := decide (1 ≤ l.length) && decide (l.length ≤ 20) && (match l with | c :: _ => letter c | [] => false) && decide (run l 0 = l.length)
def isName (s : ByteArray) : Bool := name20 s.data.toList && !has words s
def keys (ps : List ByteArray) : Bool := (ps.getLast?.getD ByteArray.empty).toList.isEmpty && ps.dropLast.all (fun p => name20 p.data.toList) && decide (ps.length ≤ 5)
def sel (s : ByteArray) : Bool := has binaries s || (if 1 < (Cuts.parts s 58).length then keys (Cuts.parts s 58) else isName s)
def countArgs (s : ByteArray) : Int := if sel s then (if has binaries s then 1 else ((Cuts.parts s 58).length : Int) - 1) else -1
theorem parts_one (s : ByteArray) (b : Int) (h : (Cuts.parts s b).length = 1) : Cuts.parts s b = [s] := by
  have hl : (Cuts.cuts s b s.size).1 = [] := by
    unfold Cuts.parts at h
    simp at h; exact h
  have h0 : ∀ i, (Cuts.cuts s b i).1 = [] → (Cuts.cuts s b i).2 = 0 := by
    intro i
    induction i with
    | zero => intro _; rfl
    | succ i ih =>
      rw [Cuts.cuts]
      split
      · split
        · intro h; simp at h
        · exact ih
      · exact ih
  unfold Cuts.parts
  rw [hl, h0 s.size hl, List.nil_append]
  congr 1
  apply ByteArray.ext
  rw [ByteArray.data_extract]
  exact Array.extract_size
theorem getLast_at (ps : List ByteArray) (n : Nat) (hn : ps.length = n) (h : 0 < n) : (ps.getLast?.getD ByteArray.empty) = ps.getD (n - 1) ByteArray.empty := by
  subst hn
  rw [List.getLast?_eq_getElem?, List.getD]
theorem all_not (ps : List ByteArray) (f : ByteArray → Bool) (i : Nat) (h : i < ps.length) (hf : f ps[i] = false) : ps.all f = false := by
  rw [List.all_eq_false]; exact ⟨ps[i], List.getElem_mem h, by rw [hf]; exact Bool.false_ne_true⟩
theorem all_yes (ps : List ByteArray) (f : ByteArray → Bool) (h : ∀ i (hi : i < ps.length), f ps[i] = true) : ps.all f = true := by
  rw [List.all_eq_true]
  intro x hx
  obtain ⟨i, hi, rfl⟩ := List.mem_iff_getElem.1 hx
  exact h i hi
theorem drop_at (ps : List ByteArray) (i : Nat) (h : i < ps.length - 1) : ∃ h' : i < ps.dropLast.length, ps.dropLast[i]'h' = ps[i]'(by omega) :=
  ⟨by rw [List.length_dropLast]; exact h, List.getElem_dropLast _⟩
theorem keys_no (ps : List ByteArray) (i : Nat) (h : i < ps.length - 1) (hf : name20 (ps[i]'(by omega)).data.toList = false) : keys ps = false := by
  obtain ⟨h', e⟩ := drop_at ps i h
  unfold keys
  rw [all_not ps.dropLast (fun p => name20 p.data.toList) i h' (by rw [e]; exact hf)]
  simp
theorem keys_yes (ps : List ByteArray) (he : (ps.getLast?.getD ByteArray.empty).toList.isEmpty = true) (h : ∀ i (hi : i < ps.length - 1), name20 (ps[i]'(by omega)).data.toList = true) : keys ps = decide (ps.length ≤ 5) := by
  unfold keys
  rw [he, all_yes ps.dropLast (fun p => name20 p.data.toList) (fun i hi => by
    have hi' : i < ps.length - 1 := by rw [List.length_dropLast] at hi; exact hi
    obtain ⟨_, e⟩ := drop_at ps i hi'
    rw [e]; exact h i hi')]
  rfl
def esc : List UInt8 → List UInt8
  | [] => []
  | c :: l => (if c = 39 then [39, 39] else [c]) ++ esc l
theorem esc_snoc (l : List UInt8) (c : UInt8) : esc (l ++ [c]) = esc l ++ (if c = 39 then [39, 39] else [c]) := by
  induction l with
  | nil => simp [esc]
  | cons d l ih => rw [List.cons_append, esc, ih, esc, List.append_assoc]
theorem esc_len (l : List UInt8) : (esc l).length ≤ 2 * l.length := by
  induction l with
  | nil => simp [esc]
  | cons c l ih =>
    rw [esc, List.length_append, List.length_cons]
    split <;> simp <;> omega
theorem esc_take (l : List UInt8) (i : Nat) (h : i < l.length) : esc (l.take (i + 1)) = esc (l.take i) ++ (if l[i] = 39 then [39, 39] else [l[i]]) := by
  rw [List.take_succ_eq_append_getElem h, esc_snoc]
def fmt (k : Int) (t : List UInt8) (n : Int) : List UInt8 := if k = 3 then Num.intText n else if k = 4 then 39 :: esc t ++ [39] else if k = 5 then 35 :: t else t
def begins (s : ByteArray) (i : Nat) (x : ByteArray) : Bool := decide (i + x.size ≤ s.size) && ((s.extract i (i + x.size)).toList == x.toList)
def starts (s : ByteArray) (i : Nat) (xs : List ByteArray) : ByteArray := (xs.find? (begins s i)).getD ByteArray.empty
theorem starts_at (s : ByteArray) (i : Nat) (xs : List ByteArray) (k : Nat) (h : k < xs.length) (hb : begins s i xs[k] = true) (hno : ∀ j (hj : j < xs.length), j < k → begins s i xs[j] = false) : starts s i xs = xs[k] := by
  unfold starts
  have : xs.find? (begins s i) = some xs[k] := by
    rw [List.find?_eq_some_iff_getElem]
    exact ⟨hb, k, h, rfl, fun j hj => by simp [hno j (by omega) hj]⟩
  rw [this]; rfl
theorem starts_not (s : ByteArray) (i : Nat) (xs : List ByteArray) (hno : ∀ j (hj : j < xs.length), begins s i xs[j] = false) : starts s i xs = ByteArray.empty := by
  unfold starts
  have : xs.find? (begins s i) = none := by
    rw [List.find?_eq_none]
    intro x hx
    obtain ⟨j, hj, rfl⟩ := List.mem_iff_getElem.1 hx
    rw [hno j hj]; exact Bool.false_ne_true
  rw [this]; rfl
theorem starts_size (s : ByteArray) (i : Nat) (xs : List ByteArray) (n : Nat) (h : ∀ x ∈ xs, x.size ≤ n) : (starts s i xs).size ≤ n := by
  unfold starts
  cases hf : xs.find? (begins s i) with
  | none => exact Nat.zero_le _
  | some x => exact h x (List.mem_of_find?_eq_some hf)
structure T where
  kind : Int
  text : ByteArray
  num : Int
def drun (l : List UInt8) (i : Nat) : Nat := i + ((l.drop i).takeWhile digit).length
theorem drun_stop (l : List UInt8) (i : Nat) (h : ∀ (hi : i < l.length), digit l[i] = false) : drun l i = i := by
  unfold drun
  by_cases hi : i < l.length
  · rw [List.drop_eq_getElem_cons hi, List.takeWhile_cons, h hi]; rfl
  · rw [List.drop_of_length_le (by omega)]; rfl
theorem drun_go (l : List UInt8) (i : Nat) (hi : i < l.length) (h : digit l[i] = true) : drun l i = drun l (i + 1) := by
  unfold drun
  rw [List.drop_eq_getElem_cons hi, List.takeWhile_cons, h]
  simp; omega
theorem drun_ge (l : List UInt8) (i : Nat) : i ≤ drun l i := by unfold drun; omega
def dval (l : List UInt8) : Nat := l.foldl (fun a c => 10 * a + (c.toNat - 48)) 0
theorem dval_snoc (l : List UInt8) (c : UInt8) : dval (l ++ [c]) = 10 * dval l + (c.toNat - 48) := by simp [dval]
def letterAt (l : List UInt8) (i : Nat) : Bool := match l[i]? with | some c => letter c | none => false
def number (l : List UInt8) (i : Nat) : Option (T × Nat) :=
  if 9 < drun l i - i then none else if letterAt l (drun l i) = true then none else some (⟨3, ByteArray.empty, dval ((l.drop i).take (drun l i - i))⟩, drun l i)
def nameAt (s : ByteArray) (i : Nat) : Option (T × Nat) :=
  let e := run s.data.toList i
  let x := s.extract i e
  if 20 < e - i then none
  else if colon s.data.toList e = true then some (⟨2, x ++ ⟨#[58]⟩, 0⟩, e + 1)
  else some (⟨if has words x = true then 8 else 1, x, 0⟩, e)
theorem take_more (l : List UInt8) (p i : Nat) (hp : p ≤ i) (h : i < l.length) : (l.drop p).take (i + 1 - p) = (l.drop p).take (i - p) ++ [l[i]] := by
  have h1 : i - p < (l.drop p).length := by rw [List.length_drop]; omega
  rw [show i + 1 - p = (i - p) + 1 by omega, List.take_succ_eq_append_getElem h1, List.getElem_drop]
  congr 2
  simp [show p + (i - p) = i by omega]
theorem number_long (l : List UInt8) (p : Nat) (h : 9 < drun l p - p) : number l p = none := by unfold number; rw [if_pos h]
theorem number_letter (l : List UInt8) (p i : Nat) (h : drun l p = i) (hl : letterAt l i = true) : number l p = none := by unfold number; rw [h, if_pos hl]; split <;> rfl
theorem number_is (l : List UInt8) (p i : Nat) (h : drun l p = i) (h9 : ¬ 9 < i - p) (hl : letterAt l i = false) : number l p = some (⟨3, ByteArray.empty, dval ((l.drop p).take (i - p))⟩, i) := by
  unfold number; rw [h, if_neg h9, hl]; rfl
def quo (l : List UInt8) : Nat → Nat → List UInt8 → Option (List UInt8 × Nat)
  | 0, _, _ => none
  | f + 1, i, out =>
    match l[i]? with
    | none => none
    | some c => if c = 39 then (if l[i + 1]? = some 39 then quo l f (i + 2) (out ++ [39]) else some (out, i + 1)) else if 32 ≤ c.toNat ∧ c.toNat ≤ 126 then quo l f (i + 1) (out ++ [c]) else none
def quoted (l : List UInt8) (p : Nat) : Option (T × Nat) :=
  match quo l (l.length + 1) (p + 1) [] with
  | some (out, e) => if out.length ≤ 40 then some (⟨4, ⟨out.toArray⟩, 0⟩, e) else none
  | none => none
theorem quo_end (l : List UInt8) (f i : Nat) (out : List UInt8) (h : ¬ i < l.length) : quo l f i out = none := by
  cases f with
  | zero => rfl
  | succ f => rw [quo, List.getElem?_eq_none (by omega)]
theorem quo_two (l : List UInt8) (f i : Nat) (out : List UInt8) (h : i < l.length) (hc : l[i] = 39) (h2 : l[i + 1]? = some 39) : quo l (f + 1) i out = quo l f (i + 2) (out ++ [39]) := by
  rw [quo, List.getElem?_eq_getElem h]; simp only [hc, if_true, h2]
theorem quo_one (l : List UInt8) (f i : Nat) (out : List UInt8) (h : i < l.length) (hc : l[i] = 39) (h2 : ¬ l[i + 1]? = some 39) : quo l (f + 1) i out = some (out, i + 1) := by
  rw [quo, List.getElem?_eq_getElem h]; simp only [hc, if_true, if_neg h2]
theorem quo_go (l : List UInt8) (f i : Nat) (out : List UInt8) (h : i < l.length) (hc : ¬ l[i] = 39) (h2 : 32 ≤ l[i].toNat ∧ l[i].toNat ≤ 126) : quo l (f + 1) i out = quo l f (i + 1) (out ++ [l[i]]) := by
  rw [quo, List.getElem?_eq_getElem h]; simp only [if_neg hc, if_pos h2]
theorem quo_bad (l : List UInt8) (f i : Nat) (out : List UInt8) (h : i < l.length) (hc : ¬ l[i] = 39) (h2 : ¬ (32 ≤ l[i].toNat ∧ l[i].toNat ≤ 126)) : quo l (f + 1) i out = none := by
  rw [quo, List.getElem?_eq_getElem h]; simp only [if_neg hc, if_neg h2]
theorem quoted_none (l : List UInt8) (p : Nat) (h : quo l (l.length + 1) (p + 1) [] = none) : quoted l p = none := by unfold quoted; rw [h]
theorem quoted_some (l : List UInt8) (p e : Nat) (out : List UInt8) (h : quo l (l.length + 1) (p + 1) [] = some (out, e)) : quoted l p = if out.length ≤ 40 then some (⟨4, ⟨out.toArray⟩, 0⟩, e) else none := by unfold quoted; rw [h]
def selGo (l : List UInt8) : Nat → Nat → Nat
  | 0, e => e
  | f + 1, e => if e < run l e ∧ colon l (run l e) = true then selGo l f (run l e + 1) else e
theorem selGo_stop (l : List UInt8) (f e : Nat) (h : ¬ (e < run l e ∧ colon l (run l e) = true)) : selGo l f e = e := by
  cases f with
  | zero => rfl
  | succ f => rw [selGo, if_neg h]
theorem selGo_go (l : List UInt8) (f e : Nat) (h : e < run l e ∧ colon l (run l e) = true) : selGo l (f + 1) e = selGo l f (run l e + 1) := by rw [selGo, if_pos h]
def selEnd (l : List UInt8) (p : Nat) : Nat := if colon l (run l p) = true then selGo l (l.length + 1) (run l p + 1) else run l p
def selectorAt (s : ByteArray) (p : Nat) : Option (T × Nat) :=
  let op := starts s p binaries
  if op.toList.isEmpty = false then some (⟨5, op, 0⟩, p + op.size)
  else if letterAt s.data.toList p = false then none
  else
    let x := s.extract p (selEnd s.data.toList p)
    if sel x = true then some (⟨5, x, 0⟩, selEnd s.data.toList p) else none
theorem selectorAt_op (s : ByteArray) (p : Nat) (h : (starts s p binaries).toList.isEmpty = false) : selectorAt s p = some (⟨5, starts s p binaries, 0⟩, p + (starts s p binaries).size) := by unfold selectorAt; simp only [h, if_true]
theorem selectorAt_no (s : ByteArray) (p : Nat) (h : (starts s p binaries).toList.isEmpty = true) (hl : letterAt s.data.toList p = false) : selectorAt s p = none := by unfold selectorAt; simp only [h, hl, if_true]; rfl
theorem selectorAt_x (s : ByteArray) (p e : Nat) (h : (starts s p binaries).toList.isEmpty = true) (hl : letterAt s.data.toList p = true) (he : selEnd s.data.toList p = e) : selectorAt s p = if sel (s.extract p e) = true then some (⟨5, s.extract p e, 0⟩, e) else none := by
  unfold selectorAt; simp only [h, hl, he]; rfl
def next (s : ByteArray) (p : Nat) (c : UInt8) : Option (T × Nat) :=
  if letter c = true then nameAt s p
  else if digit c = true then number s.data.toList p
  else if c = 39 then quoted s.data.toList p
  else if c = 35 then selectorAt s (p + 1)
  else if (starts s p binaries).toList.isEmpty = false then some (⟨6, starts s p binaries, 0⟩, p + (starts s p binaries).size)
  else if (starts s p marks).toList.isEmpty = false then some (⟨7, starts s p marks, 0⟩, p + (starts s p marks).size)
  else none
end Go.Proofs.YtoaocpfehdcfgaaGreatDoor.Tok

namespace Go.Proofs.YtoaocpfehdcfgaaGreatDoor.Tok
theorem run_gt (l : List UInt8) (p : Nat) (h : p < l.length) (ha : alnum l[p] = true) : p < run l p ∧ run l p ≤ l.length := by
  rw [run_go l p h ha]
  have := run_le l (p + 1) (by omega)
  omega
theorem drun_le (l : List UInt8) (i : Nat) (hi : i ≤ l.length) : drun l i ≤ l.length := by
  unfold drun
  have := (List.takeWhile_prefix (p := digit) (l := l.drop i)).length_le
  simp at this; omega
theorem len_list (s : ByteArray) : s.data.toList.length = s.size := by rw [Array.length_toList]; rfl
theorem name_step (s : ByteArray) (p : Nat) (h : p < s.data.toList.length) (hl : letter s.data.toList[p] = true) (t : T) (e : Nat) (hn : nameAt s p = some (t, e)) : p < e ∧ e ≤ s.size ∧ t.kind ≠ 0 := by
  have hr := run_gt s.data.toList p h (by unfold alnum; rw [hl]; rfl)
  have hls := len_list s
  unfold nameAt at hn
  simp only at hn
  split at hn
  · cases hn
  · split at hn
    · next hc =>
      have := colon_lt _ _ hc
      simp only [Option.some.injEq, Prod.mk.injEq] at hn
      obtain ⟨rfl, rfl⟩ := hn
      exact ⟨by omega, by omega, (by decide : (2 : Int) ≠ 0)⟩
    · simp only [Option.some.injEq, Prod.mk.injEq] at hn
      obtain ⟨rfl, rfl⟩ := hn
      refine ⟨by omega, by omega, ?_⟩
      show (if _ then (8 : Int) else 1) ≠ 0
      split <;> decide
theorem number_step (l : List UInt8) (p : Nat) (h : p < l.length) (hd : digit l[p] = true) (t : T) (e : Nat) (hn : number l p = some (t, e)) : p < e ∧ e ≤ l.length ∧ t.kind ≠ 0 := by
  have h1 := drun_go l p h hd
  have h2 := drun_ge l (p + 1)
  have h3 := drun_le l p (by omega)
  unfold number at hn
  split at hn
  · cases hn
  · split at hn
    · cases hn
    · simp only [Option.some.injEq, Prod.mk.injEq] at hn
      obtain ⟨rfl, rfl⟩ := hn
      exact ⟨by omega, h3, (by decide : (3 : Int) ≠ 0)⟩
theorem quo_step (l : List UInt8) (f : Nat) : ∀ i out o e, quo l f i out = some (o, e) → i < e ∧ e ≤ l.length := by
  induction f with
  | zero => intro i out o e h; cases h
  | succ f ih =>
    intro i out o e h
    rw [quo] at h
    by_cases hi : i < l.length
    · rw [List.getElem?_eq_getElem hi] at h
      simp only at h
      split at h
      · split at h
        · have := ih _ _ _ _ h; omega
        · simp only [Option.some.injEq, Prod.mk.injEq] at h; omega
      · split at h
        · have := ih _ _ _ _ h; omega
        · cases h
    · rw [List.getElem?_eq_none (by omega)] at h; cases h
theorem quoted_step (l : List UInt8) (p : Nat) (t : T) (e : Nat) (hn : quoted l p = some (t, e)) : p < e ∧ e ≤ l.length ∧ t.kind ≠ 0 := by
  unfold quoted at hn
  cases hq : quo l (l.length + 1) (p + 1) [] with
  | none => rw [hq] at hn; cases hn
  | some r =>
    obtain ⟨o, e'⟩ := r
    have := quo_step l _ _ _ _ _ hq
    rw [hq] at hn
    simp only at hn
    split at hn
    · simp only [Option.some.injEq, Prod.mk.injEq] at hn
      obtain ⟨rfl, rfl⟩ := hn
      exact ⟨by omega, by omega, (by decide : (4 : Int) ≠ 0)⟩
    · cases hn
theorem selGo_le (l : List UInt8) (f : Nat) : ∀ e, e ≤ l.length → e ≤ selGo l f e ∧ selGo l f e ≤ l.length := by
  induction f with
  | zero => intro e h; exact ⟨Nat.le_refl _, h⟩
  | succ f ih =>
    intro e h
    rw [selGo]
    split
    · next hc =>
      have := colon_lt _ _ hc.2
      have := ih (run l e + 1) (by omega)
      omega
    · omega
theorem starts_pos (s : ByteArray) (p : Nat) (xs : List ByteArray) (h : (starts s p xs).toList.isEmpty = false) : 0 < (starts s p xs).size ∧ p + (starts s p xs).size ≤ s.size := by
  unfold starts at *
  cases hf : xs.find? (begins s p) with
  | none => rw [hf, ByteArray.toList_eq] at h; exact absurd h (by decide)
  | some x =>
    rw [hf] at h
    have hb := List.find?_some hf
    unfold begins at hb
    rw [Bool.and_eq_true, decide_eq_true_eq] at hb
    refine ⟨?_, hb.1⟩
    show 0 < x.size
    rcases Nat.eq_zero_or_pos x.size with h0 | h0
    · have h1 : x.data.toList = [] := List.eq_nil_of_length_eq_zero (by rw [len_list]; exact h0)
      have h2 : x.toList = [] := by rw [ByteArray.toList_eq, h1]
      simp only [Option.getD_some, h2] at h
      exact absurd h (by decide)
    · exact h0
theorem selector_step (s : ByteArray) (p : Nat) (t : T) (e : Nat) (hn : selectorAt s p = some (t, e)) : p < e ∧ e ≤ s.size ∧ t.kind ≠ 0 := by
  have hls := len_list s
  unfold selectorAt at hn
  simp only at hn
  split at hn
  · next h0 =>
    have := starts_pos s p binaries h0
    simp only [Option.some.injEq, Prod.mk.injEq] at hn
    obtain ⟨rfl, rfl⟩ := hn
    exact ⟨by omega, by omega, (by decide : (5 : Int) ≠ 0)⟩
  · split at hn
    · cases hn
    · next hla =>
      split at hn
      · simp only [Option.some.injEq, Prod.mk.injEq] at hn
        obtain ⟨rfl, rfl⟩ := hn
        have hlt : p < s.data.toList.length := by
          rcases Nat.lt_or_ge p s.data.toList.length with h1 | h1
          · exact h1
          · exact absurd (by unfold letterAt; rw [List.getElem?_eq_none h1]) hla
        have hl : letter s.data.toList[p] = true := by
          unfold letterAt at hla
          rw [List.getElem?_eq_getElem hlt] at hla
          simpa using hla
        have hr := run_gt s.data.toList p hlt (by unfold alnum; rw [hl]; rfl)
        refine ⟨?_, ?_, (by decide : (5 : Int) ≠ 0)⟩
        · unfold selEnd
          split
          · next hc =>
            have := selGo_le s.data.toList (s.data.toList.length + 1) (run s.data.toList p + 1) (by have := colon_lt _ _ hc; omega)
            omega
          · exact hr.1
        · unfold selEnd
          split
          · next hc =>
            have := selGo_le s.data.toList (s.data.toList.length + 1) (run s.data.toList p + 1) (by have := colon_lt _ _ hc; omega)
            omega
          · omega
      · cases hn
theorem next_step (s : ByteArray) (p : Nat) (h : p < s.data.toList.length) (t : T) (e : Nat) (hn : next s p s.data.toList[p] = some (t, e)) : p < e ∧ e ≤ s.size ∧ t.kind ≠ 0 := by
  have hls := len_list s
  unfold next at hn
  split at hn
  · next hl => exact name_step s p h hl t e hn
  · split at hn
    · next hd => have := number_step _ p h hd t e hn; omega
    · split at hn
      · have := quoted_step _ p t e hn; omega
      · split at hn
        · have := selector_step s (p + 1) t e hn; omega
        · split at hn
          · next h0 =>
            have := starts_pos s p binaries h0
            simp only [Option.some.injEq, Prod.mk.injEq] at hn
            obtain ⟨rfl, rfl⟩ := hn
            exact ⟨by omega, by omega, (by decide : (6 : Int) ≠ 0)⟩
          · split at hn
            · next h0 =>
              have := starts_pos s p marks h0
              simp only [Option.some.injEq, Prod.mk.injEq] at hn
              obtain ⟨rfl, rfl⟩ := hn
              exact ⟨by omega, by omega, (by decide : (7 : Int) ≠ 0)⟩
            · cases hn
def qend (l : List UInt8) (i : Nat) : Nat := i + ((l.drop i).takeWhile fun c => !(c == 34)).length
theorem qend_stop (l : List UInt8) (i : Nat) (h : ∀ hi : i < l.length, l[i] = 34) : qend l i = i := by
  unfold qend
  by_cases hi : i < l.length
  · rw [List.drop_eq_getElem_cons hi, List.takeWhile_cons, h hi]; rfl
  · rw [List.drop_of_length_le (by omega)]; rfl
theorem qend_go (l : List UInt8) (i : Nat) (hi : i < l.length) (h : ¬ l[i] = 34) : qend l i = qend l (i + 1) := by
  unfold qend
  rw [List.drop_eq_getElem_cons hi, List.takeWhile_cons]
  simp [h]; omega
def toks (s : ByteArray) : Nat → Nat → List T → Option (List T)
  | 0, _, _ => none
  | f + 1, p, acc =>
    match s.data.toList[p]? with
    | none => some acc
    | some c =>
      if c = 32 ∨ c = 10 ∨ c = 9 then toks s f (p + 1) acc
      else if c = 34 then (if qend s.data.toList (p + 1) < s.data.toList.length then toks s f (qend s.data.toList (p + 1) + 1) acc else none)
      else match next s p c with
        | none => none
        | some (t, e) => if 800 ≤ acc.length then none else toks s f e (acc ++ [t])
def tokens (s : ByteArray) : Option (List T) := if 4000 < s.size then none else toks s (s.size + 1) 0 []
theorem toks_end (s : ByteArray) (f p : Nat) (acc : List T) (h : ¬ p < s.data.toList.length) : toks s (f + 1) p acc = some acc := by
  rw [toks, List.getElem?_eq_none (by omega)]
theorem toks_skip (s : ByteArray) (f p : Nat) (acc : List T) (h : p < s.data.toList.length) (hc : s.data.toList[p] = 32 ∨ s.data.toList[p] = 10 ∨ s.data.toList[p] = 9) : toks s (f + 1) p acc = toks s f (p + 1) acc := by
  rw [toks, List.getElem?_eq_getElem h]; simp only [if_pos hc]
theorem toks_open (s : ByteArray) (f p : Nat) (acc : List T) (h : p < s.data.toList.length) (hc : s.data.toList[p] = 34) (hq : ¬ qend s.data.toList (p + 1) < s.data.toList.length) : toks s (f + 1) p acc = none := by
  rw [toks, List.getElem?_eq_getElem h]; simp only [hc, if_neg hq]; rfl
theorem toks_comment (s : ByteArray) (f p q : Nat) (acc : List T) (h : p < s.data.toList.length) (hc : s.data.toList[p] = 34) (hq : qend s.data.toList (p + 1) = q) (hl : q < s.data.toList.length) : toks s (f + 1) p acc = toks s f (q + 1) acc := by
  rw [toks, List.getElem?_eq_getElem h]; simp only [hc, hq, if_pos hl]; rfl
theorem toks_none (s : ByteArray) (f p : Nat) (acc : List T) (h : p < s.data.toList.length) (hc : ¬ (s.data.toList[p] = 32 ∨ s.data.toList[p] = 10 ∨ s.data.toList[p] = 9)) (hq : ¬ s.data.toList[p] = 34) (hn : next s p s.data.toList[p] = none) : toks s (f + 1) p acc = none := by
  rw [toks, List.getElem?_eq_getElem h]; simp only [if_neg hc, if_neg hq, hn]
theorem toks_full (s : ByteArray) (f p : Nat) (acc : List T) (h : p < s.data.toList.length) (hc : ¬ (s.data.toList[p] = 32 ∨ s.data.toList[p] = 10 ∨ s.data.toList[p] = 9)) (hq : ¬ s.data.toList[p] = 34) (t : T) (e : Nat) (hn : next s p s.data.toList[p] = some (t, e)) (h8 : 800 ≤ acc.length) : toks s (f + 1) p acc = none := by
  rw [toks, List.getElem?_eq_getElem h]; simp only [if_neg hc, if_neg hq, hn, if_pos h8]
theorem toks_more (s : ByteArray) (f p : Nat) (acc : List T) (h : p < s.data.toList.length) (hc : ¬ (s.data.toList[p] = 32 ∨ s.data.toList[p] = 10 ∨ s.data.toList[p] = 9)) (hq : ¬ s.data.toList[p] = 34) (t : T) (e : Nat) (hn : next s p s.data.toList[p] = some (t, e)) (h8 : ¬ 800 ≤ acc.length) : toks s (f + 1) p acc = toks s f e (acc ++ [t]) := by
  rw [toks, List.getElem?_eq_getElem h]; simp only [if_neg hc, if_neg hq, hn, if_neg h8]
theorem tokens_long (s : ByteArray) (h : 4000 < s.size) : tokens s = none := by unfold tokens; rw [if_pos h]
theorem tokens_short (s : ByteArray) (h : ¬ 4000 < s.size) : tokens s = toks s (s.size + 1) 0 [] := by unfold tokens; rw [if_neg h]
end Go.Proofs.YtoaocpfehdcfgaaGreatDoor.Tok

namespace Go.Proofs.YtoaocpfehdcfgaaGreatDoor.Tok
theorem ba_ext {a b : ByteArray} (h : a.data.toList = b.data.toList) : a = b := ByteArray.ext (Array.toList_inj.1 h)
theorem ext_data (s : ByteArray) (a b : Nat) : (s.extract a b).data.toList = (s.data.toList.drop a).take (b - a) := Lib.extract_data s a b
def rest (s : ByteArray) (p : Nat) : ByteArray := s.extract p s.size
theorem rest_data (s : ByteArray) (p : Nat) : (rest s p).data.toList = s.data.toList.drop p := by
  unfold rest
  rw [ext_data]
  exact List.take_of_length_le (by rw [List.length_drop, len_list]; omega)
theorem rest_size (s : ByteArray) (p : Nat) : (rest s p).size = s.size - p := by
  rw [← len_list, rest_data, List.length_drop, len_list]
theorem rest_zero (s : ByteArray) : rest s 0 = s := ba_ext (by rw [rest_data]; rfl)
theorem rest_rest (s : ByteArray) (p q : Nat) : rest (rest s p) q = rest s (p + q) := ba_ext (by rw [rest_data, rest_data, rest_data, List.drop_drop])
theorem extract_rest (s : ByteArray) (p a b : Nat) : (rest s p).extract a b = s.extract (p + a) (p + b) := by
  apply ba_ext
  rw [ext_data, ext_data, rest_data, List.drop_drop, show p + b - (p + a) = b - a by omega]
theorem extract_end (s : ByteArray) (a : Nat) : s.extract a s.size = rest s a := rfl
theorem run_rest (l : List UInt8) (p i : Nat) : run l (p + i) = p + run (l.drop p) i := by
  unfold run; rw [List.drop_drop]; omega
theorem drun_rest (l : List UInt8) (p i : Nat) : drun l (p + i) = p + drun (l.drop p) i := by
  unfold drun; rw [List.drop_drop]; omega
theorem colon_rest (l : List UInt8) (p i : Nat) : colon l (p + i) = colon (l.drop p) i := by
  unfold colon; rw [List.getElem?_drop, List.getElem?_drop, Nat.add_assoc]
theorem letterAt_rest (l : List UInt8) (p i : Nat) : letterAt l (p + i) = letterAt (l.drop p) i := by
  unfold letterAt; rw [List.getElem?_drop]
theorem begins_rest (s : ByteArray) (p i : Nat) (x : ByteArray) (hp : p ≤ s.size) : begins s (p + i) x = begins (rest s p) i x := by
  unfold begins
  rw [extract_rest, rest_size, Nat.add_assoc]
  congr 1
  rw [Bool.eq_iff_iff, decide_eq_true_eq, decide_eq_true_eq]; omega
theorem starts_rest (s : ByteArray) (p i : Nat) (xs : List ByteArray) (hp : p ≤ s.size) : starts s (p + i) xs = starts (rest s p) i xs := by
  unfold starts
  congr 2
  funext x
  exact begins_rest s p i x hp
def shift (p : Nat) (r : Option (T × Nat)) : Option (T × Nat) := r.map fun x => (x.1, p + x.2)
theorem name_rest (s : ByteArray) (p i : Nat) : nameAt s (p + i) = shift p (nameAt (rest s p) i) := by
  unfold nameAt shift
  simp only [rest_data, run_rest, extract_rest, colon_rest, show p + run (s.data.toList.drop p) i - (p + i) = run (s.data.toList.drop p) i - i by omega]
  split
  · rfl
  · split
    · rfl
    · rfl
theorem number_rest (l : List UInt8) (p i : Nat) : number l (p + i) = shift p (number (l.drop p) i) := by
  unfold number shift
  simp only [drun_rest, letterAt_rest, List.drop_drop, show p + drun (l.drop p) i - (p + i) = drun (l.drop p) i - i by omega]
  split
  · rfl
  · split
    · rfl
    · rfl
theorem quo_fuel (l : List UInt8) : ∀ (f g i : Nat) (out : List UInt8), l.length < f + i → l.length < g + i → quo l f i out = quo l g i out := by
  intro f
  induction f with
  | zero => intro g i out h1 h2; rw [quo_end l 0 i out (by omega), quo_end l g i out (by omega)]
  | succ f ih =>
    intro g i out h1 h2
    match g with
    | 0 => rw [quo_end l 0 i out (by omega), quo_end l (f + 1) i out (by omega)]
    | g + 1 =>
      rw [quo, quo]
      by_cases hi : i < l.length
      · rw [List.getElem?_eq_getElem hi]
        simp only
        rw [ih g (i + 2) _ (by omega) (by omega), ih g (i + 1) _ (by omega) (by omega)]
      · rw [List.getElem?_eq_none (by omega)]
theorem quo_rest (l : List UInt8) (p : Nat) : ∀ (f i : Nat) (out : List UInt8), quo l f (p + i) out = (quo (l.drop p) f i out).map fun x => (x.1, p + x.2) := by
  intro f
  induction f with
  | zero => intro i out; rfl
  | succ f ih =>
    intro i out
    rw [quo, quo, List.getElem?_drop, List.getElem?_drop, ← Nat.add_assoc]
    cases hc : l[p + i]? with
    | none => rfl
    | some c =>
      simp only
      rw [show p + i + 2 = p + (i + 2) by omega, show p + i + 1 = p + (i + 1) by omega, ih, ih]
      split
      · split
        · rfl
        · rfl
      · split
        · rfl
        · rfl
theorem quoted_rest (l : List UInt8) (p i : Nat) (hp : p ≤ l.length) : quoted l (p + i) = shift p (quoted (l.drop p) i) := by
  unfold quoted
  rw [quo_fuel l (l.length + 1) ((l.drop p).length + 1) (p + i + 1) [] (by omega) (by rw [List.length_drop]; omega), Nat.add_assoc, quo_rest]
  cases quo (l.drop p) ((l.drop p).length + 1) (i + 1) [] with
  | none => rfl
  | some r =>
    obtain ⟨o, e⟩ := r
    simp only [Option.map_some]
    split
    · rfl
    · rfl
theorem selGo_fuel (l : List UInt8) : ∀ (f g e : Nat), l.length < f + e → l.length < g + e → selGo l f e = selGo l g e := by
  have far : ∀ e f, l.length ≤ e → selGo l f e = e := by
    intro e f h
    refine selGo_stop l f e ?_
    rw [run_stop l e (fun hi => by omega)]; omega
  intro f
  induction f with
  | zero => intro g e h1 h2; rw [far e 0 (by omega), far e g (by omega)]
  | succ f ih =>
    intro g e h1 h2
    match g with
    | 0 => rw [far e 0 (by omega), far e (f + 1) (by omega)]
    | g + 1 =>
      rw [selGo, selGo]
      by_cases h : e < run l e ∧ colon l (run l e) = true
      · rw [if_pos h, if_pos h, ih g _ (by omega) (by omega)]
      · rw [if_neg h, if_neg h]
theorem selGo_rest (l : List UInt8) (p : Nat) : ∀ (f e : Nat), selGo l f (p + e) = p + selGo (l.drop p) f e := by
  intro f
  induction f with
  | zero => intro e; rfl
  | succ f ih =>
    intro e
    rw [selGo, selGo, run_rest, colon_rest]
    by_cases h : e < run (l.drop p) e ∧ colon (l.drop p) (run (l.drop p) e) = true
    · rw [if_pos (⟨by omega, h.2⟩ : p + e < p + run (l.drop p) e ∧ _), if_pos h, Nat.add_assoc, ih]
    · rw [if_neg (fun h' => h ⟨by omega, h'.2⟩), if_neg h]
theorem selEnd_rest (l : List UInt8) (p i : Nat) (hp : p ≤ l.length) : selEnd l (p + i) = p + selEnd (l.drop p) i := by
  unfold selEnd
  rw [run_rest, colon_rest]
  split
  · rw [selGo_fuel l (l.length + 1) ((l.drop p).length + 1) (p + run (l.drop p) i + 1) (by omega) (by rw [List.length_drop]; omega), Nat.add_assoc, selGo_rest]
  · rfl
theorem selectorAt_rest (s : ByteArray) (p i : Nat) (hp : p ≤ s.size) : selectorAt s (p + i) = shift p (selectorAt (rest s p) i) := by
  unfold selectorAt shift
  simp only [rest_data, starts_rest s p i _ hp, letterAt_rest, selEnd_rest s.data.toList p i (by rw [len_list]; exact hp), extract_rest]
  split
  · simp only [Option.map_some, Nat.add_assoc]
  · split
    · rfl
    · split
      · rfl
      · rfl
theorem next_rest (s : ByteArray) (p : Nat) (c : UInt8) (hp : p ≤ s.size) : next s p c = shift p (next (rest s p) 0 c) := by
  have e1 := name_rest s p 0
  have e2 := number_rest s.data.toList p 0
  have e3 := quoted_rest s.data.toList p 0 (by rw [len_list]; exact hp)
  have e4 := selectorAt_rest s p 1 hp
  have e5 := fun xs => starts_rest s p 0 xs hp
  simp only [Nat.add_zero] at e1 e2 e3 e5
  unfold next
  rw [e1, e2, e3, e4, e5, e5, rest_data]
  split
  · rfl
  · split
    · rfl
    · split
      · rfl
      · split
        · rfl
        · split
          · unfold shift; simp only [Option.map_some, Nat.zero_add]
          · split
            · unfold shift; simp only [Option.map_some, Nat.zero_add]
            · rfl
theorem toks_fuel (s : ByteArray) : ∀ (f g p : Nat) (acc : List T), p ≤ s.size → s.size < f + p → s.size < g + p → toks s f p acc = toks s g p acc := by
  have hls := len_list s
  intro f
  induction f with
  | zero => intro g p acc h0 h1 h2; omega
  | succ f ih =>
    intro g p acc h0 h1 h2
    match g, h2 with
    | 0, h2 => omega
    | g + 1, h2 =>
      rw [toks, toks]
      by_cases hi : p < s.data.toList.length
      · rw [List.getElem?_eq_getElem hi]
        simp only
        rw [ih g (p + 1) acc (by omega) (by omega) (by omega)]
        by_cases hq : qend s.data.toList (p + 1) < s.data.toList.length
        · have hge : p + 1 ≤ qend s.data.toList (p + 1) := by unfold qend; omega
          rw [ih g (qend s.data.toList (p + 1) + 1) acc (by omega) (by omega) (by omega)]
          split
          · rfl
          · split
            · rfl
            · cases hn : next s p s.data.toList[p] with
              | none => rfl
              | some r =>
                obtain ⟨t, e⟩ := r
                have := next_step s p hi t e hn
                simp only
                rw [ih g e (acc ++ [t]) (by omega) (by omega) (by omega)]
        · rw [if_neg hq, if_neg hq]
          split
          · rfl
          · split
            · rfl
            · cases hn : next s p s.data.toList[p] with
              | none => rfl
              | some r =>
                obtain ⟨t, e⟩ := r
                have := next_step s p hi t e hn
                simp only
                rw [ih g e (acc ++ [t]) (by omega) (by omega) (by omega)]
      · rw [List.getElem?_eq_none (by omega)]
def from_ (s : ByteArray) (p : Nat) (acc : List T) : Option (List T) := toks s (s.size + 1) p acc
theorem from_toks (s : ByteArray) (f p : Nat) (acc : List T) (hp : p ≤ s.size) (hf : s.size < f + p) : toks s f p acc = from_ s p acc := toks_fuel s f (s.size + 1) p acc hp hf (by omega)
theorem from_end (s : ByteArray) (p : Nat) (acc : List T) (h : ¬ p < s.size) : from_ s p acc = some acc := toks_end s s.size p acc (by rw [len_list]; exact h)
theorem from_skip (s : ByteArray) (p : Nat) (acc : List T) (h : p < s.data.toList.length) (hc : s.data.toList[p] = 32 ∨ s.data.toList[p] = 10 ∨ s.data.toList[p] = 9) : from_ s p acc = from_ s (p + 1) acc := by
  have := len_list s
  rw [← from_toks s s.size (p + 1) acc (by omega) (by omega)]
  exact toks_skip s s.size p acc h hc
theorem from_open (s : ByteArray) (p : Nat) (acc : List T) (h : p < s.data.toList.length) (hc : s.data.toList[p] = 34) (hq : ¬ qend s.data.toList (p + 1) < s.data.toList.length) : from_ s p acc = none := toks_open s s.size p acc h hc hq
theorem from_comment (s : ByteArray) (p q : Nat) (acc : List T) (h : p < s.data.toList.length) (hc : s.data.toList[p] = 34) (hq : qend s.data.toList (p + 1) = q) (hl : q < s.data.toList.length) : from_ s p acc = from_ s (q + 1) acc := by
  have h1 := len_list s
  have h2 : p + 1 ≤ q := by rw [← hq]; unfold qend; omega
  rw [← from_toks s s.size (q + 1) acc (by omega) (by omega)]
  exact toks_comment s s.size p q acc h hc hq hl
theorem from_none (s : ByteArray) (p : Nat) (acc : List T) (h : p < s.data.toList.length) (hc : ¬ (s.data.toList[p] = 32 ∨ s.data.toList[p] = 10 ∨ s.data.toList[p] = 9)) (hq : ¬ s.data.toList[p] = 34) (hn : next s p s.data.toList[p] = none) : from_ s p acc = none := toks_none s s.size p acc h hc hq hn
theorem from_full (s : ByteArray) (p : Nat) (acc : List T) (h : p < s.data.toList.length) (hc : ¬ (s.data.toList[p] = 32 ∨ s.data.toList[p] = 10 ∨ s.data.toList[p] = 9)) (hq : ¬ s.data.toList[p] = 34) (t : T) (e : Nat) (hn : next s p s.data.toList[p] = some (t, e)) (h8 : 800 ≤ acc.length) : from_ s p acc = none := toks_full s s.size p acc h hc hq t e hn h8
theorem from_more (s : ByteArray) (p : Nat) (acc : List T) (h : p < s.data.toList.length) (hc : ¬ (s.data.toList[p] = 32 ∨ s.data.toList[p] = 10 ∨ s.data.toList[p] = 9)) (hq : ¬ s.data.toList[p] = 34) (t : T) (e : Nat) (hn : next s p s.data.toList[p] = some (t, e)) (h8 : ¬ 800 ≤ acc.length) : from_ s p acc = from_ s e (acc ++ [t]) := by
  have h1 := len_list s
  have h2 := next_step s p h t e hn
  rw [← from_toks s s.size e (acc ++ [t]) (by omega) (by omega)]
  exact toks_more s s.size p acc h hc hq t e hn h8
end Go.Proofs.YtoaocpfehdcfgaaGreatDoor.Tok
