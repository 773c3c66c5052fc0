/-
  Plain mathematics: letters, digits, words, names, and lists of texts in which one is looked for. Nothing of the program is named here.
-/
import Derived.Test.YtamjfbjkdicmcaaGreatDoorBImplSplit
import Derived.Test.YtamjfbjkdicmcaaGreatDoorBNum
namespace Go.Proofs.YtamjfbjkdicmcaaGreatDoor.Tok
def letter (c : UInt8) : Bool := (decide (97 ≤ c.toNat) && decide (c.toNat ≤ 122)) || (decide (65 ≤ c.toNat) && decide (c.toNat ≤ 90))
def digit (c : UInt8) : Bool := decide (48 ≤ c.toNat) && decide (c.toNat ≤ 57)
def alnum (c : UInt8) : Bool := letter c || digit c
def words : List ByteArray := [⟨#[99, 108, 97, 115, 115]⟩, ⟨#[101, 120, 116, 101, 110, 100, 115]⟩, ⟨#[102, 105, 101, 108, 100, 115]⟩, ⟨#[109, 101, 116, 104, 111, 100]⟩, ⟨#[99, 108, 97, 115, 115, 109, 101, 116, 104, 111, 100]⟩, ⟨#[101, 110, 100]⟩, ⟨#[109, 97, 105, 110]⟩]
def binaries : List ByteArray := [⟨#[47, 47]⟩, ⟨#[92, 92]⟩, ⟨#[60, 61]⟩, ⟨#[62, 61]⟩, ⟨#[61, 61]⟩, ⟨#[126, 61]⟩, ⟨#[126, 126]⟩, ⟨#[43]⟩, ⟨#[45]⟩, ⟨#[42]⟩, ⟨#[60]⟩, ⟨#[62]⟩, ⟨#[61]⟩, ⟨#[44]⟩, ⟨#[38]⟩]
def marks : List ByteArray := [⟨#[58, 61]⟩, ⟨#[94]⟩, ⟨#[46]⟩, ⟨#[59]⟩, ⟨#[91]⟩, ⟨#[93]⟩, ⟨#[40]⟩, ⟨#[41]⟩, ⟨#[124]⟩, ⟨#[58]⟩]
def has (xs : List ByteArray) (s : ByteArray) : Bool := xs.any fun x => x.toList == s.toList
theorem has_at (xs : List ByteArray) (s : ByteArray) (i : Nat) (h : i < xs.length) (he : (xs[i].toList == s.toList) = true) : has xs s = true := by
  unfold has; rw [List.any_eq_true]; exact ⟨xs[i], List.getElem_mem h, he⟩
theorem has_not (xs : List ByteArray) (s : ByteArray) (h : ∀ i (hi : i < xs.length), (xs[i].toList == s.toList) = false) : has xs s = false := by
  unfold has; rw [List.any_eq_false]
  intro x hx
  obtain ⟨i, hi, rfl⟩ := List.mem_iff_getElem.1 hx
  rw [h i hi]; exact Bool.false_ne_true
def run (l : List UInt8) (i : Nat) : Nat := i + ((l.drop i).takeWhile alnum).length
theorem run_stop (l : List UInt8) (i : Nat) (h : ∀ (hi : i < l.length), alnum l[i] = false) : run l i = i := by
  unfold run
  by_cases hi : i < l.length
  · rw [List.drop_eq_getElem_cons hi, List.takeWhile_cons, h hi]; rfl
  · rw [List.drop_of_length_le (by omega)]; rfl
theorem run_go (l : List UInt8) (i : Nat) (hi : i < l.length) (h : alnum l[i] = true) : run l i = run l (i + 1) := by
  unfold run
  rw [List.drop_eq_getElem_cons hi, List.takeWhile_cons, h]
  simp; omega
theorem run_le (l : List UInt8) (i : Nat) (hi : i ≤ l.length) : i ≤ run l i ∧ run l i ≤ l.length := by
  unfold run
  have := List.takeWhile_prefix (p := alnum) (l := l.drop i)
  have := this.length_le
  simp at this; omega
def colon (l : List UInt8) (i : Nat) : Bool := (l[i]? == some 58) && !(l[i + 1]? == some 61)
theorem colon_lt (l : List UInt8) (i : Nat) (h : colon l i = true) : i < l.length := by
  unfold colon at h
  rcases Nat.lt_or_ge i l.length with h1 | h1
  · exact h1
  · rw [List.getElem?_eq_none h1] at h; simp at h
def name20 (l : List UInt8) : Bool := decide (1 ≤ l.length) && decide (l.length ≤ 20) && (match l with | c :: _ => letter c | [] => false) && decide (run l 0 = l.length)
def isName (s : ByteArray) : Bool := name20 s.data.toList && !has words s
def keys (ps : List ByteArray) : Bool := (ps.getLast?.getD ByteArray.empty).toList.isEmpty && ps.dropLast.all (fun p => name20 p.data.toList) && decide (ps.length ≤ 5)
def sel (s : ByteArray) : Bool := has binaries s || (if 1 < (Cuts.parts s 58).length then keys (Cuts.parts s 58) else isName s)
def countArgs (s : ByteArray) : Int := if sel s then (if has binaries s then 1 else ((Cuts.parts s 58).length : Int) - 1) else -1
theorem parts_one (s : ByteArray) (b : Int) (h : (Cuts.parts s b).length = 1) : Cuts.parts s b = [s] := by
  have hl : (Cuts.cuts s b s.size).1 = [] := by
    unfold Cuts.parts at h
    simp at h; exact h
  have h0 : ∀ i, (Cuts.cuts s b i).1 = [] → (Cuts.cuts s b i).2 = 0 := by
    intro i
    induction i with
    | zero => intro _; rfl
    | succ i ih =>
      rw [Cuts.cuts]
      split
      · split
        · intro h; simp at h
        · exact ih
      · exact ih
  unfold Cuts.parts
  rw [hl, h0 s.size hl, List.nil_append]
  congr 1
  apply ByteArray.ext
  rw [ByteArray.data_extract]
  exact Array.extract_size
theorem getLast_at (ps : List ByteArray) (n : Nat) (hn : ps.length = n) (h : 0 < n) : (ps.getLast?.getD ByteArray.empty) = ps.getD (n - 1) ByteArray.empty := by
  subst hn
  rw [List.getLast?_eq_getElem?, List.getD]
theorem all_not (ps : List ByteArray) (f : ByteArray → Bool) (i : Nat) (h : i < ps.length) (hf : f ps[i] = false) : ps.all f = false := by
  rw [List.all_eq_false]; exact ⟨ps[i], List.getElem_mem h, by rw [hf]; exact Bool.false_ne_true⟩
theorem all_yes (ps : List ByteArray) (f : ByteArray → Bool) (h : ∀ i (hi : i < ps.length), f ps[i] = true) : ps.all f = true := by
  rw [List.all_eq_true]
  intro x hx
  obtain ⟨i, hi, rfl⟩ := List.mem_iff_getElem.1 hx
  exact h i hi
theorem drop_at (ps : List ByteArray) (i : Nat) (h : i < ps.length - 1) : ∃ h' : i < ps.dropLast.length, ps.dropLast[i]'h' = ps[i]'(by omega) :=
  ⟨by rw [List.length_dropLast]; exact h, List.getElem_dropLast _⟩
theorem keys_no (ps : List ByteArray) (i : Nat) (h : i < ps.length - 1) (hf : name20 (ps[i]'(by omega)).data.toList = false) : keys ps = false := by
  obtain ⟨h', e⟩ := drop_at ps i h
  unfold keys
  rw [all_not ps.dropLast (fun p => name20 p.data.toList) i h' (by rw [e]; exact hf)]
  simp
theorem keys_yes (ps : List ByteArray) (he : (ps.getLast?.getD ByteArray.empty).toList.isEmpty = true) (h : ∀ i (hi : i < ps.length - 1), name20 (ps[i]'(by omega)).data.toList = true) : keys ps = decide (ps.length ≤ 5) := by
  unfold keys
  rw [he, all_yes ps.dropLast (fun p => name20 p.data.toList) (fun i hi => by
    have hi' : i < ps.length - 1 := by rw [List.length_dropLast] at hi; exact hi
    obtain ⟨_, e⟩ := drop_at ps i hi'
    rw [e]; exact h i hi')]
  rfl
def esc : List UInt8 → List UInt8
  | [] => []
  | c :: l => (if c = 39 then [39, 39] else [c]) ++ esc l
theorem esc_snoc (l : List UInt8) (c : UInt8) : esc (l ++ [c]) = esc l ++ (if c = 39 then [39, 39] else [c]) := by
  induction l with
  | nil => simp [esc]
  | cons d l ih => rw [List.cons_append, esc, ih, esc, List.append_assoc]
theorem esc_len (l : List UInt8) : (esc l).length ≤ 2 * l.length := by
  induction l with
  | nil => simp [esc]
  | cons c l ih =>
    rw [esc, List.length_append, List.length_cons]
    split <;> simp <;> omega
theorem esc_take (l : List UInt8) (i : Nat) (h : i < l.length) : esc (l.take (i + 1)) = esc (l.take i) ++ (if l[i] = 39 then [39, 39] else [l[i]]) := by
  rw [List.take_succ_eq_append_getElem h, esc_snoc]
def fmt (k : Int) (t : List UInt8) (n : Int) : List UInt8 := if k = 3 then Num.intText n else if k = 4 then 39 :: esc t ++ [39] else if k = 5 then 35 :: t else t
def begins (s : ByteArray) (i : Nat) (x : ByteArray) : Bool := decide (i + x.size ≤ s.size) && ((s.extract i (i + x.size)).toList == x.toList)
def starts (s : ByteArray) (i : Nat) (xs : List ByteArray) : ByteArray := (xs.find? (begins s i)).getD ByteArray.empty
theorem starts_at (s : ByteArray) (i : Nat) (xs : List ByteArray) (k : Nat) (h : k < xs.length) (hb : begins s i xs[k] = true) (hno : ∀ j (hj : j < xs.length), j < k → begins s i xs[j] = false) : starts s i xs = xs[k] := by
  unfold starts
  have : xs.find? (begins s i) = some xs[k] := by
    rw [List.find?_eq_some_iff_getElem]
    exact ⟨hb, k, h, rfl, fun j hj => by simp [hno j (by omega) hj]⟩
  rw [this]; rfl
theorem starts_not (s : ByteArray) (i : Nat) (xs : List ByteArray) (hno : ∀ j (hj : j < xs.length), begins s i xs[j] = false) : starts s i xs = ByteArray.empty := by
  unfold starts
  have : xs.find? (begins s i) = none := by
    rw [List.find?_eq_none]
    intro x hx
    obtain ⟨j, hj, rfl⟩ := List.mem_iff_getElem.1 hx
    rw [hno j hj]; exact Bool.false_ne_true
  rw [this]; rfl
theorem starts_size (s : ByteArray) (i : Nat) (xs : List ByteArray) (n : Nat) (h : ∀ x ∈ xs, x.size ≤ n) : (starts s i xs).size ≤ n := by
  unfold starts
  cases hf : xs.find? (begins s i) with
  | none => exact Nat.zero_le _
  | some x => exact h x (List.mem_of_find?_eq_some hf)
structure T where
  kind : Int
  text : ByteArray
  num : Int
def drun (l : List UInt8) (i : Nat) : Nat := i + ((l.drop i).takeWhile digit).length
theorem drun_stop (l : List UInt8) (i : Nat) (h : ∀ (hi : i < l.length), digit l[i] = false) : drun l i = i := by
  unfold drun
  by_cases hi : i < l.length
  · rw [List.drop_eq_getElem_cons hi, List.takeWhile_cons, h hi]; rfl
  · rw [List.drop_of_length_le (by omega)]; rfl
theorem drun_go (l : List UInt8) (i : Nat) (hi : i < l.length) (h : digit l[i] = true) : drun l i = drun l (i + 1) := by
  unfold drun
  rw [List.drop_eq_getElem_cons hi, List.takeWhile_cons, h]
  simp; omega
theorem drun_ge (l : List UInt8) (i : Nat) : i ≤ drun l i := by unfold drun; omega
def dval (l : List UInt8) : Nat := l.foldl (fun a c => 10 * a + (c.toNat - 48)) 0
theorem dval_snoc (l : List UInt8) (c : UInt8) : dval (l ++ [c]) = 10 * dval l + (c.toNat - 48) := by simp [dval]
def letterAt (l : List UInt8) (i : Nat) : Bool := match l[i]? with | some c => letter c | none => false
def number (l : List UInt8) (i : Nat) : Option (T × Nat) :=
  if 9 < drun l i - i then none else if letterAt l (drun l i) = true then none else some (⟨3, ByteArray.empty, dval ((l.drop i).take (drun l i - i))⟩, drun l i)
def nameAt (s : ByteArray) (i : Nat) : Option (T × Nat) :=
  let e := run s.data.toList i
  let x := s.extract i e
  if 20 < e - i then none
  else if colon s.data.toList e = true then some (⟨2, x ++ ⟨#[58]⟩, 0⟩, e + 1)
  else some (⟨if has words x = true then 8 else 1, x, 0⟩, e)
theorem take_more (l : List UInt8) (p i : Nat) (hp : p ≤ i) (h : i < l.length) : (l.drop p).take (i + 1 - p) = (l.drop p).take (i - p) ++ [l[i]] := by
  have h1 : i - p < (l.drop p).length := by rw [List.length_drop]; omega
  rw [show i + 1 - p = (i - p) + 1 by omega, List.take_succ_eq_append_getElem h1, List.getElem_drop]
  congr 2
  simp [show p + (i - p) = i by omega]
theorem number_long (l : List UInt8) (p : Nat) (h : 9 < drun l p - p) : number l p = none := by unfold number; rw [if_pos h]
theorem number_letter (l : List UInt8) (p i : Nat) (h : drun l p = i) (hl : letterAt l i = true) : number l p = none := by unfold number; rw [h, if_pos hl]; split <;> rfl
theorem number_is (l : List UInt8) (p i : Nat) (h : drun l p = i) (h9 : ¬ 9 < i - p) (hl : letterAt l i = false) : number l p = some (⟨3, ByteArray.empty, dval ((l.drop p).take (i - p))⟩, i) := by
  unfold number; rw [h, if_neg h9, hl]; rfl
def quo (l : List UInt8) : Nat → Nat → List UInt8 → Option (List UInt8 × Nat)
  | 0, _, _ => none
  | f + 1, i, out =>
    match l[i]? with
    | none => none
    | some c => if c = 39 then (if l[i + 1]? = some 39 then quo l f (i + 2) (out ++ [39]) else some (out, i + 1)) else if 32 ≤ c.toNat ∧ c.toNat ≤ 126 then quo l f (i + 1) (out ++ [c]) else none
def quoted (l : List UInt8) (p : Nat) : Option (T × Nat) :=
  match quo l (l.length + 1) (p + 1) [] with
  | some (out, e) => if out.length ≤ 40 then some (⟨4, ⟨out.toArray⟩, 0⟩, e) else none
  | none => none
theorem quo_end (l : List UInt8) (f i : Nat) (out : List UInt8) (h : ¬ i < l.length) : quo l f i out = none := by
  cases f with
  | zero => rfl
  | succ f => rw [quo, List.getElem?_eq_none (by omega)]
theorem quo_two (l : List UInt8) (f i : Nat) (out : List UInt8) (h : i < l.length) (hc : l[i] = 39) (h2 : l[i + 1]? = some 39) : quo l (f + 1) i out = quo l f (i + 2) (out ++ [39]) := by
  rw [quo, List.getElem?_eq_getElem h]; simp only [hc, if_true, h2]
theorem quo_one (l : List UInt8) (f i : Nat) (out : List UInt8) (h : i < l.length) (hc : l[i] = 39) (h2 : ¬ l[i + 1]? = some 39) : quo l (f + 1) i out = some (out, i + 1) := by
  rw [quo, List.getElem?_eq_getElem h]; simp only [hc, if_true, if_neg h2]
theorem quo_go (l : List UInt8) (f i : Nat) (out : List UInt8) (h : i < l.length) (hc : ¬ l[i] = 39) (h2 : 32 ≤ l[i].toNat ∧ l[i].toNat ≤ 126) : quo l (f + 1) i out = quo l f (i + 1) (out ++ [l[i]]) := by
  rw [quo, List.getElem?_eq_getElem h]; simp only [if_neg hc, if_pos h2]
theorem quo_bad (l : List UInt8) (f i : Nat) (out : List UInt8) (h : i < l.length) (hc : ¬ l[i] = 39) (h2 : ¬ (32 ≤ l[i].toNat ∧ l[i].toNat ≤ 126)) : quo l (f + 1) i out = none := by
  rw [quo, List.getElem?_eq_getElem h]; simp only [if_neg hc, if_neg h2]
theorem quoted_none (l : List UInt8) (p : Nat) (h : quo l (l.length + 1) (p + 1) [] = none) : quoted l p = none := by unfold quoted; rw [h]
theorem quoted_some (l : List UInt8) (p e : Nat) (out : List UInt8) (h : quo l (l.length + 1) (p + 1) [] = some (out, e)) : quoted l p = if out.length ≤ 40 then some (⟨4, ⟨out.toArray⟩, 0⟩, e) else none := by unfold quoted; rw [h]
def selGo (l : List UInt8) : Nat → Nat → Nat
  | 0, e => e
  | f + 1, e => if e < run l e ∧ colon l (run l e) = true then selGo l f (run l e + 1) else e
theorem selGo_stop (l : List UInt8) (f e : Nat) (h : ¬ (e < run l e ∧ colon l (run l e) = true)) : selGo l f e = e := by
  cases f with
  | zero => rfl
  | succ f => rw [selGo, if_neg h]
theorem selGo_go (l : List UInt8) (f e : Nat) (h : e < run l e ∧ colon l (run l e) = true) : selGo l (f + 1) e = selGo l f (run l e + 1) := by rw [selGo, if_pos h]
def selEnd (l : List UInt8) (p : Nat) : Nat := if colon l (run l p) = true then selGo l (l.length + 1) (run l p + 1) else run l p
def selectorAt (s : ByteArray) (p : Nat) : Option (T × Nat) :=
  let op := starts s p binaries
  if op.toList.isEmpty = false then some (⟨5, op, 0⟩, p + op.size)
  else if letterAt s.data.toList p = false then none
  else
    let x := s.extract p (selEnd s.data.toList p)
    if sel x = true then some (⟨5, x, 0⟩, selEnd s.data.toList p) else none
theorem selectorAt_op (s : ByteArray) (p : Nat) (h : (starts s p binaries).toList.isEmpty = false) : selectorAt s p = some (⟨5, starts s p binaries, 0⟩, p + (starts s p binaries).size) := by unfold selectorAt; simp only [h, if_true]
theorem selectorAt_no (s : ByteArray) (p : Nat) (h : (starts s p binaries).toList.isEmpty = true) (hl : letterAt s.data.toList p = false) : selectorAt s p = none := by unfold selectorAt; simp only [h, hl, if_true]; rfl
theorem selectorAt_x (s : ByteArray) (p e : Nat) (h : (starts s p binaries).toList.isEmpty = true) (hl : letterAt s.data.toList p = true) (he : selEnd s.data.toList p = e) : selectorAt s p = if sel (s.extract p e) = true then some (⟨5, s.extract p e, 0⟩, e) else none := by
  unfold selectorAt; simp only [h, hl, he]; rfl
def next (s : ByteArray) (p : Nat) (c : UInt8) : Option (T × Nat) :=
  if letter c = true then nameAt s p
  else if digit c = true then number s.data.toList p
  else if c = 39 then quoted s.data.toList p
  else if c = 35 then selectorAt s (p + 1)
  else if (starts s p binaries).toList.isEmpty = false then some (⟨6, starts s p binaries, 0⟩, p + (starts s p binaries).size)
  else if (starts s p marks).toList.isEmpty = false then some (⟨7, starts s p marks, 0⟩, p + (starts s p marks).size)
  else none
end Go.Proofs.YtamjfbjkdicmcaaGreatDoor.Tok
