/-
  Values, objects and stores: when they are right, plain mathematics.
  A right value's kind; what holds of all things of a list, step by step.
-/
import Derived.Test.YtkmclgofghaeoaaBCoreMath
import Derived.Test.YtkmclgofghaeoaaBReadMath
namespace Go.Proofs.Ytkmclgofghaeoaa.Sto
open Go.RowKit
open Strs Core
structure V where
  kind : Int
  num : Int
  text : ByteArray
structure O where
  kind : Int
  cls : Int
  fields : List V
  nums : List Int
structure St where
  classes : List I
  objects : List O
  output : List ByteArray
  ticks : Int
  budget : Int
  made : Int
def emptyB (s : ByteArray) : Bool := decide (s.size = 0)
def lineB (s : ByteArray) : Bool := decide (s.size ≤ 200) && s.data.toList.all Tok.plain
def valB (v : V) : Bool :=
  if v.kind = 0 then decide (v.num = 0) && emptyB v.text
  else if v.kind = 1 then (decide (0 ≤ v.num) && decide (v.num ≤ 1)) && emptyB v.text
  else if v.kind = 2 then (decide (-999999999 ≤ v.num) && decide (v.num ≤ 999999999)) && emptyB v.text
  else if v.kind = 3 then decide (v.num = 0) && lineB v.text
  else if v.kind = 4 then decide (v.num = 0) && Tok.sel v.text
  else if 5 ≤ v.kind ∧ v.kind ≤ 7 then decide (0 ≤ v.num) && emptyB v.text
  else false
def topOf (nc no : Nat) (nb : Int) (v : V) : Bool :=
  if v.kind = 5 then decide (v.num < (nc : Int)) else if v.kind = 6 then decide (v.num < (no : Int)) else if v.kind = 7 then decide (v.num < nb) else true
def fitB (nc no : Nat) (nb : Int) (v : V) : Bool := valB v && topOf nc no nb v
def up (cs : List I) (ab : Int) : Nat → Int → Bool
  | 0, _ => false
  | n + 1, k => if k < 0 then false else match cs[k.toNat]? with
    | none => false
    | some c => decide (k = ab) || up cs ab n c.parent
def below1 (cs : List I) (k : Int) : Bool := up cs 1 cs.length k
def canB (n : Nat) (k : Int) : Bool := (decide (0 ≤ k) && decide (k ≤ 4)) || (decide (16 ≤ k) && decide (k < n))
def flen (cs : List I) (k : Int) : Nat := match cs[k.toNat]? with
  | none => 0
  | some c => c.fields.length
def formB (cs : List I) (o : O) : Bool :=
  if o.kind = 1 then canB cs.length o.cls && (decide (o.fields.length = flen cs o.cls) && decide (o.nums.length = if below1 cs o.cls then 3 else 0))
  else if o.kind = 2 then decide (o.cls = 10) && (decide (o.fields.length ≤ 50) && decide (o.nums.length = 0))
  else if o.kind = 3 then decide (o.cls = 12) && (decide (o.fields.length = 0) && (decide (1 ≤ o.nums.length) && o.nums.all fun n => decide (0 ≤ n)))
  else false
def objB (cs : List I) (no : Nat) (nb : Int) (o : O) : Bool := formB cs o && o.fields.all (fitB cs.length no nb)
def limB (s : St) : Bool := (decide ((s.objects.length : Int) ≤ s.made) && decide (s.made ≤ 800)) && (decide (s.output.length ≤ 60) && ((decide (0 ≤ s.ticks) && decide (s.ticks ≤ s.budget)) && decide (s.budget ≤ 3000)))
def stoB (s : St) (nb : Int) : Bool := infosB s.classes && (limB s && (s.output.all lineB && s.objects.all (objB s.classes s.objects.length nb)))
def clsOf (s : St) (v : V) : Int :=
  if v.kind = 0 then 7 else if v.kind = 1 then 6 else if v.kind = 2 then 5 else if v.kind = 3 then 8 else if v.kind = 4 then 9 else if v.kind = 5 then 15
  else if v.kind = 6 then (match s.objects[v.num.toNat]? with
    | some o => o.cls
    | none => 0)
  else 11
def classAns (s : St) (v : V) : Int := if stoB s 1000 && fitB s.classes.length s.objects.length 1000 v then clsOf s v else -1
theorem up_step {cs : List I} {ab : Int} {n : Nat} {k : Nat} {c : I} (hc : cs[k]? = some c) (hk : ¬ (k : Int) = ab) : up cs ab (n + 1) k = up cs ab n c.parent := by
  rw [up, if_neg (by omega), Int.toNat_natCast, hc]
  simp [hk]
theorem up_here {cs : List I} {ab : Int} {n : Nat} {k : Nat} (hc : k < cs.length) (hk : (k : Int) = ab) : up cs ab (n + 1) k = true := by
  rw [up, if_neg (by omega), Int.toNat_natCast, List.getElem?_eq_getElem hc]
  simp [hk]
theorem up_neg {cs : List I} {ab : Int} {n : Nat} {k : Int} (h : k < 0) : up cs ab n k = false := by
  cases n with
  | zero => rfl
  | succ n => rw [up, if_pos h]
theorem up_out {cs : List I} {ab : Int} {n : Nat} {k : Int} (h : (cs.length : Int) ≤ k) : up cs ab n k = false := by
  cases n with
  | zero => rfl
  | succ n =>
    rw [up, if_neg (by omega), List.getElem?_eq_none (by omega)]
theorem parent_lt {cs : List I} (h : infosB cs = true) {k : Nat} {c : I} (hc : cs[k]? = some c) : -1 ≤ c.parent ∧ c.parent < (k : Int) := by
  have hk := (List.getElem?_eq_some_iff.1 hc).1
  unfold infosB at h
  rw [Bool.and_eq_true, List.all_eq_true] at h
  have hi := h.2 k (List.mem_range.2 hk)
  unfold infoB at hi
  rw [hc] at hi
  simp only [] at hi
  by_cases h16 : k < 16
  · rw [if_pos h16] at hi
    unfold isB at hi
    rw [Bool.and_eq_true, Bool.and_eq_true, decide_eq_true_eq, decide_eq_true_eq] at hi
    rw [hi.2.1]
    have : ∀ k : Nat, k < 16 → -1 ≤ bparents.getD k 0 ∧ bparents.getD k 0 < (k : Int) := by decide
    exact this k h16
  · rw [if_neg h16, Bool.and_eq_true] at hi
    have h2 := hi.1
    unfold placeB at h2
    rw [Bool.and_eq_true, Bool.and_eq_true, Bool.and_eq_true, Bool.and_eq_true, decide_eq_true_eq, decide_eq_true_eq] at h2
    omega
theorem infos_len {cs : List I} (h : infosB cs = true) : 16 ≤ cs.length ∧ cs.length ≤ 24 := by
  unfold infosB at h
  rw [Bool.and_eq_true, Bool.and_eq_true, decide_eq_true_eq, decide_eq_true_eq] at h
  exact h.1
end Go.Proofs.Ytkmclgofghaeoaa.Sto

namespace Go.Proofs.Ytkmclgofghaeoaa.Sto
open Go.RowKit
open Strs Core
theorem val_kind {v : V} (h : valB v = true) : v.kind = 0 ∨ v.kind = 1 ∨ v.kind = 2 ∨ v.kind = 3 ∨ v.kind = 4 ∨ v.kind = 5 ∨ v.kind = 6 ∨ v.kind = 7 := by
  unfold valB at h
  by_cases h0 : v.kind = 0
  · exact .inl h0
  by_cases h1 : v.kind = 1
  · exact .inr (.inl h1)
  by_cases h2 : v.kind = 2
  · exact .inr (.inr (.inl h2))
  by_cases h3 : v.kind = 3
  · exact .inr (.inr (.inr (.inl h3)))
  by_cases h4 : v.kind = 4
  · exact .inr (.inr (.inr (.inr (.inl h4))))
  rw [if_neg h0, if_neg h1, if_neg h2, if_neg h3, if_neg h4] at h
  by_cases h5 : 5 ≤ v.kind ∧ v.kind ≤ 7
  · omega
  · rw [if_neg h5] at h; cases h
theorem all_take {α : Type} {p : α → Bool} {xs : List α} {i : Nat} {x : α} (h : (xs.take i).all p = true) (hx : xs[i]? = some x) (hp : p x = true) : (xs.take (i + 1)).all p = true := by
  obtain ⟨hi, rfl⟩ := List.getElem?_eq_some_iff.1 hx
  rw [List.take_succ_eq_append_getElem hi, List.all_append, h, List.all_cons, hp]; rfl
theorem all_no {α : Type} {p : α → Bool} {xs : List α} {i : Nat} {x : α} (hx : xs[i]? = some x) (hp : p x = false) : xs.all p = false := by
  rw [List.all_eq_false]
  exact ⟨x, List.mem_of_getElem? hx, by rw [hp]; exact Bool.false_ne_true⟩
theorem all_end {α : Type} {p : α → Bool} {xs : List α} {i : Nat} (h : (xs.take i).all p = true) (hi : xs.length ≤ i) : xs.all p = true := by
  rwa [List.take_of_length_le hi] at h
end Go.Proofs.Ytkmclgofghaeoaa.Sto
