/-
  What is wrong with a unit, as plain mathematics: names and what they can be used for (0 nothing, 1 receiver, 2 value, 3 variable), an expression gone through, a class, a unit.
-/
import Derived.Test.YtekeondbbikkpaaGreatBOutRow
import Derived.Test.YtekeondbbikkpaaGreatBSpecMax
import Derived.Test.YtekeondbbikkpaaGreatBTok
namespace Go.Proofs.YtekeondbbikkpaaGreat.Chk
open Go.RowKit
open Strs Tree Go.Proofs.YtekeondbbikkpaaGreat.Data
def tSuper : ByteArray := ⟨#[115, 117, 112, 101, 114]⟩
def unknown (n : ByteArray) : ByteArray := ⟨#[110, 97, 109, 101, 32]⟩ ++ n ++ ⟨#[32, 105, 115, 32, 117, 110, 107, 110, 111, 119, 110]⟩
def inUse (n : ByteArray) : ByteArray := ⟨#[110, 97, 109, 101, 32]⟩ ++ n ++ ⟨#[32, 105, 115, 32, 105, 110, 32, 117, 115, 101]⟩
def notAssigned (n : ByteArray) : ByteArray := ⟨#[110, 97, 109, 101, 32]⟩ ++ n ++ ⟨#[32, 99, 97, 110, 32, 110, 111, 116, 32, 98, 101, 32, 97, 115, 115, 105, 103, 110, 101, 100]⟩
def outside : ByteArray := ⟨#[115, 117, 112, 101, 114, 32, 115, 116, 97, 110, 100, 115, 32, 111, 117, 116, 115, 105, 100, 101, 32, 111, 102, 32, 97, 32, 99, 108, 97, 115, 115]⟩
def classThere (n : ByteArray) : ByteArray := ⟨#[99, 108, 97, 115, 115, 32]⟩ ++ n ++ ⟨#[32, 105, 115, 32, 116, 104, 101, 114, 101, 32, 97, 108, 114, 101, 97, 100, 121]⟩
def notExtended (n : ByteArray) : ByteArray := ⟨#[99, 108, 97, 115, 115, 32]⟩ ++ n ++ ⟨#[32, 99, 97, 110, 32, 110, 111, 116, 32, 98, 101, 32, 101, 120, 116, 101, 110, 100, 101, 100]⟩
def fieldUse (n : ByteArray) : ByteArray := ⟨#[102, 105, 101, 108, 100, 32]⟩ ++ n ++ ⟨#[32, 105, 115, 32, 105, 110, 32, 117, 115, 101]⟩
def manyFields (n : ByteArray) : ByteArray := ⟨#[99, 108, 97, 115, 115, 32]⟩ ++ n ++ ⟨#[32, 104, 97, 115, 32, 116, 111, 111, 32, 109, 97, 110, 121, 32, 102, 105, 101, 108, 100, 115]⟩
def methodThere (n : ByteArray) : ByteArray := ⟨#[109, 101, 116, 104, 111, 100, 32]⟩ ++ n ++ ⟨#[32, 105, 115, 32, 116, 104, 101, 114, 101, 32, 97, 108, 114, 101, 97, 100, 121]⟩
def first (a b : ByteArray) : ByteArray := if a.data.toList = [] then b else a
theorem first_none (b : ByteArray) : first ByteArray.empty b = b := rfl
theorem first_some {a : ByteArray} (h : a.data.toList ≠ []) (b : ByteArray) : first a b = a := if_neg h
theorem first_assoc (a b c : ByteArray) : first (first a b) c = first a (first b c) := by
  unfold first
  by_cases h : a.data.toList = []
  · rw [if_pos h, if_pos h]
  · rw [if_neg h, if_neg h, if_neg h]
theorem first_end (a : ByteArray) : first a ByteArray.empty = a := by
  unfold first
  by_cases h : a.data.toList = []
  · rw [if_pos h]
    apply ByteArray.ext
    apply Array.toList_inj.1
    rw [h]; rfl
  · rw [if_neg h]
abbrev Sc := ByteArray → Nat
def put (σ : Sc) (n : ByteArray) (v : Nat) : Sc := fun m => if m = n then v else σ m
def declare (σ : Sc) (params : Int) : Nat → List ByteArray → ByteArray × Sc
  | _, [] => (ByteArray.empty, σ)
  | i, n :: ns => if σ n ≠ 0 then (inUse n, σ) else declare (put σ n (if (i : Int) < params then 2 else 3)) params (i + 1) ns
mutual
def chk (own : Bool) (σ : Sc) : E → ByteArray
  | .mk k t n ns ks =>
    if k = 4 then (if σ t < 2 then unknown t else ByteArray.empty)
    else if k = 5 then (if σ t ≠ 3 then notAssigned t else chks own σ 0 ks)
    else if k = 6 then chks own σ 1 ks
    else if k = 7 then chks own σ 2 ks
    else if k = 8 then first (declare σ n 0 ns).1 (chks own (declare σ n 0 ns).2 0 ks)
    else chks own σ 0 ks
def chks (own : Bool) (σ : Sc) : Nat → List E → ByteArray
  | _, [] => ByteArray.empty
  | 0, e :: es => first (chk own σ e) (chks own σ 0 es)
  | 1, e :: es => if e.kind = 4 ∧ e.text = tSuper then (if own then chks own σ 0 es else outside) else first (chk own σ e) (chks own σ 0 es)
  | 2, e :: es => first (chk own σ e) (chks own σ 3 es)
  | _, .mk _ _ _ _ ks :: es => first (chks own σ 0 ks) (chks own σ 3 es)
end
def five : List ByteArray := [⟨#[115, 101, 108, 102]⟩, ⟨#[115, 117, 112, 101, 114]⟩, ⟨#[110, 105, 108]⟩, ⟨#[116, 114, 117, 101]⟩, ⟨#[102, 97, 108, 115, 101]⟩]
def four : List ByteArray := [⟨#[115, 101, 108, 102]⟩, ⟨#[110, 105, 108]⟩, ⟨#[116, 114, 117, 101]⟩, ⟨#[102, 97, 108, 115, 101]⟩]
def tText : ByteArray := ⟨#[116, 101, 120, 116]⟩
def index : List ByteArray → ByteArray → Int
  | [], _ => -1
  | x :: xs, n => if x = n then 0 else if index xs n < 0 then -1 else index xs n + 1
theorem index_cases (xs : List ByteArray) (n : ByteArray) : (index xs n = -1 ∧ n ∉ xs) ∨ ∃ i, ∃ h : i < xs.length, index xs n = (i : Int) ∧ xs[i] = n ∧ ∀ j (hj : j < i), xs[j]'(by omega) ≠ n := by
  induction xs with
  | nil => left; exact ⟨rfl, by simp⟩
  | cons x xs ih =>
    rw [index]
    by_cases hx : x = n
    · right
      refine ⟨0, by simp, by rw [if_pos hx]; rfl, by simpa using hx, fun j hj => by omega⟩
    · rw [if_neg hx]
      rcases ih with ⟨h1, h2⟩ | ⟨i, hi, h1, h2, h3⟩
      · left
        rw [h1, if_pos (by omega)]
        exact ⟨rfl, by simp [h2, Ne.symm hx]⟩
      · right
        rw [h1, if_neg (by omega)]
        refine ⟨i + 1, by simpa using hi, by omega, by simpa using h2, fun j hj => ?_⟩
        cases j with
        | zero => simpa using hx
        | succ j => simpa using h3 j (by omega)
theorem index_no {xs : List ByteArray} {n : ByteArray} (h : n ∉ xs) : index xs n = -1 := by
  rcases index_cases xs n with ⟨h1, _⟩ | ⟨i, hi, _, h2, _⟩
  · exact h1
  · exact absurd (h2 ▸ List.getElem_mem hi) h
theorem index_at {xs : List ByteArray} {n : ByteArray} {i : Nat} (hi : i < xs.length) (he : xs[i] = n) (h : n ∉ xs.take i) : index xs n = i := by
  rcases index_cases xs n with ⟨_, h2⟩ | ⟨k, hk, h1, h2, h3⟩
  · exact absurd (he ▸ List.getElem_mem hi) h2
  · have : k = i := by
      by_cases hki : k < i
      · exact absurd (List.mem_take_iff_getElem.2 ⟨k, by omega, h2⟩) h
      · by_cases hik : i < k
        · exact absurd he (h3 i hik)
        · omega
    rw [h1, this]
theorem index_mem {xs : List ByteArray} {n : ByteArray} : 0 ≤ index xs n ↔ n ∈ xs := by
  rcases index_cases xs n with ⟨h1, h2⟩ | ⟨k, hk, h1, h2, h3⟩
  · rw [h1]
    constructor
    · intro h; omega
    · intro h; exact absurd h h2
  · rw [h1]
    exact ⟨fun _ => h2 ▸ List.getElem_mem hk, fun _ => by omega⟩
theorem index_lt (xs : List ByteArray) (n : ByteArray) : -1 ≤ index xs n ∧ index xs n < xs.length := by
  rcases index_cases xs n with ⟨h1, h2⟩ | ⟨k, hk, h1, h2, h3⟩ <;> omega
def cnames (cs : List C) : List ByteArray := cs.map C.name
def cls (cs : List C) (n : ByteArray) : Int := if 0 ≤ index Builtin.names n then index Builtin.names n else if 0 ≤ index (cnames cs) n then 16 + index (cnames cs) n else -1
def glob (cs : List C) : Sc := fun n => if decide (0 ≤ cls cs n) || Tok.has four n then 2 else if n = tSuper then 1 else 0
def use (cs : List C) (vars fixed fields : List ByteArray) : Sc := fun n => if Tok.has vars n || Tok.has fields n then 3 else if Tok.has fixed n then 2 else glob cs n
theorem ba_of {a b : ByteArray} (e : a.toList = b.toList) : a = b := by
  apply ByteArray.ext
  apply Array.toList_inj.1
  rw [← ByteArray.toList_eq, ← ByteArray.toList_eq]
  exact e
theorem ba_ne {a b : ByteArray} (h : a ≠ b) : (a.toList == b.toList) = false := by
  rw [beq_eq_false_iff_ne]
  exact fun e => h (ba_of e)
theorem ba_same {a b : ByteArray} (h : a = b) : (a.toList == b.toList) = true := by rw [h]; simp
theorem has_iff {xs : List ByteArray} {n : ByteArray} : Tok.has xs n = true ↔ n ∈ xs := by
  unfold Tok.has
  rw [List.any_eq_true]
  constructor
  · rintro ⟨x, hx, he⟩
    have e : x = n := by
      apply ByteArray.ext
      apply Array.toList_inj.1
      rw [← ByteArray.toList_eq, ← ByteArray.toList_eq]
      exact LawfulBEq.eq_of_beq he
    exact e ▸ hx
  · intro h
    exact ⟨n, h, by simp⟩
end Go.Proofs.YtekeondbbikkpaaGreat.Chk
