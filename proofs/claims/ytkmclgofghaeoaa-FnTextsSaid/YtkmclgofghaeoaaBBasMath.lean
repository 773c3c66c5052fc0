/-
  What a message to a simple value gives: plain mathematics.
-/
import Derived.Test.YtkmclgofghaeoaaBParse
import Derived.Test.YtkmclgofghaeoaaBStoAll
namespace Go.Proofs.Ytkmclgofghaeoaa.Bas
open Go.RowKit
open Strs Sto
structure R where
  code : Int
  kind : Int
  num : Int
  text : ByteArray
  txt : ByteArray
def R.val (r : R) : Value := .agg #[.int .i64 r.code, .int .i64 r.kind, .int .i64 r.num, .string r.text, .string r.txt]
def vval (v : V) : Value := .agg #[.int .i64 v.kind, .int .i64 v.num, .string v.text]
def doneR (v : V) : R := ⟨0, v.kind, v.num, v.text, ⟨#[]⟩⟩
def failR (t : ByteArray) : R := ⟨2, 0, 0, ⟨#[]⟩, t⟩
def zeroR : R := ⟨3, 0, 0, ⟨#[]⟩, ⟨#[100, 105, 118, 105, 115, 105, 111, 110, 32, 98, 121, 32, 122, 101, 114, 111]⟩⟩
def missR : R := ⟨1, 0, 0, ⟨#[]⟩, ⟨#[]⟩⟩
def boolV (b : Bool) : V := ⟨1, if b then 1 else 0, ⟨#[]⟩⟩
def intV (n : Int) : V := ⟨2, n, ⟨#[]⟩⟩
def textV (t : ByteArray) : V := ⟨3, 0, t⟩
def symV (t : ByteArray) : V := ⟨4, 0, t⟩
def nilV : V := ⟨0, 0, ⟨#[]⟩⟩
def numB (n : Int) : Bool := decide (-999999999 ≤ n ∧ n ≤ 999999999)
def numR (n : Int) : R := if numB n then doneR (intV n) else failR ⟨#[111, 118, 101, 114, 102, 108, 111, 119]⟩
def ltB (x y : ByteArray) : Bool := Op.bytesLess x.toList y.toList
def pint (s : ByteArray) : Int × Bool :=
  if ∃ h : 0 < s.size, ((s[0]'h).toNat : Int) = 45 then (-(((Parse.pos (Num.rdNat 999999999999 (s.extract 1 s.size).data.toList)).getD 0 : Nat) : Int), (Parse.pos (Num.rdNat 999999999999 (s.extract 1 s.size).data.toList)).isSome)
  else ((((Num.rdNat 999999999999 s.data.toList).getD 0 : Nat) : Int), (Num.rdNat 999999999999 s.data.toList).isSome)
def restI (a b : Int) : Int := (a.tmod b + b).tmod b
def quotI (a b : Int) : Int := (a - restI a b).tdiv b
theorem tmod_abs (a b : Int) : (a.tmod b).natAbs = a.natAbs % b.natAbs := Int.natAbs_tmod ..
theorem tmod_lt {a b : Int} (hb : b ≠ 0) : (a.tmod b).natAbs < b.natAbs := by
  rw [tmod_abs]; exact Nat.mod_lt _ (by omega)
theorem tm_pos {x b : Int} (hx : 0 ≤ x) : x.tmod b = x % b := Int.tmod_eq_emod_of_nonneg hx
theorem tm_small {x b : Int} (h : x.natAbs < b.natAbs) : x.tmod b = x := by
  have h1 : (x.tdiv b).natAbs = x.natAbs / b.natAbs := Int.natAbs_tdiv ..
  rw [Nat.div_eq_of_lt h] at h1
  have h2 : x.tdiv b = 0 := by omega
  have h3 := Int.mul_tdiv_add_tmod x b
  rw [h2, Int.mul_zero] at h3
  omega
theorem tm_add {r b : Int} (h : r.natAbs < b.natAbs) (hs : 0 ≤ r ∧ 0 < b ∨ r ≤ 0 ∧ b < 0) : (r + b).tmod b = r := by
  rcases hs with ⟨h1, h2⟩ | ⟨h1, h2⟩
  · rw [tm_pos (by omega), Int.add_emod_right, Int.emod_eq_of_lt h1 (by omega)]
  · have e : r + b = -((-r) + (-b)) := by omega
    rw [e, Int.neg_tmod, ← Int.tmod_neg, tm_pos (by omega), Int.add_emod_right, Int.emod_eq_of_lt (by omega) (by omega)]
    omega
def offB (a b : Int) : Bool := (a.tmod b != 0) && (decide (a.tmod b < 0) != decide (b < 0))
theorem off_iff (a b : Int) : offB a b = true ↔ a.tmod b ≠ 0 ∧ ¬ (a.tmod b < 0 ↔ b < 0) := by
  unfold offB
  rw [Bool.and_eq_true, bne_iff_ne, bne_iff_ne, ne_eq, ne_eq, decide_eq_decide]
theorem rest_yes {a b : Int} (hb : b ≠ 0) (h : offB a b = true) : restI a b = a.tmod b + b := by
  have h1 := tmod_lt (a := a) hb
  rw [off_iff] at h
  unfold restI
  exact tm_small (by omega)
theorem rest_no {a b : Int} (hb : b ≠ 0) (h : offB a b = false) : restI a b = a.tmod b := by
  have h1 := tmod_lt (a := a) hb
  have h2 : ¬ (a.tmod b ≠ 0 ∧ ¬ (a.tmod b < 0 ↔ b < 0)) := by rw [← off_iff, h]; exact Bool.false_ne_true
  unfold restI
  exact tm_add h1 (by omega)
theorem quot_yes {a b : Int} (hb : b ≠ 0) (h : offB a b = true) : quotI a b = a.tdiv b - 1 := by
  unfold quotI
  rw [rest_yes hb h]
  have h3 := Int.mul_tdiv_add_tmod a b
  have e : a - (a.tmod b + b) = b * (a.tdiv b - 1) := by rw [Int.mul_sub, Int.mul_one]; omega
  rw [e, Int.mul_tdiv_cancel_left _ hb]
theorem quot_no {a b : Int} (hb : b ≠ 0) (h : offB a b = false) : quotI a b = a.tdiv b := by
  unfold quotI
  rw [rest_no hb h]
  have h3 := Int.mul_tdiv_add_tmod a b
  have e : a - a.tmod b = b * a.tdiv b := by omega
  rw [e, Int.mul_tdiv_cancel_left _ hb]
theorem num_iff (n : Int) : numB n = true ↔ -999999999 ≤ n ∧ n ≤ 999999999 := by unfold numB; rw [decide_eq_true_eq]
theorem quot_num {a b : Int} (ha : numB a = true) (hb : b ≠ 0) : numB (quotI a b) = true := by
  rw [num_iff] at ha ⊢
  have h1 : (a.tdiv b).natAbs = a.natAbs / b.natAbs := Int.natAbs_tdiv ..
  have h4 : a.natAbs / b.natAbs ≤ a.natAbs := Nat.div_le_self _ _
  cases h : offB a b with
  | false => rw [quot_no hb h]; omega
  | true =>
    rw [quot_yes hb h]
    rw [off_iff] at h
    have h2 : b.natAbs ≠ 1 := by
      intro e
      have h3 := tmod_lt (a := a) hb
      omega
    have h5 : a.natAbs / b.natAbs ≤ a.natAbs / 2 := Nat.div_le_div_left (by omega) (by omega)
    omega
theorem rest_num {a b : Int} (hn : numB b = true) (hb : b ≠ 0) : numB (restI a b) = true := by
  rw [num_iff] at hn ⊢
  have h3 := tmod_lt (a := a) hb
  cases h : offB a b with
  | false => rw [rest_no hb h]; omega
  | true => rw [rest_yes hb h]; rw [off_iff] at h; omega
theorem quot_rest {a b : Int} (hb : b ≠ 0) : quotI a b * b + restI a b = a := by
  have h3 := Int.mul_tdiv_add_tmod a b
  cases h : offB a b with
  | false => rw [rest_no hb h, quot_no hb h, Int.mul_comm]; exact h3
  | true => rw [rest_yes hb h, quot_yes hb h, Int.mul_comm, Int.mul_sub, Int.mul_one]; omega
theorem rest_sign {a b : Int} (hb : b ≠ 0) : (restI a b).natAbs < b.natAbs ∧ (restI a b = 0 ∨ (restI a b < 0 ↔ b < 0)) := by
  have h3 := tmod_lt (a := a) hb
  cases h : offB a b with
  | false =>
    have h2 : ¬ (a.tmod b ≠ 0 ∧ ¬ (a.tmod b < 0 ↔ b < 0)) := by rw [← off_iff, h]; exact Bool.false_ne_true
    rw [rest_no hb h]; omega
  | true => rw [rest_yes hb h]; rw [off_iff] at h; omega
structure E where
  name : ByteArray
  needs : Int
  f : V → V → R
def boolOps : List E := [
  ⟨⟨#[38]⟩, 1, fun v a => doneR (boolV (decide (v.num = 1) && decide (a.num = 1)))⟩,
  ⟨⟨#[110, 111, 116]⟩, 0, fun v _ => doneR (boolV (decide (v.num = 0)))⟩]
def intOps : List E := [
  ⟨⟨#[97, 98, 115]⟩, 0, fun v _ => doneR (intV (max v.num (-v.num)))⟩,
  ⟨⟨#[110, 101, 103, 97, 116, 101, 100]⟩, 0, fun v _ => doneR (intV (-v.num))⟩,
  ⟨⟨#[109, 105, 110, 58]⟩, 2, fun v a => doneR (intV (min v.num a.num))⟩,
  ⟨⟨#[109, 97, 120, 58]⟩, 2, fun v a => doneR (intV (max v.num a.num))⟩,
  ⟨⟨#[62, 61]⟩, 2, fun v a => doneR (boolV (decide (a.num ≤ v.num)))⟩,
  ⟨⟨#[60, 61]⟩, 2, fun v a => doneR (boolV (decide (v.num ≤ a.num)))⟩,
  ⟨⟨#[62]⟩, 2, fun v a => doneR (boolV (decide (a.num < v.num)))⟩,
  ⟨⟨#[60]⟩, 2, fun v a => doneR (boolV (decide (v.num < a.num)))⟩,
  ⟨⟨#[92, 92]⟩, 2, fun v a => if a.num = 0 then zeroR else doneR (intV (restI v.num a.num))⟩,
  ⟨⟨#[47, 47]⟩, 2, fun v a => if a.num = 0 then zeroR else doneR (intV (quotI v.num a.num))⟩,
  ⟨⟨#[42]⟩, 2, fun v a => numR (v.num * a.num)⟩,
  ⟨⟨#[45]⟩, 2, fun v a => numR (v.num - a.num)⟩,
  ⟨⟨#[43]⟩, 2, fun v a => numR (v.num + a.num)⟩]
def textOps : List E := [
  ⟨⟨#[97, 115, 73, 110, 116, 101, 103, 101, 114]⟩, 0, fun v _ => if (pint v.text).2 && numB (pint v.text).1 then doneR (intV (pint v.text).1) else doneR nilV⟩,
  ⟨⟨#[97, 115, 83, 121, 109, 98, 111, 108]⟩, 0, fun v _ => if Tok.sel v.text then doneR (symV v.text) else failR ⟨#[110, 111, 116, 32, 97, 32, 115, 101, 108, 101, 99, 116, 111, 114]⟩⟩,
  ⟨⟨#[97, 116, 58]⟩, 0, fun v a => if a.kind = 2 ∧ 1 ≤ a.num ∧ a.num ≤ v.text.size then doneR (textV (v.text.extract (a.num - 1).toNat a.num.toNat)) else failR ⟨#[111, 117, 116, 32, 111, 102, 32, 114, 97, 110, 103, 101]⟩⟩,
  ⟨⟨#[60]⟩, 3, fun v a => doneR (boolV (ltB v.text a.text))⟩,
  ⟨⟨#[44]⟩, 3, fun v a => if 200 < v.text.size + a.text.size then failR ⟨#[116, 111, 111, 32, 108, 111, 110, 103]⟩ else doneR (textV (v.text ++ a.text))⟩,
  ⟨⟨#[115, 105, 122, 101]⟩, 0, fun v _ => doneR (intV v.text.size)⟩]
def symOps : List E := [
  ⟨⟨#[97, 115, 83, 116, 114, 105, 110, 103]⟩, 0, fun v _ => doneR (textV v.text)⟩]
def opsOf (k : Int) : List E := if k = 1 then boolOps else if k = 2 then intOps else if k = 3 then textOps else if k = 4 then symOps else []
def seekE : List E → ByteArray → Option E
  | [], _ => none
  | e :: es, k => if k = e.name then some e else seekE es k
def missed (k : Int) : ByteArray := if k = 2 then ⟨#[110, 111, 116, 32, 97, 32, 110, 117, 109, 98, 101, 114]⟩ else if k = 1 then ⟨#[110, 111, 116, 32, 97, 32, 98, 111, 111, 108, 101, 97, 110]⟩ else ⟨#[110, 111, 116, 32, 97, 32, 116, 101, 120, 116]⟩
def act (v : V) (s : ByteArray) (a : V) : R := match seekE (opsOf v.kind) s with
  | none => missR
  | some e => if e.needs ≠ 0 ∧ e.needs ≠ a.kind then failR (missed e.needs) else e.f v a
def headV : List V → V
  | [] => nilV
  | v :: _ => v
def answer (v : V) (s : ByteArray) (args : List V) : R := if valB v && (decide (Tok.countArgs s = (args.length : Int)) && args.all valB) then act v s (headV args) else missR
end Go.Proofs.Ytkmclgofghaeoaa.Bas
