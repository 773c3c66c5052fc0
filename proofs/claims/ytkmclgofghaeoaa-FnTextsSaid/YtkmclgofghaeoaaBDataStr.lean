/-
  laws.szStringS, toStringS and eqStringS over slices of texts: what they answer, and that they write nothing that was there.
  Rows of texts as data: laws.szStringS, toStringS and eqStringS over them.
-/
import Derived.Test.YtkmclgofghaeoaaBTreeOk
import Derived.Test.YtkmclgofghaeoaaBTypes
import Derived.Outline
import Derived.Deep.QuietTactic
import Derived.BigQuiet
import Derived.Deep.RegionWith
import Derived.Deep.RegionHeld3
namespace Go.Proofs.Ytkmclgofghaeoaa.Texts
open Go.RowKit
open Strs Tree
theorem info9 : (Try.prog.info? 9).map (fun i => (i.zero, i.size, i.bytes)) = some (some (.string ByteArray.empty), 1, 16) := by kernel_rfl
def after (left n : Nat) : Int := if n ≤ left then ((left - n : Nat) : Int) else -1
theorem after_yes {left n : Nat} (h : n ≤ left) : after left n = ((left - n : Nat) : Int) := if_pos h
theorem after_no {left n : Nat} (h : left < n) : after left n = -1 := if_neg (Nat.not_le.2 h)
theorem made_str (n : Nat) : (madeCells #[Value.string ByteArray.empty] n).toList = (List.replicate n ByteArray.empty).map Value.string := by
  apply List.ext_getElem <;> simp [madeCells, Nat.mod_one]
theorem copy_set (xs : List ByteArray) (i n : Nat) (hn : xs.length = n) (hi : i < xs.length) : (xs.take i ++ List.replicate (n - i) ByteArray.empty).set i xs[i] = xs.take (i + 1) ++ List.replicate (n - (i + 1)) ByteArray.empty := by
  have hl : (xs.take i).length = i := by rw [List.length_take]; omega
  rw [List.set_append_right _ _ (by omega), hl, Nat.sub_self, show n - i = (n - (i + 1)) + 1 by omega, List.replicate_succ, List.set_cons_zero, List.take_succ_eq_append_getElem (by omega), List.append_assoc]
  rfl
theorem texts_own {w : World} {base : Nat} {v : Value} {xs : List ByteArray} (h : w.ownsRow base 9 1 v xs.length (xs.map Value.string)) (hs : ∀ x, x ∈ xs → x.size ≤ maxLen) : Texts base w xs v := by
  have h' := h
  obtain ⟨_, ⟨rfl, hn⟩ | ⟨g, cap, cur, rfl, hg, _, hnc, hcm, _, _⟩⟩ := h
  · exact ⟨none, 0, by rw [hn], by unfold maxLen; omega, hs, fun hp => by omega⟩
  · refine ⟨_, cap, rfl, ⟨by omega, by omega⟩, hs, fun hp => ⟨g, 0, rfl, hg, fun j hj => ?_⟩⟩
    rw [Nat.zero_add, h'.cellAt j (by omega)]
    simp [hj]
end Go.Proofs.Ytkmclgofghaeoaa.Texts

namespace Go.Proofs.Ytkmclgofghaeoaa.Data
open Go.RowKit
open Strs Tree Texts
def strs (xs : List ByteArray) : List D := xs.map D.str
theorem strs_vals (xs : List ByteArray) : vals (strs xs) = xs.map Value.string := by simp [vals, strs, val, Function.comp_def]
theorem strs_len (xs : List ByteArray) : (strs xs).length = xs.length := by simp [strs]
theorem strs_erases (xs : List ByteArray) : erases (strs xs) = xs.map P.str := by
  induction xs with
  | nil => rfl
  | cons x xs ih => rw [strs, List.map_cons, erases]; show _ :: erases (strs xs) = _; rw [ih]; rfl
theorem strs_foots (xs : List ByteArray) : foots (strs xs) = [] := by
  induction xs with
  | nil => rfl
  | cons x xs ih => rw [strs, List.map_cons, foots]; show foot (.str x) ++ foots (strs xs) = _; rw [ih]; rfl
theorem strs_fit (xs : List ByteArray) : FitRow 0 (xs.map P.str) := by
  induction xs with
  | nil => exact FitRow.nil 0
  | cons x xs ih => exact FitRow.cons 0 _ [.str x] _ rfl (FitL.cons _ _ _ _ (Fit.str x) FitL.nil) ih
theorem strs_weights (xs : List ByteArray) : weights (xs.map P.str) = lens xs := by
  induction xs with
  | nil => rfl
  | cons x xs ih => rw [List.map_cons, weights, weight, lens, ih]
theorem strs_cnts (xs : List ByteArray) : cnts (xs.map P.str) = xs.length := by
  induction xs with
  | nil => rfl
  | cons x xs ih => rw [List.map_cons, cnts, cnt, ih, List.length_cons]; omega
theorem strs_of : ∀ (n : Nat) (ds : List D), ds.length ≤ n → FitRow 0 (erases ds) → ∃ xs, ds = strs xs := by
  intro n
  induction n with
  | zero => intro ds hl _; exact ⟨[], List.eq_nil_of_length_eq_zero (Nat.le_zero.1 hl)⟩
  | succ n ih =>
    intro ds hl h
    rcases fitRow_cases h with rfl | ⟨item, rest, rfl, h1, h2⟩
    · exact ⟨[], rfl⟩
    · obtain ⟨s, es, rfl, h3⟩ := fitL_str h1
      obtain rfl := fitL_nil h3
      obtain ⟨xs, rfl⟩ := ih rest (by simp at hl; omega) h2
      exact ⟨s :: xs, rfl⟩
theorem strs_get {ds : List D} (h : FitRow 0 (erases ds)) : ∃ xs, ds = strs xs := strs_of _ ds (Nat.le_refl _) h
theorem strs_goods {w : World} {xs : List ByteArray} : Goods w (strs xs) ↔ ∀ x, x ∈ xs → x.size ≤ maxLen := by
  rw [goods_iff]
  constructor
  · intro h x hx
    have := h (.str x) (by simp [strs, hx])
    rw [Good] at this
    exact this
  · intro h d hd
    simp only [strs, List.mem_map] at hd
    obtain ⟨x, hx, rfl⟩ := hd
    rw [Good]
    exact h x hx
theorem strs_texts {lo t : Nat} {w : World} {v : Value} {xs : List ByteArray} (h : Holds lo w (.row t 1 v (strs xs))) : Texts lo w xs v := by
  rw [Holds] at h
  obtain ⟨⟨a, n, cap, rfl, -, h1, h2, h3, h4⟩, h5⟩ := h
  rw [strs_len, Nat.mul_one] at h1
  subst h1
  refine ⟨a, cap, rfl, ⟨h2, h3⟩, fun x hx => ?_, fun hp => ?_⟩
  · have := holdss_iff.1 h5 (.str x) (by simp [strs, hx])
    rw [Holds] at this
    exact this
  · obtain ⟨b, o, rfl, hb, hc⟩ := h4 hp
    refine ⟨b, o, rfl, hb, fun j hj => ?_⟩
    rw [hc j (by rw [strs_len]; exact hj)]
    simp [strs, val]
theorem strs_row {T base : Nat} {w : World} {v : Value} {xs : List ByteArray} (h : w.ownsRow base T 1 v xs.length (xs.map Value.string)) (hx : ∀ x, x ∈ xs → x.size ≤ maxLen) : Row base w T 1 v (strs xs) :=
  ⟨⟨xs.length, by decide, by rw [strs_len, Nat.mul_one], by rw [strs_vals]; exact h⟩, ⟨strs_goods.2 hx, by rw [strs_foots]; exact List.nodup_nil, fun b hb => by rw [strs_foots] at hb; cases hb⟩, fun b _ hb => by rw [strs_foots] at hb; cases hb⟩
end Go.Proofs.Ytkmclgofghaeoaa.Data
