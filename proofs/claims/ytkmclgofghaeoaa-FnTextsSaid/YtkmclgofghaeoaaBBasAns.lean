/-
  What messages to two integers and to two texts give: plain mathematics.
-/
import Derived.Test.YtkmclgofghaeoaaBSpecBasA
namespace Go.Proofs.Ytkmclgofghaeoaa.BasAns
open Go.RowKit
open Strs Sto Bas SpecBas
set_option linter.unusedVariables false
theorem all_one {x : V} (h : valB x = true) : [x].all valB = true := by rw [List.all_cons, h]; rfl
theorem ans_one {v x : V} {s : ByteArray} {e : E} (hv : valB v = true) (hx : valB x = true) (hc : Tok.countArgs s = 1) (he : seekE (opsOf v.kind) s = some e) (hn : e.needs = 0 ∨ x.kind = e.needs) : answer v s [x] = e.f v x := by
  unfold answer
  rw [hv, all_one hx, hc, decide_eq_true (by rfl)]
  exact act_does he hn
theorem ans_nil {v : V} {s : ByteArray} {e : E} (hv : valB v = true) (hc : Tok.countArgs s = 0) (he : seekE (opsOf v.kind) s = some e) (hn : e.needs = 0) : answer v s [] = e.f v nilV := by
  unfold answer
  rw [hv, hc, decide_eq_true (by rfl)]
  exact act_does he (.inl hn)
theorem not_done {v x : V} {s : ByteArray} {k : Int} (h : ∀ e, seekE (opsOf v.kind) s = some e → e.needs = k) (h0 : k ≠ 0) (hk : seekE (opsOf v.kind) s ≠ none → x.kind ≠ k) : (answer v s [x]).code = 1 ∨ (answer v s [x]).code = 2 := by
  unfold answer
  split
  · rw [show headV [x] = x from rfl]
    cases he : seekE (opsOf v.kind) s with
    | none => rw [act_none he]; exact .inl rfl
    | some e =>
      have h1 := h e he
      have h2 := hk (by rw [he]; exact fun h => by cases h)
      rw [act_needs he (by rw [h1]; exact h0) (by rw [h1]; exact h2)]
      exact .inr rfl
  · exact .inl rfl
theorem plus_no {v x : V} (h : ¬ (v.kind = 2 ∧ x.kind = 2)) : (answer v ⟨#[43]⟩ [x]).code = 1 ∨ (answer v ⟨#[43]⟩ [x]).code = 2 := by
  refine not_done (k := 2) (fun e he => ?_) (by decide) (fun hne hx => h ⟨?_, hx⟩)
  · unfold opsOf at he
    split at he
    · cases he
    split at he
    · cases he; rfl
    split at he
    · cases he
    split at he
    · cases he
    · cases he
  · unfold opsOf at hne
    split at hne
    · exact absurd rfl hne
    split at hne
    · assumption
    split at hne
    · exact absurd rfl hne
    split at hne
    · exact absurd rfl hne
    · exact absurd rfl hne
theorem comma_no {v x : V} (h : ¬ (v.kind = 3 ∧ x.kind = 3)) : (answer v ⟨#[44]⟩ [x]).code = 1 ∨ (answer v ⟨#[44]⟩ [x]).code = 2 := by
  refine not_done (k := 3) (fun e he => ?_) (by decide) (fun hne hx => h ⟨?_, hx⟩)
  · unfold opsOf at he
    split at he
    · cases he
    split at he
    · cases he
    split at he
    · cases he; rfl
    split at he
    · cases he
    · cases he
  · unfold opsOf at hne
    split at hne
    · exact absurd rfl hne
    split at hne
    · exact absurd rfl hne
    split at hne
    · assumption
    split at hne
    · exact absurd rfl hne
    · exact absurd rfl hne
theorem c_quot : Tok.countArgs ⟨#[47, 47]⟩ = 1 := by simp only [Tok.countArgs, Tok.sel, Tok.has, Tok.keys, Tok.isName, ByteArray.toList_eq]; decide +kernel
theorem c_rest : Tok.countArgs ⟨#[92, 92]⟩ = 1 := by simp only [Tok.countArgs, Tok.sel, Tok.has, Tok.keys, Tok.isName, ByteArray.toList_eq]; decide +kernel
theorem c_lt : Tok.countArgs ⟨#[60]⟩ = 1 := by simp only [Tok.countArgs, Tok.sel, Tok.has, Tok.keys, Tok.isName, ByteArray.toList_eq]; decide +kernel
theorem c_ge : Tok.countArgs ⟨#[62, 61]⟩ = 1 := by simp only [Tok.countArgs, Tok.sel, Tok.has, Tok.keys, Tok.isName, ByteArray.toList_eq]; decide +kernel
theorem c_max : Tok.countArgs ⟨#[109, 97, 120, 58]⟩ = 1 := by simp only [Tok.countArgs, Tok.sel, Tok.has, Tok.keys, Tok.isName, ByteArray.toList_eq]; decide +kernel
theorem c_min : Tok.countArgs ⟨#[109, 105, 110, 58]⟩ = 1 := by simp only [Tok.countArgs, Tok.sel, Tok.has, Tok.keys, Tok.isName, ByteArray.toList_eq]; decide +kernel
theorem c_comma : Tok.countArgs ⟨#[44]⟩ = 1 := by simp only [Tok.countArgs, Tok.sel, Tok.has, Tok.keys, Tok.isName, ByteArray.toList_eq]; decide +kernel
theorem c_at : Tok.countArgs ⟨#[97, 116, 58]⟩ = 1 := by simp only [Tok.countArgs, Tok.sel, Tok.has, Tok.keys, Tok.isName, ByteArray.toList_eq]; decide +kernel
theorem c_size : Tok.countArgs ⟨#[115, 105, 122, 101]⟩ = 0 := by simp only [Tok.countArgs, Tok.sel, Tok.has, Tok.keys, Tok.isName, ByteArray.toList_eq]; decide +kernel
theorem c_sym : Tok.countArgs ⟨#[97, 115, 83, 121, 109, 98, 111, 108]⟩ = 0 := by simp only [Tok.countArgs, Tok.sel, Tok.has, Tok.keys, Tok.isName, ByteArray.toList_eq]; decide +kernel
theorem c_str : Tok.countArgs ⟨#[97, 115, 83, 116, 114, 105, 110, 103]⟩ = 0 := by simp only [Tok.countArgs, Tok.sel, Tok.has, Tok.keys, Tok.isName, ByteArray.toList_eq]; decide +kernel
section
variable {v x : V} (hv : valB v = true) (hx : valB x = true) (h1 : v.kind = 2) (h2 : x.kind = 2)
include hv hx h1 h2
theorem a_quot : answer v ⟨#[47, 47]⟩ [x] = if x.num = 0 then zeroR else doneR (intV (quotI v.num x.num)) := ans_one hv hx c_quot (by rw [h1]; rfl) (.inr h2)
theorem a_rest : answer v ⟨#[92, 92]⟩ [x] = if x.num = 0 then zeroR else doneR (intV (restI v.num x.num)) := ans_one hv hx c_rest (by rw [h1]; rfl) (.inr h2)
theorem a_lt : answer v ⟨#[60]⟩ [x] = doneR (boolV (decide (v.num < x.num))) := ans_one hv hx c_lt (by rw [h1]; rfl) (.inr h2)
theorem a_ge : answer v ⟨#[62, 61]⟩ [x] = doneR (boolV (decide (x.num ≤ v.num))) := ans_one hv hx c_ge (by rw [h1]; rfl) (.inr h2)
theorem a_max : answer v ⟨#[109, 97, 120, 58]⟩ [x] = doneR (intV (max v.num x.num)) := ans_one hv hx c_max (by rw [h1]; rfl) (.inr h2)
theorem a_min : answer v ⟨#[109, 105, 110, 58]⟩ [x] = doneR (intV (min v.num x.num)) := ans_one hv hx c_min (by rw [h1]; rfl) (.inr h2)
end
end Go.Proofs.Ytkmclgofghaeoaa.BasAns
