/-
  Slice values in the form that the model's functions need: rows of texts, but not what trees lead to.
-/
import Derived.Test.YtlmhgeanknhcfaaSpecMeth
namespace Go.Proofs.Ytlmhgeanknhcfaa.Data
open Go.RowKit
open Strs Tree

mutual
def Semi : D → Prop
  | .int _ => True
  | .str _ => True
  | .bool _ => True
  | .row _ k v ds => (k = 1 → Formed v ds.length) ∧ ((∃ n ds', ds = .int n :: ds') ∨ Semis ds)
def Semis : List D → Prop
  | [] => True
  | d :: ds => Semi d ∧ Semis ds
end
theorem semis_iff {ds : List D} : Semis ds ↔ ∀ d, d ∈ ds → Semi d := by
  induction ds with
  | nil => simp [Semis]
  | cons t ts ih => rw [Semis, ih]; simp
theorem Semis.append {a b : List D} : Semis (a ++ b) ↔ Semis a ∧ Semis b := by
  rw [semis_iff, semis_iff, semis_iff]
  constructor
  · intro h
    exact ⟨fun d hd => h d (by simp [hd]), fun d hd => h d (by simp [hd])⟩
  · rintro ⟨h1, h2⟩ d hd
    rcases List.mem_append.1 hd with h | h
    · exact h1 d h
    · exact h2 d h
theorem Strict.semi : ∀ d, Strict d → Semi d := by
  refine ind (fun n _ => ?_) (fun s _ => ?_) (fun b _ => ?_) fun t k v ds ih h => ?_
  · rw [Semi]; trivial
  · rw [Semi]; trivial
  · rw [Semi]; trivial
  · rw [Strict] at h
    obtain ⟨⟨n, h1, h2⟩, h3⟩ := h
    rw [Semi]
    refine ⟨fun e => ?_, .inr (semis_iff.2 fun d hd => ih d hd (stricts_iff.1 h3 d hd))⟩
    subst e
    rw [Nat.mul_one] at h1
    rw [h1]
    exact h2
theorem Stricts.semis {ds : List D} (h : Stricts ds) : Semis ds := semis_iff.2 fun d hd => Strict.semi d (stricts_iff.1 h d hd)
theorem semi_texts {t : Nat} {v : Value} {xs : List ByteArray} (h : Semi (.row t 1 v (strs xs))) : Formed v xs.length := by
  rw [Semi] at h
  have := h.1 rfl
  rwa [strs_len] at this
theorem semi_methods {t k : Nat} {v : Value} {ds : List D} {ms : List M} (h : Semi (.row t k v ds)) (he : erases ds = plainMs ms) : Semis ds := by
  rw [Semi] at h
  rcases h.2 with ⟨n, ds', rfl⟩ | h2
  · rw [erases_cons, erase] at he
    cases ms with
    | nil => cases he
    | cons m ms => rw [plainMs, plainM] at he; cases he
  · exact h2
theorem semi_classes {t k : Nat} {v : Value} {ds : List D} {cs : List C} (h : Semi (.row t k v ds)) (he : erases ds = plainCs cs) : Semis ds := by
  rw [Semi] at h
  rcases h.2 with ⟨n, ds', rfl⟩ | h2
  · rw [erases_cons, erase] at he
    cases cs with
    | nil => cases he
    | cons m ms => rw [plainCs, plainC] at he; cases he
  · exact h2
theorem meth_at2 {lo : Nat} {w : World} {ds : List D} {m : M} (h : erases ds = plainM m) (hh : Holdss lo w ds) (hs : Semis ds) : ∃ v2 v3 v4, agg ds = .agg #[.string m.sel, .bool m.cls, v2, v3, v4] ∧ MAt lo w m v2 v3 v4 := by
  obtain ⟨t2, t3, t4, v2, v3, v4, d4, rfl, h4⟩ := meth_form h
  simp only [Holdss, and_true] at hh
  obtain ⟨g0, g1, g2, g3, g4⟩ := hh
  rw [semis_iff] at hs
  have s0 : m.sel.size ≤ maxLen := by simpa only [Holds] using g0
  exact ⟨v2, v3, v4, rfl, s0, strs_texts g2, strs_texts g3, kids_of h4 g4, semi_texts (hs (.row t2 1 v2 (strs m.params)) (by simp)), semi_texts (hs (.row t3 1 v3 (strs m.temps)) (by simp))⟩
end Go.Proofs.Ytlmhgeanknhcfaa.Data
