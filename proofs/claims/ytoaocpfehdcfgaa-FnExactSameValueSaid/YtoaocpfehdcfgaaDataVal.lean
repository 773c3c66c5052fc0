/-
  Values as data, where there are no stores.
-/
import Derived.Test.YtoaocpfehdcfgaaTypes
import Derived.Test.YtoaocpfehdcfgaaStoMath
namespace Go.Proofs.Ytoaocpfehdcfgaa.DVal
open Go.RowKit
open Strs Core Sto Go.Proofs.Ytoaocpfehdcfgaa.Data

def plainV (v : V) : List P := [.int v.kind, .int v.num, .str v.text]
theorem plainV_fit (c : V) : FitL (env 10) (plainV c) := FitL.cons _ _ _ _ (Fit.int _) (FitL.cons _ _ _ _ (Fit.int _) (FitL.cons _ _ _ _ (Fit.str _) FitL.nil))
theorem value_get {ds : List D} (h : FitL (env 10) (erases ds)) : ∃ v : V, ds = [.int v.kind, .int v.num, .str v.text] ∧ erases ds = plainV v := by
  obtain ⟨n0, e0, rfl, h0⟩ := fitL_int h
  obtain ⟨n1, e1, rfl, h1⟩ := fitL_int h0
  obtain ⟨s2, e2, rfl, h2⟩ := fitL_str h1
  obtain rfl := fitL_nil h2
  exact ⟨⟨n0, n1, s2⟩, rfl, rfl⟩
theorem value_form {ds : List D} {v : V} (h : erases ds = plainV v) : ds = [.int v.kind, .int v.num, .str v.text] := by
  obtain ⟨v', rfl, h5⟩ := value_get (ds := ds) (h ▸ plainV_fit v)
  have e := h5.symm.trans h
  obtain ⟨a1, a2, a3⟩ := v'
  obtain ⟨b1, b2, b3⟩ := v
  simp only [plainV, List.cons.injEq, P.str.injEq, P.int.injEq, and_true] at e
  obtain ⟨rfl, rfl, rfl⟩ := e
  rfl
theorem value_agg {lo : Nat} {w : World} {ds : List D} {v : V} (he : erases ds = plainV v) (hh : Holdss lo w ds) :
    agg ds = .agg #[.int .i64 v.kind, .int .i64 v.num, .string v.text] ∧ (Lit.int .i64 v.kind).wf = true ∧ (Lit.int .i64 v.num).wf = true ∧ v.text.size ≤ maxLen := by
  obtain rfl := value_form he
  simp only [Holdss, and_true] at hh
  exact ⟨rfl, by simpa only [Holds] using hh.1, by simpa only [Holds] using hh.2.1, by simpa only [Holds] using hh.2.2⟩

theorem plainV_weight (v : V) : Data.weights (plainV v) = v.text.size := by
  simp only [plainV, Data.weights, Data.weight]; omega
end Go.Proofs.Ytoaocpfehdcfgaa.DVal
