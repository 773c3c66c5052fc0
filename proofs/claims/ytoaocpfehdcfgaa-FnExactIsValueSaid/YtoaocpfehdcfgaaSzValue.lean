/-
  laws.szValue and szValueS: what they answer, and that they write nothing that was there.
-/
import Derived.Test.YtoaocpfehdcfgaaDataStr
import Derived.Test.YtoaocpfehdcfgaaDataBox
namespace Go.Proofs.Ytoaocpfehdcfgaa.Data
open Go.RowKit
open Strs Tree Texts

set_option maxRecDepth 10000 in
set_option maxHeartbeats 4000000 in
theorem sz_Value (lo left : Nat) (w : World) (ds : List D) (hl : left ≤ 1048576) (hf : FitL (env 10) (erases ds)) (hh : Holdss lo w ds) :
    Calls Try.prog 5 #[agg ds, .int .i64 left] w fun r w' => r = .returned (.int .i64 (after left (weights (erases ds)))) ∧ Below w.heap.size w w' := by
  obtain ⟨n0, e0, rfl, hf_0⟩ := fitL_int hf
  clear hf
  obtain ⟨n1, e1, rfl, hf_1⟩ := fitL_int hf_0
  clear hf_0
  obtain ⟨s2, e2, rfl, hf_2⟩ := fitL_str hf_1
  clear hf_1
  obtain rfl := fitL_nil hf_2
  clear hf_2
  replace hh : Holdss lo w [D.int n0, D.int n1, D.str s2] := hh
  simp only [Holdss, and_true] at hh
  obtain ⟨h0, h1, h2⟩ := hh
  clear h0
  clear h1
  rw [Holds] at h2
  unfold maxLen at h2
  have HW : weights (erases [D.int n0, D.int n1, D.str s2]) = s2.size := by
    first | (simp only [erases, erase, weights, weight]; done) | (simp only [erases, erase, weights, weight]; omega)
  have C0 : Hid (Cells w.heap.size [D.int n0, D.int n1, D.str s2] (w.alloc (Obj.cells #[Value.int .i64 n0, Value.int .i64 n1, Value.string s2] 23))) := Lib.hid (cells_new w [D.int n0, D.int n1, D.str s2] _)
  have B0 : Hid (Below w.heap.size w (w.alloc (Obj.cells #[Value.int .i64 n0, Value.int .i64 n1, Value.string s2] 23))) := Lib.hid ((Below.refl _ _).alloc (Nat.le_refl _) _)
  generalize weights (erases [D.int n0, D.int n1, D.str s2]) = WW at *
  generalize hR : after left WW = R
  have HA := Lib.hid hR
  clear hR
  have HW := Lib.hid HW
  rw [show agg [D.int n0, D.int n1, D.str s2] = Value.agg #[Value.int .i64 n0, Value.int .i64 n1, Value.string s2] from rfl]
  by_cases hs1 : (left : Int) - (s2.size : Int) < 0
  · skip
    have hR : R = -1 := by rw [← HA.out]; exact after_no (by have h0' := HW.out; omega)
    subst hR
    go_enter Try.func5, Try.ntmps5
    go_wp2_with fail
    go_ret
    exact ⟨rfl, B0.out⟩
  obtain ⟨l1, hl1⟩ : ∃ l' : Nat, l' + s2.size = left := ⟨left - s2.size, by omega⟩
  have e1' : (left : Int) - (s2.size : Int) = (l1 : Int) := by omega
  have HL1 := Lib.hid hl1
  clear hl1
  go_enter Try.func5, Try.ntmps5
  have hR : R = (l1 : Int) := by rw [← HA.out, after_yes (by have h0' := HW.out; have h1' := HL1.out; omega)]; have h0' := HW.out; have h1' := HL1.out; omega
  subst hR
  go_wp2_with fail
  go_ret
  exact ⟨rfl, B0.out⟩

end Go.Proofs.Ytoaocpfehdcfgaa.Data
