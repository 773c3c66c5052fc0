/-
  laws.toValue and toValueS: they copy into memory of their own.
-/
import Derived.Test.YtoaocpfehdcfgaaDataStr
import Derived.Test.YtoaocpfehdcfgaaDataBox
namespace Go.Proofs.Ytoaocpfehdcfgaa.Data
open Go.RowKit
open Strs Tree Texts
set_option linter.unusedSimpArgs false

set_option maxRecDepth 10000 in
set_option maxHeartbeats 4000000 in
theorem to_Value (lo : Nat) (w : World) (ds : List D) (hw : weights (erases ds) ≤ 1048576) (hf : FitL (env 10) (erases ds)) (hh : Holdss lo w ds) :
    Calls Try.prog 7 #[agg ds] w fun r w' => ∃ es, r = .returned (agg es) ∧ erases es = erases ds ∧ Own w.heap.size w' es ∧ Below w.heap.size w w' := by
  obtain ⟨n0, e0, rfl, hf_0⟩ := fitL_int hf
  clear hf
  obtain ⟨n1, e1, rfl, hf_1⟩ := fitL_int hf_0
  clear hf_0
  obtain ⟨s2, e2, rfl, hf_2⟩ := fitL_str hf_1
  clear hf_1
  obtain rfl := fitL_nil hf_2
  clear hf_2
  simp only [Holdss, and_true] at hh
  obtain ⟨h0, h1, h2⟩ := hh
  have P0 := Lib.hid h0
  have P1 := Lib.hid h1
  have P2 := Lib.hid h2
  clear hw h0 h1 h2
  have B0 : Hid (Box w [D.int n0, D.int n1, D.str s2] [D.int 0, D.int 0, D.str ⟨#[]⟩] [D.int n0, D.int n1, D.str s2] (((w.alloc (Obj.cells #[Value.int .i64 n0, Value.int .i64 n1, Value.string s2] 23)).alloc (Obj.cells #[Value.int .i64 0, Value.int .i64 0, Value.string { data := #[] }] 26)).alloc (Obj.cells #[Value.int .i64 n0, Value.int .i64 n1, Value.string s2] 26))) := Lib.hid (box_new w [D.int n0, D.int n1, D.str s2] [D.int 0, D.int 0, D.str ⟨#[]⟩] [D.int n0, D.int n1, D.str s2] _ _ _)
  rw [show agg [D.int n0, D.int n1, D.str s2] = Value.agg #[Value.int .i64 n0, Value.int .i64 n1, Value.string s2] from rfl]
  go_enter Try.func7, Try.ntmps7
  have b0 := B0.out.b.at 0 (D.int 0) rfl
  have c0 := B0.out.c.at 0 (D.int n0) rfl
  simp only [val] at b0 c0
  have b1 := B0.out.b.at 1 (D.int 0) rfl
  have c1 := B0.out.c.at 1 (D.int n1) rfl
  simp only [val] at b1 c1
  have b2 := B0.out.b.at 2 (D.str ⟨#[]⟩) rfl
  have c2 := B0.out.c.at 2 (D.str s2) rfl
  simp only [val] at b2 c2
  have fb := B0.out.fb
  have fc := B0.out.fc
  go_wp2_with fail
  refine bodyPost_ret (v := .agg #[Value.int .i64 n0, Value.int .i64 n1, Value.string s2]) (by simp [results, Try.results7, go_sem, *]) rfl ?_
  have g1 : w.heap.size + 1 + 1 < w.heap.size + 3 := by omega
  have g2 : w.heap.size + 1 < w.heap.size + 3 := by omega
  have g3 : w.heap.size ≤ w.heap.size + 1 + 1 := by omega
  have g4 : w.heap.size ≤ w.heap.size + 1 := by omega
  have OWN := ((((Own.nil (w.heap.size + 3) w).setLow g2 0 (Value.int .i64 n0)).setLow g2 1 (Value.int .i64 n1)).setLow g2 2 (Value.string s2))
  refine ⟨[D.int n0, D.int n1, D.str s2], rfl, ?_, ?_, ((((Below.refl _ _).alloc (Nat.le_refl _) _).alloc (by simp) _).alloc (by simp; omega) _)⟩
  · simp only [erases, erase]
  · refine ⟨?_, ?_, ?_⟩
    · have hg := OWN.good
      simp only [goods_iff, List.mem_append, List.mem_cons, List.not_mem_nil, or_false] at hg ⊢
      intro d hd
      rcases hd with rfl | rfl | rfl
      · have h := P0.out; rw [Holds] at h; rw [Good]; exact h
      · have h := P1.out; rw [Holds] at h; rw [Good]; exact h
      · have h := P2.out; rw [Holds] at h; rw [Good]; exact h
    · have h := OWN.nd
      simp only [foots, foot, foots_append, List.append_nil, List.nil_append, List.append_assoc] at h ⊢
      exact h
    · have h := OWN.lo
      intro b hb
      refine Nat.le_trans (by omega) (h b ?_)
      simp only [foots, foot, foots_append, List.append_nil, List.nil_append, List.append_assoc] at hb ⊢
      exact hb

end Go.Proofs.Ytoaocpfehdcfgaa.Data
