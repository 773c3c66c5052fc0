/-
  The walk of laws.FnExactFormatToken: it returns true at every token.
-/
import Derived.Test.YtfhjkicfnehjiaaDoorImplFormat
import Derived.Test.YtfhjkicfnehjiaaDoorSpecFormat
import Derived.OpenShut
namespace Go.Proofs.YtfhjkicfnehjiaaDoor.fnExactFormatTokenW
open Go.RowKit
open Strs

set_option maxHeartbeats 1000000 in
theorem size_any (k : Int) (t : ByteArray) (n : Int) (w : World) (hm : t.size ≤ maxLen) :
    Calls Tryd.prog 10 #[.agg #[.int .i64 k, .string t, .int .i64 n], .int .i64 1048576] w fun e w' => (∃ r : Int, e = .returned (.int .i64 r) ∧ (¬ r < 0 → t.size ≤ 1048576)) ∧ Below w.heap.size w w' := by
  unfold maxLen at hm
  by_cases h : (t.size : Int) ≤ 1048576
  · have h0 : ¬ (1048576 : Int) - (t.size : Int) < 0 := by omega
    go_enter Tryd.func10, Tryd.ntmps10
    go_wp2_with fail
    go_ret
    exact ⟨⟨_, rfl, fun _ => by omega⟩, (Below.refl _ _).alloc (Nat.le_refl _) _⟩
  · have h0 : (1048576 : Int) - (t.size : Int) < 0 := by omega
    go_enter Tryd.func10, Tryd.ntmps10
    go_wp2_with fail
    go_ret
    exact ⟨⟨-1, rfl, fun h => by omega⟩, (Below.refl _ _).alloc (Nat.le_refl _) _⟩

set_option maxHeartbeats 1000000 in
theorem to_any (k : Int) (t : ByteArray) (n : Int) (w : World) :
    Calls Tryd.prog 12 #[.agg #[.int .i64 k, .string t, .int .i64 n]] w fun e w' => e = .returned (.agg #[.int .i64 k, .string t, .int .i64 n]) ∧ Below w.heap.size w w' := by
  go_enter Tryd.func12, Tryd.ntmps12
  go_wp2_with fail
  exact bodyPost_ret (v := .agg #[.int .i64 k, .string t, .int .i64 n]) (by simp [results, Tryd.results12, go_sem]) rfl ⟨rfl, (((Below.refl _ _).alloc (Nat.le_refl _) _).alloc (by simp) _).alloc (by simp; omega) _⟩

/-- The argument's own copy at number B, and nothing below it has turned. -/
structure Box (w : World) (B : Nat) (k : Int) (t : ByteArray) (n : Int) (wr : World) : Prop where
  below : Below B w wr
  size : B + 1 ≤ wr.heap.size
  c0 : wr.cell? ⟨B, 0, none⟩ = some (.int .i64 k)
  c1 : wr.cell? ⟨B, 1, none⟩ = some (.string t)
  c2 : wr.cell? ⟨B, 2, none⟩ = some (.int .i64 n)
theorem Box.step {w wr w' : World} {B : Nat} {k : Int} {t : ByteArray} {n : Int} (h : Box w B k t n wr) (hb : Below wr.heap.size wr w') : Box w B k t n w' :=
  ⟨h.below.trans (hb.mono (by have := h.size; omega)), Nat.le_trans h.size hb.size, cell_keep hb h.c0, cell_keep hb h.c1, cell_keep hb h.c2⟩
theorem box_new (w : World) (k : Int) (t : ByteArray) (n : Int) : Box w w.heap.size k t n (w.alloc (.cells #[.int .i64 k, .string t, .int .i64 n] 29)) := by
  refine ⟨(Below.refl _ _).alloc (Nat.le_refl _) _, by simp, ?_, ?_, ?_⟩
  all_goals go_simp

set_option maxHeartbeats 1000000 in
theorem walk (k : Int) (_hk : (Lit.int .i64 k).wf = true) (t : ByteArray) (hm : t.size ≤ maxLen) (n : Int) (hn : (Lit.int .i64 n).wf = true) (w : World) (hM : Max w) :
    Calls Tryd.prog 4 #[.agg #[.int .i64 k, .string t, .int .i64 n]] w fun e w' => e = .returned (.bool true) ∧ Below w.heap.size w w' := by
  have hb : -9223372036854775808 ≤ n ∧ n ≤ 9223372036854775807 := by simpa [Lit.wf, IntKind.min, IntKind.max, IntKind.signed, IntKind.bits] using hn
  go_enter Tryd.func4, Tryd.ntmps4
  have BX := Lib.hid (box_new w k t n)
  have HM0 : Hid (Max (w.alloc (.cells #[.int .i64 k, .string t, .int .i64 n] 29))) := hM.keep ((Below.refl _ _).alloc (Nat.le_refl _) _)
  obtain ⟨hb0, hb9⟩ := hb
  go_wp2_with fail
  refine (size_any k t n _ hm).mono ?_
  rintro e w1 ⟨⟨r, rfl, hr⟩, hb1⟩
  have BX1 := BX.out.step hb1
  have HM1 := Lib.hid (HM0.out.keep hb1)
  clear hb1 BX HM0
  by_cases hrn : r < 0
  · clear hr HM1
    have HB := Lib.hid BX1.below
    clear BX1
    go_wp2_with fail
    go_ret
    exact ⟨rfl, HB.out⟩
  · have ht := hr hrn
    clear hr
    have KS := fun w => Lib.hid (SpecFormat.fmt_any k t n w ht hb0 hb9)
    have KI := fun w h => Lib.hid (ImplFormat.fmt_any k t n w h ht hb0 hb9)
    generalize (⟨(Tok.fmt k t.data.toList n).toArray⟩ : ByteArray) = x at *
    have a0 := BX1.c0
    have a1 := BX1.c1
    have a2 := BX1.c2
    have BH1 := Lib.hid BX1
    clear BX1
    go_wp2_with fail
    refine (to_any k t n _).mono ?_
    rintro e w2 ⟨rfl, hb2⟩
    have BX2 := BH1.out.step hb2
    have HM2 := Lib.hid (HM1.out.keep hb2)
    clear hb2 BH1 HM1 a0 a1 a2
    have BH2 := Lib.hid BX2
    clear BX2
    go_wp2_with fail
    refine (KS _).out.mono ?_
    rintro e w3 ⟨rfl, hb3⟩
    have BX3 := BH2.out.step hb3
    have HM3 := Lib.hid (HM2.out.keep hb3)
    have a0 := BX3.c0
    have a1 := BX3.c1
    have a2 := BX3.c2
    have BH3 := Lib.hid BX3
    clear hb3 BH2 HM2 BX3
    go_wp2_with fail
    refine (to_any k t n _).mono ?_
    rintro e w4 ⟨rfl, hb4⟩
    have BX4 := BH3.out.step hb4
    have HM4 := Lib.hid (HM3.out.keep hb4)
    clear hb4 BH3 HM3 a0 a1 a2
    have BH4 := Lib.hid BX4
    clear BX4
    go_wp2_with fail
    refine (KI _ HM4.out).out.mono ?_
    rintro e w5 ⟨rfl, hb5⟩
    have HB := Lib.hid (BH4.out.step hb5).below
    clear hb5 BH4 HM4
    go_wp2_with fail
    go_ret
    exact ⟨rfl, HB.out⟩
end Go.Proofs.YtfhjkicfnehjiaaDoor.fnExactFormatTokenW
