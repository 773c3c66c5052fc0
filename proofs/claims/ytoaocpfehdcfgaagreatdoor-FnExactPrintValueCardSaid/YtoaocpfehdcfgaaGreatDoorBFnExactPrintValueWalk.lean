/-
  spec.l9Print at every depth; spec.PrintValue.
  The walk of laws.FnExactPrintValue: it returns true at every input.
-/
import Derived.Test.YtoaocpfehdcfgaaGreatDoorBLwFnExactPrintValue
import Derived.Test.YtoaocpfehdcfgaaGreatDoorBPvAnsI
import Derived.Test.YtoaocpfehdcfgaaGreatDoorBPvPrintA
namespace Go.Proofs.YtoaocpfehdcfgaaGreatDoor.SpecPv
open Go.RowKit
open Strs Tree Core Sto Pv Go.Proofs.YtoaocpfehdcfgaaGreatDoor.Data
set_option linter.unusedVariables false
set_option linter.unusedSimpArgs false
theorem val_text {v : V} (h : valB v = true) : v.text.size ≤ 200 := by
  unfold valB at h
  have he : emptyB v.text = true → v.text.size ≤ 200 := fun q => by unfold emptyB at q; rw [decide_eq_true_eq] at q; omega
  by_cases h0 : v.kind = 0
  · rw [if_pos h0, Bool.and_eq_true] at h; exact he h.2
  rw [if_neg h0] at h
  by_cases h1 : v.kind = 1
  · rw [if_pos h1, Bool.and_eq_true] at h; exact he h.2
  rw [if_neg h1] at h
  by_cases h2 : v.kind = 2
  · rw [if_pos h2, Bool.and_eq_true] at h; exact he h.2
  rw [if_neg h2] at h
  by_cases h3 : v.kind = 3
  · rw [if_pos h3, Bool.and_eq_true] at h
    have := h.2
    unfold lineB at this
    rw [Bool.and_eq_true, decide_eq_true_eq] at this
    exact this.1
  rw [if_neg h3] at h
  by_cases h4 : v.kind = 4
  · rw [if_pos h4, Bool.and_eq_true] at h
    have := sel_size h.2
    omega
  rw [if_neg h4] at h
  by_cases h5 : 5 ≤ v.kind ∧ v.kind ≤ 7
  · rw [if_pos h5, Bool.and_eq_true] at h; exact he h.2
  · rw [if_neg h5] at h; cases h
theorem fit_val {nc no : Nat} {nb : Int} {v : V} (h : fitB nc no nb v = true) : valB v = true := by
  unfold fitB at h; rw [Bool.and_eq_true] at h; exact h.1
theorem ok_all {s : St} (hst : stoB s 1000 = true) (hsm : SmallSt s) : ∀ d, d ≤ 3 → OkS s d := by
  have step : ∀ d, d ≤ 3 → (∀ d', d = d' + 1 → OkS s d') → OkS s d := by
    intro d hd ih dI v w sb hdI h hf
    by_cases hk : v.kind = 6
    · exact object_print hd hst hsm ih dI hdI v w sb h hf hk
    · exact simple_any (sto_infos hst) dI v w sb h hf hk (Nat.le_trans (val_text (fit_val hf)) (by decide))
  intro d
  induction d with
  | zero => exact fun h => step 0 h fun d' e => by omega
  | succ d ih =>
    intro h
    refine step (d + 1) h fun d' e => ?_
    obtain rfl : d = d' := by omega
    exact ih (by omega)
set_option maxRecDepth 10000 in
set_option maxHeartbeats 8000000 in
theorem printvalue_any {w : World} {v0 v1 v2 : Value} {s : St} (v : V) (h0 : IsAt 0 w v0 s.classes) (h1 : OsAt 0 w v1 s.objects) (h2 : Texts 0 w s.output v2) (hs : SmallSt s) (hv : v.text.size ≤ 1048576) :
    Calls Tryz.prog 6 #[.agg #[v0, v1, v2, .int .i64 s.ticks, .int .i64 s.budget, .int .i64 s.made], .agg #[.int .i64 v.kind, .int .i64 v.num, .string v.text]] w fun e w' => e = .returned (.string (printAns s v)) ∧ Below w.heap.size w w' := by
  have hb : Below w.heap.size w (w.alloc (.cells #[v0, v1, v2, .int .i64 s.ticks, .int .i64 s.budget, .int .i64 s.made] 35)) := (Below.refl _ _).alloc (Nat.le_refl _) _
  have S0 := sat_new 35 h0 h1 h2
  obtain ⟨W, hW⟩ : ∃ W, W = w.alloc (.cells #[v0, v1, v2, .int .i64 s.ticks, .int .i64 s.budget, .int .i64 s.made] 35) := ⟨_, rfl⟩
  have hWs : W.heap.size = w.heap.size + 1 := by rw [hW]; simp
  have X0 := vbox_new W v 37
  rw [← hW] at S0 hb
  rw [hWs] at X0
  have HX := Lib.hid X0
  have HS := Lib.hid (S0.below X0.below)
  have HB := Lib.hid (hb.trans (X0.below.mono hb.size))
  have K1 := Lib.hid (SpecSto.store_any 1000 HS.out hs)
  have K2 := fun w' (q : SAt w' w.heap.size s) => Lib.hid (SpecSto.fits_any v 1000 q hv)
  have K3 := fun w' (q : SAt w' w.heap.size s) (hst : stoB s 1000 = true) hf => Lib.hid (ok_all hst hs 3 (by omega) 3 v w' w.heap.size rfl q hf)
  have HV : Hid (printAns s v = if stoB s 1000 && fitB s.classes.length s.objects.length 1000 v then tx (printD s 3 v) else ByteArray.empty) := Lib.hid rfl
  rw [hW] at HX HS HB K1
  have m0 := HX.out.a0; have m1 := HX.out.a1; have m2 := HX.out.a2
  clear hb S0 X0 h0 h1 h2 hs hWs hW
  obtain ⟨k, m, t⟩ := v
  simp only at *
  generalize printAns s ⟨k, m, t⟩ = R at *
  generalize tx (printD s 3 ⟨k, m, t⟩) = Q at *
  generalize hF : fitB s.classes.length s.objects.length 1000 ⟨k, m, t⟩ = F at *
  generalize hA : stoB s 1000 = A at *
  cases A with
  | false =>
    have hR : R = ByteArray.empty := HV.out
    subst hR
    clear HV
    go_enter Tryz.func6, Tryz.ntmps6
    go_wp2_with fail
    refine K1.out.mono ?_
    rintro e w1 ⟨rfl, hb1⟩
    have H1 := Lib.hid (HB.out.trans (hb1.mono HB.out.size))
    clear hb1 m0 m1 m2
    go_wp2_with fail
    go_ret
    exact ⟨rfl, H1.out⟩
  | true =>
  cases F with
  | false =>
    have hR : R = ByteArray.empty := HV.out
    subst hR
    clear HV
    go_enter Tryz.func6, Tryz.ntmps6
    go_wp2_with fail
    refine K1.out.mono ?_
    rintro e w1 ⟨rfl, hb1⟩
    have H1 := Lib.hid (HB.out.trans (hb1.mono HB.out.size))
    have S1 := Lib.hid (HS.out.below hb1)
    have X1 := Lib.hid (HX.out.step hb1)
    clear hb1 m0 m1 m2
    have m0 := X1.out.a0; have m1 := X1.out.a1; have m2 := X1.out.a2
    go_wp2_with fail
    refine (K2 _ S1.out).out.mono ?_
    rintro e w2 ⟨rfl, hb2⟩
    have H2 := Lib.hid (H1.out.trans (hb2.mono H1.out.size))
    clear hb2 m0 m1 m2
    go_wp2_with fail
    go_ret
    exact ⟨rfl, H2.out⟩
  | true =>
    have hR : R = Q := HV.out
    subst hR
    clear HV
    go_enter Tryz.func6, Tryz.ntmps6
    go_wp2_with fail
    refine K1.out.mono ?_
    rintro e w1 ⟨rfl, hb1⟩
    have H1 := Lib.hid (HB.out.trans (hb1.mono HB.out.size))
    have S1 := Lib.hid (HS.out.below hb1)
    have X1 := Lib.hid (HX.out.step hb1)
    clear hb1 m0 m1 m2
    have m0 := X1.out.a0; have m1 := X1.out.a1; have m2 := X1.out.a2
    go_wp2_with fail
    refine (K2 _ S1.out).out.mono ?_
    rintro e w2 ⟨rfl, hb2⟩
    have H2 := Lib.hid (H1.out.trans (hb2.mono H1.out.size))
    have S2 := Lib.hid (S1.out.below hb2)
    have X2 := Lib.hid (X1.out.step hb2)
    clear hb2 m0 m1 m2
    have m0 := X2.out.a0; have m1 := X2.out.a1; have m2 := X2.out.a2
    go_wp2_with fail
    refine (K3 _ S2.out (by first | exact hA | trivial) (by first | exact hF | trivial)).out.mono ?_
    rintro e w3 ⟨rfl, hb3⟩
    have H3 := Lib.hid (H2.out.trans (hb3.mono H2.out.size))
    clear hb3 m0 m1 m2
    go_wp2_with fail
    go_ret
    exact ⟨rfl, H3.out⟩
end Go.Proofs.YtoaocpfehdcfgaaGreatDoor.SpecPv

namespace Go.Proofs.YtoaocpfehdcfgaaGreatDoor.fnExactPrintValueW
open Go.RowKit
open Strs Tree Texts Core Sto Pv Go.Proofs.YtoaocpfehdcfgaaGreatDoor.Data
theorem walk (ds : List D) (hf : FitL (env 12) (erases ds)) (dv : List D) (hfv : FitL (env 10) (erases dv)) (w : World) (hh : Holdss 0 w ds) (hv : Holdss 0 w dv) (hM : Strs.Max w) :
    Calls Tryz.prog 3 #[agg ds, agg dv] w fun e w' => e = .returned (.bool true) ∧ Below w.heap.size w w' := by
  obtain ⟨s, hs⟩ := store_get hf
  obtain ⟨v, -, hdv⟩ := value_get hfv
  refine walk_of (printAns s v) w ds hf hh dv hfv hv ?_ ?_
  · intro w' es fs he hfe hh hst hw hhf hstf hwf
    obtain ⟨lo, hh⟩ := hh
    obtain ⟨lo2, hhf⟩ := hhf
    have he2 := he.trans hs
    have hf2 := hfe.trans hdv
    have hsm := smallSt_of (s := s) (by rw [← he2]; exact hw)
    obtain ⟨v0, v1, v2, hag, h0, h1, h2, -⟩ := store_open he2 (hh.keep (Nat.zero_le _) (fun _ _ _ _ hc => hc)) hst
    obtain ⟨hav, -, -, -⟩ := value_agg hf2 hhf
    rw [hag, hav]
    exact SpecPv.printvalue_any v h0 h1 h2 hsm (by rw [hf2, plainV_weight] at hwf; exact hwf)
  · intro w' es fs hb he hfe ho hw hwf
    have he2 := he.trans hs
    have hf2 := hfe.trans hdv
    have hsm := smallSt_of (s := s) (by rw [← he2]; exact hw)
    obtain ⟨v0, v1, v2, hag, h0, h1, h2, -⟩ := store_open he2 ho.left.holds ho.left.strict
    obtain ⟨hav, -, -, -⟩ := value_agg hf2 ho.right.holds
    rw [hag, hav]
    exact ImplPv.printvalue_any v h0 h1 h2 hsm (by rw [hf2, plainV_weight] at hwf; exact hwf) (hM.keep hb)
end Go.Proofs.YtoaocpfehdcfgaaGreatDoor.fnExactPrintValueW
