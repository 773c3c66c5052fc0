/-
  impl's has, isBelow, areCounts, keepsLimits of a store.
-/
import Derived.Test.YtoaocpfehdcfgaaGreatDoorBImplClsAll
import Derived.Test.YtoaocpfehdcfgaaGreatDoorBImplVal
import Derived.Test.YtoaocpfehdcfgaaGreatDoorBStoAt
import Derived.Deep.QuietTactic
import Derived.BigQuiet
namespace Go.Proofs.YtoaocpfehdcfgaaGreatDoor.ImplSto
open Go.RowKit
open Strs Tree Core Sto Go.Proofs.YtoaocpfehdcfgaaGreatDoor.Data
set_option linter.unusedVariables false
set_option linter.unusedSimpArgs false
set_option maxRecDepth 10000 in
set_option maxHeartbeats 8000000 in
theorem has_any {w : World} {sb : Nat} {s : St} (v : V) (nb : Int) (h : SAt w sb s) (ht : v.text.size ≤ 1048576) :
    Calls Tryz.prog 21 #[.pointer (some ⟨sb, 0, none⟩), .agg #[.int .i64 v.kind, .int .i64 v.num, .string v.text], .int .i64 nb] w fun e w' => e = .returned (.bool (fitB s.classes.length s.objects.length nb v)) ∧ Below w.heap.size w w' := by
  have HX := Lib.hid (vbox_new w v 37)
  have KV := fun w' => Lib.hid (val_any v w' ht)
  have HV : Hid (fitB s.classes.length s.objects.length nb v = (valB v && topOf s.classes.length s.objects.length nb v)) := Lib.hid rfl
  have HT : Hid (topOf s.classes.length s.objects.length nb v = if v.kind = 5 then decide (v.num < (s.classes.length : Int)) else if v.kind = 6 then decide (v.num < (s.objects.length : Int)) else if v.kind = 7 then decide (v.num < nb) else true) := Lib.hid rfl
  have HS := Lib.hid h
  generalize fitB s.classes.length s.objects.length nb v = R at *
  generalize topOf s.classes.length s.objects.length nb v = T at *
  generalize valB v = B at *
  cases B with
  | false =>
    have hR : R = false := HV.out
    subst hR
    have m0 := HX.out.a0; have m1 := HX.out.a1; have m2 := HX.out.a2
    go_enter Tryz.func21, Tryz.ntmps21
    go_wp2_with fail
    refine (KV _).out.mono ?_
    rintro e w1 ⟨rfl, hb1⟩
    have X1 := Lib.hid (HX.out.step hb1); clear hb1 m0 m1 m2
    go_wp2_with fail
    go_ret
    exact ⟨rfl, X1.out.below⟩
  | true =>
  rw [Bool.true_and] at HV
  have hRT := HV.out
  subst hRT
  clear HV
  by_cases h5 : v.kind = 5
  · have hT := HT.out
    rw [if_pos h5] at hT
    clear HT
    obtain ⟨k, n, t⟩ := v
    simp only at h5 hT HX KV ⊢
    subst h5
    have m0 := HX.out.a0; have m1 := HX.out.a1; have m2 := HX.out.a2
    go_enter Tryz.func21, Tryz.ntmps21
    go_wp2_with fail
    refine (KV _).out.mono ?_
    rintro e w1 ⟨rfl, hb1⟩
    have X1 := Lib.hid (HX.out.step hb1); clear hb1 m0 m1 m2
    have m0 := X1.out.a0; have m1 := X1.out.a1
    obtain ⟨v0, v1, v2, c0, c1, c2, -, -, -, h0, -⟩ := HS.out.below X1.out.below
    obtain ⟨a, c, rfl, -⟩ := h0
    clear c1 c2
    go_wp2_with fail
    go_quiet (fail)
    go_wp2_with fail
    go_ret
    exact ⟨by rw [hT]; rfl, below_drewN X1.out.below _⟩
  by_cases h6 : v.kind = 6
  · have hT := HT.out
    rw [if_neg h5, if_pos h6] at hT
    clear HT
    obtain ⟨k, n, t⟩ := v
    simp only at h6 hT HX KV ⊢
    subst h6
    have m0 := HX.out.a0; have m1 := HX.out.a1; have m2 := HX.out.a2
    go_enter Tryz.func21, Tryz.ntmps21
    go_wp2_with fail
    refine (KV _).out.mono ?_
    rintro e w1 ⟨rfl, hb1⟩
    have X1 := Lib.hid (HX.out.step hb1); clear hb1 m0 m1 m2
    have m0 := X1.out.a0; have m1 := X1.out.a1
    obtain ⟨v0, v1, v2, c0, c1, c2, -, -, -, -, h0, -⟩ := HS.out.below X1.out.below
    obtain ⟨a, c, rfl, -⟩ := h0
    clear c0 c2
    go_wp2_with fail
    go_quiet (fail)
    go_wp2_with fail
    go_ret
    exact ⟨by rw [hT]; rfl, below_drewN X1.out.below _⟩
  by_cases h7 : v.kind = 7
  · have hT := HT.out
    rw [if_neg h5, if_neg h6, if_pos h7] at hT
    clear HT
    obtain ⟨k, n, t⟩ := v
    simp only at h7 hT HX KV ⊢
    subst h7
    have m0 := HX.out.a0; have m1 := HX.out.a1; have m2 := HX.out.a2
    go_enter Tryz.func21, Tryz.ntmps21
    go_wp2_with fail
    refine (KV _).out.mono ?_
    rintro e w1 ⟨rfl, hb1⟩
    have X1 := Lib.hid (HX.out.step hb1); clear hb1 m0 m1 m2
    have m0 := X1.out.a0; have m1 := X1.out.a1
    go_wp2_with fail
    go_ret
    exact ⟨by rw [hT]; rfl, X1.out.below⟩
  have hT := HT.out
  rw [if_neg h5, if_neg h6, if_neg h7] at hT
  subst hT
  clear HT
  obtain ⟨k, n, t⟩ := v
  simp only at h5 h6 h7 HX KV ⊢
  have g5 := (eq_no h5).1
  have g6 := (eq_no h6).1
  have g7 := (eq_no h7).1
  clear h5 h6 h7
  have m0 := HX.out.a0; have m1 := HX.out.a1; have m2 := HX.out.a2
  go_enter Tryz.func21, Tryz.ntmps21
  go_wp2_with fail
  refine (KV _).out.mono ?_
  rintro e w1 ⟨rfl, hb1⟩
  have X1 := Lib.hid (HX.out.step hb1); clear hb1 m0 m1 m2
  have m0 := X1.out.a0; have m1 := X1.out.a1
  go_wp2_with fail
  go_ret
  exact ⟨rfl, X1.out.below⟩
set_option maxHeartbeats 4000000 in
theorem isbelow_any {w : World} {v : Value} {cs : List I} (h : IsAt 0 w v cs) (hi : infosB cs = true) (k : Nat) (hk : k < cs.length) (ab : Int) (hab : 0 ≤ ab) :
    Calls Tryz.prog 110 #[v, .int .i64 k, .int .i64 ab] w fun e w' => e = .returned (.bool (up cs ab cs.length k)) ∧ w = w' := by
  have HI := Lib.hid h
  have HP := fun (q : Nat) (c : I) (hc : cs[q]? = some c) => Lib.hid (parent_lt hi hc)
  obtain ⟨a, cp, rfl, hm, -⟩ := h
  unfold maxLen at hm
  generalize hR : up cs ab cs.length k = R
  have HR := Lib.hid hR; clear hR
  have HU : Hid (∀ m q, q < 0 → up cs ab m q = false) := Lib.hid fun m q hq => up_neg hq
  generalize hn : cs.length = n at *
  have HN := Lib.hid hn
  clear hn hi
  go_enter Tryz.func110, Tryz.ntmps110
  go_wp2_with fail
  go_loop [1] (fun j => ∃ (m : Nat) (q : Int), j = .int .i64 q ∧ q < (m : Int) ∧ q < (n : Int) ∧ -1 ≤ q ∧ Hid (up cs ab m q = R)) (fun j => (intOf j + 1).toNat)
  case atStart => exact ⟨n, k, rfl, by omega, by omega, by omega, HR⟩
  case round =>
    obtain ⟨m, q, rfl, hq, hqn, hq1, HQ⟩ := hrel
    by_cases h1 : q = -1
    · have hR : R = false := by rw [← HQ.out]; exact HU.out m q (by omega)
      have g0 := (eq_no (show ¬ q = ab by omega)).2
      have g0' := (eq_no (show ¬ q = ab by omega)).1
      have g1 := (eq_yes h1).2
      subst hR
      clear HU HQ HR h1
      go_wp2_with fail
      go_ret
      exact ⟨by simp [g0'], rfl⟩
    obtain ⟨i, rfl⟩ : ∃ i : Nat, q = (i : Int) := ⟨q.toNat, by omega⟩
    have hil : i < cs.length := by rw [HN.out]; omega
    obtain ⟨m', rfl⟩ : ∃ m', m = m' + 1 := ⟨m - 1, by omega⟩
    by_cases he : (i : Int) = ab
    · have hR : R = true := by rw [← HQ.out]; exact up_here hil he
      have g2 := (eq_yes he).2
      have g2' := (eq_yes he).1
      subst hR
      clear HU HQ HR
      go_wp2_with fail
      go_ret
      exact ⟨by simp [g2'], rfl⟩
    have g2 := (eq_no he).2
    have g1 := (eq_no h1).2
    obtain ⟨c, hc⟩ : ∃ c, cs[i]? = some c := ⟨_, List.getElem?_eq_getElem hil⟩
    have HQ2 : Hid (up cs ab m' c.parent = R) := Lib.hid (by rw [← HQ.out]; exact (up_step hc he).symm)
    obtain ⟨hp1, hp2⟩ := (HP i c hc).out
    obtain ⟨b, o, rfl, -, vf, -, c1, -⟩ := HI.out.at hc
    clear HU HQ HR he h1
    generalize c.parent = p at *
    go_wp2_with fail
    go_round
    case rel => exact ⟨m', p, rfl, by omega, by omega, by omega, HQ2⟩
    case measure => simp [intOf]; omega
set_option maxHeartbeats 4000000 in
theorem counts_any {w : World} {v : Value} {xs : List Int} (h : Nums 0 w xs v) :
    Calls Tryz.prog 95 #[v] w fun e w' => e = .returned (.bool (decide (1 ≤ xs.length) && xs.all fun n => decide (0 ≤ n))) ∧ w = w' := by
  obtain ⟨na, nc, rfl, hm, -, hcell⟩ := h
  unfold maxLen at hm
  obtain ⟨R, hR⟩ : ∃ R, R = (decide (1 ≤ xs.length) && xs.all fun n => decide (0 ≤ n)) := ⟨_, rfl⟩
  rw [← hR]
  have HV := Lib.hid hR
  have HC : Hid (0 < xs.length → ∃ b o, na = some ⟨b, o, none⟩ ∧ ∀ j x, xs[j]? = some x → w.cell? ⟨b, o + j, none⟩ = some (.int .i64 x)) := Lib.hid fun hp => by
    obtain ⟨b, o, e, -, hd⟩ := hcell hp
    refine ⟨b, o, e, fun j x hj => ?_⟩
    obtain ⟨hl, rfl⟩ := List.getElem?_eq_some_iff.1 hj
    exact hd j hl
  clear hcell hR
  generalize hn : xs.length = n at *
  have HN := Lib.hid hn
  clear hn
  go_enter Tryz.func95, Tryz.ntmps95
  go_wp2_with fail
  go_loop [4, 7] (fun _ j => ∃ q : Nat, q ≤ n ∧ j = .int .i64 q ∧ Hid ((xs.take q).all (fun n => decide (0 ≤ n)) = true)) (fun _ j => n - (intOf j).toNat)
  case atStart => exact ⟨0, by omega, rfl, Lib.hid rfl⟩
  case round =>
    obtain ⟨q, hq, rfl, HQ⟩ := hrel
    by_cases hlt : q < n
    · have hql : q < xs.length := by rw [HN.out]; exact hlt
      obtain ⟨b, o, rfl, hcd⟩ := HC.out (by omega)
      have hx := List.getElem?_eq_getElem hql
      have n1 := hcd q _ hx
      have HNO1 : Hid (decide (0 ≤ xs[q]) = false → R = false) := Lib.hid fun hh => by rw [HV.out, all_no (p := fun n => decide (0 ≤ n)) hx hh, Bool.and_false]
      have HYES1 : Hid (decide (0 ≤ xs[q]) = true → (xs.take (q + 1)).all (fun n => decide (0 ≤ n)) = true) := Lib.hid fun hh => all_take (p := fun n => decide (0 ≤ n)) HQ.out hx hh
      clear hx hcd
      have hqI : (q : Int) < (n : Int) := by omega
      generalize xs[q] = x at *
      by_cases hp : 0 ≤ x
      · have q5 : ¬ x < 0 := by omega
        have HN1 := Lib.hid (HYES1.out (decide_eq_true hp))
        clear HNO1 HYES1
        go_wp2_with fail
        go_round
        case rel => exact ⟨q + 1, by omega, by go_num, HN1⟩
        case measure => simp [intOf]; omega
      · have hR := HNO1.out (decide_eq_false hp)
        have q5 : x < 0 := by omega
        subst hR
        clear HV HNO1 HYES1
        go_wp2_with fail
        go_ret
        exact ⟨rfl, rfl⟩
    · have hR : R = decide ((0 : Int) < (n : Int)) := by
        rw [HV.out, all_end HQ.out (by rw [HN.out]; omega), Bool.and_true, Bool.eq_iff_iff, decide_eq_true_eq, decide_eq_true_eq]; omega
      subst hR
      clear HV
      go_wp2_with fail
      go_ret
      exact ⟨rfl, rfl⟩
theorem lim_cases (s : St) :
    (limB s = false ∧ (decide ((s.objects.length : Int) ≤ s.made) = false ∨ (decide ((s.objects.length : Int) ≤ s.made) = true ∧ decide (s.made ≤ 800) = false) ∨ (decide ((s.objects.length : Int) ≤ s.made) = true ∧ decide (s.made ≤ 800) = true ∧ decide ((s.output.length : Int) ≤ 60) = false) ∨
      (decide ((s.objects.length : Int) ≤ s.made) = true ∧ decide (s.made ≤ 800) = true ∧ decide ((s.output.length : Int) ≤ 60) = true ∧ decide (0 ≤ s.ticks) = false) ∨ (decide ((s.objects.length : Int) ≤ s.made) = true ∧ decide (s.made ≤ 800) = true ∧ decide ((s.output.length : Int) ≤ 60) = true ∧ decide (0 ≤ s.ticks) = true ∧ decide (s.ticks ≤ s.budget) = false))) ∨
    (decide ((s.objects.length : Int) ≤ s.made) = true ∧ decide (s.made ≤ 800) = true ∧ decide ((s.output.length : Int) ≤ 60) = true ∧ decide (0 ≤ s.ticks) = true ∧ decide (s.ticks ≤ s.budget) = true ∧ limB s = decide (s.budget ≤ 3000)) := by
  have e : decide (s.output.length ≤ 60) = decide ((s.output.length : Int) ≤ 60) := by
    rw [Bool.eq_iff_iff, decide_eq_true_eq, decide_eq_true_eq]; omega
  unfold limB
  rw [e]
  generalize decide ((s.objects.length : Int) ≤ s.made) = b1
  generalize decide (s.made ≤ 800) = b2
  generalize decide ((s.output.length : Int) ≤ 60) = b3
  generalize decide (0 ≤ s.ticks) = b4
  generalize decide (s.ticks ≤ s.budget) = b5
  generalize decide (s.budget ≤ 3000) = b6
  revert b1 b2 b3 b4 b5 b6
  decide
set_option maxRecDepth 10000 in
set_option maxHeartbeats 8000000 in
theorem limits_any {w : World} {sb : Nat} {s : St} (h : SAt w sb s) :
    Calls Tryz.prog 41 #[.pointer (some ⟨sb, 0, none⟩)] w fun e w' => e = .returned (.bool (limB s)) ∧ Below w.heap.size w w' := by
  obtain ⟨v0, v1, v2, c0, c1, c2, c3, c4, c5, h0, h1, h2⟩ := h
  obtain ⟨a1, p1, rfl, hm1, -⟩ := h1
  obtain ⟨a2, p2, rfl, hm2, -⟩ := h2
  have hc := lim_cases s
  generalize limB s = R at *
  generalize s.objects.length = n at *
  generalize s.output.length = m at *
  generalize s.ticks = t at *
  generalize s.budget = b at *
  generalize s.made = d at *
  clear h0 hm1 hm2
  rcases hc with ⟨rfl, hc⟩ | ⟨q1, q2, q3, q4, q5, rfl⟩
  · rcases hc with q1 | ⟨q1, q2⟩ | ⟨q1, q2, q3⟩ | ⟨q1, q2, q3, q4⟩ | ⟨q1, q2, q3, q4, q5⟩
    all_goals
      go_enter Tryz.func41, Tryz.ntmps41
      go_upto_region 1 with fail
      go_quiet (fail)
      go_wp2_with fail
      go_ret
      exact ⟨rfl, below_drewN (Below.refl _ _) _⟩
  · go_enter Tryz.func41, Tryz.ntmps41
    go_upto_region 1 with fail
    go_quiet (fail)
    go_wp2_with fail
    go_ret
    exact ⟨rfl, below_drewN (Below.refl _ _) _⟩
end Go.Proofs.YtoaocpfehdcfgaaGreatDoor.ImplSto
