/-
  impl's has, isBelow, areCounts, keepsLimits of a store.
  impl's isPlain, hasForm, isObject of a store.
-/
import Derived.Test.YtoaocpfehdcfgaaGreatBImplClsAll
import Derived.Test.YtoaocpfehdcfgaaGreatBImplVal
import Derived.Test.YtoaocpfehdcfgaaGreatBStoAt
import Derived.Deep.QuietTactic
import Derived.BigQuiet
import Derived.Deep.RegionWith
namespace Go.Proofs.YtoaocpfehdcfgaaGreat.ImplSto
open Go.RowKit
open Strs Tree Core Sto Go.Proofs.YtoaocpfehdcfgaaGreat.Data
set_option linter.unusedVariables false
set_option linter.unusedSimpArgs false
set_option maxRecDepth 10000 in
set_option maxHeartbeats 8000000 in
theorem has_any {w : World} {sb : Nat} {s : St} (v : V) (nb : Int) (h : SAt w sb s) (ht : v.text.size ≤ 1048576) :
    Calls Tryz.prog 27 #[.pointer (some ⟨sb, 0, none⟩), .agg #[.int .i64 v.kind, .int .i64 v.num, .string v.text], .int .i64 nb] w fun e w' => e = .returned (.bool (fitB s.classes.length s.objects.length nb v)) ∧ Below w.heap.size w w' := by
  have HX := Lib.hid (vbox_new w v 40)
  have KV := fun w' => Lib.hid (val_any v w' ht)
  have HV : Hid (fitB s.classes.length s.objects.length nb v = (valB v && topOf s.classes.length s.objects.length nb v)) := Lib.hid rfl
  have HT : Hid (topOf s.classes.length s.objects.length nb v = if v.kind = 5 then decide (v.num < (s.classes.length : Int)) else if v.kind = 6 then decide (v.num < (s.objects.length : Int)) else if v.kind = 7 then decide (v.num < nb) else true) := Lib.hid rfl
  have HS := Lib.hid h
  generalize fitB s.classes.length s.objects.length nb v = R at *
  generalize topOf s.classes.length s.objects.length nb v = T at *
  generalize valB v = B at *
  cases B with
  | false =>
    have hR : R = false := HV.out
    subst hR
    have m0 := HX.out.a0; have m1 := HX.out.a1; have m2 := HX.out.a2
    go_enter Tryz.func27, Tryz.ntmps27
    go_wp2_with fail
    refine (KV _).out.mono ?_
    rintro e w1 ⟨rfl, hb1⟩
    have X1 := Lib.hid (HX.out.step hb1); clear hb1 m0 m1 m2
    go_wp2_with fail
    go_ret
    exact ⟨rfl, X1.out.below⟩
  | true =>
  rw [Bool.true_and] at HV
  have hRT := HV.out
  subst hRT
  clear HV
  by_cases h5 : v.kind = 5
  · have hT := HT.out
    rw [if_pos h5] at hT
    clear HT
    obtain ⟨k, n, t⟩ := v
    simp only at h5 hT HX KV ⊢
    subst h5
    have m0 := HX.out.a0; have m1 := HX.out.a1; have m2 := HX.out.a2
    go_enter Tryz.func27, Tryz.ntmps27
    go_wp2_with fail
    refine (KV _).out.mono ?_
    rintro e w1 ⟨rfl, hb1⟩
    have X1 := Lib.hid (HX.out.step hb1); clear hb1 m0 m1 m2
    have m0 := X1.out.a0; have m1 := X1.out.a1
    obtain ⟨v0, v1, v2, c0, c1, c2, -, -, -, h0, -⟩ := HS.out.below X1.out.below
    obtain ⟨a, c, rfl, -⟩ := h0
    clear c1 c2
    go_wp2_with fail
    go_quiet (fail)
    go_wp2_with fail
    go_ret
    exact ⟨by rw [hT]; rfl, below_drewN X1.out.below _⟩
  by_cases h6 : v.kind = 6
  · have hT := HT.out
    rw [if_neg h5, if_pos h6] at hT
    clear HT
    obtain ⟨k, n, t⟩ := v
    simp only at h6 hT HX KV ⊢
    subst h6
    have m0 := HX.out.a0; have m1 := HX.out.a1; have m2 := HX.out.a2
    go_enter Tryz.func27, Tryz.ntmps27
    go_wp2_with fail
    refine (KV _).out.mono ?_
    rintro e w1 ⟨rfl, hb1⟩
    have X1 := Lib.hid (HX.out.step hb1); clear hb1 m0 m1 m2
    have m0 := X1.out.a0; have m1 := X1.out.a1
    obtain ⟨v0, v1, v2, c0, c1, c2, -, -, -, -, h0, -⟩ := HS.out.below X1.out.below
    obtain ⟨a, c, rfl, -⟩ := h0
    clear c0 c2
    go_wp2_with fail
    go_quiet (fail)
    go_wp2_with fail
    go_ret
    exact ⟨by rw [hT]; rfl, below_drewN X1.out.below _⟩
  by_cases h7 : v.kind = 7
  · have hT := HT.out
    rw [if_neg h5, if_neg h6, if_pos h7] at hT
    clear HT
    obtain ⟨k, n, t⟩ := v
    simp only at h7 hT HX KV ⊢
    subst h7
    have m0 := HX.out.a0; have m1 := HX.out.a1; have m2 := HX.out.a2
    go_enter Tryz.func27, Tryz.ntmps27
    go_wp2_with fail
    refine (KV _).out.mono ?_
    rintro e w1 ⟨rfl, hb1⟩
    have X1 := Lib.hid (HX.out.step hb1); clear hb1 m0 m1 m2
    have m0 := X1.out.a0; have m1 := X1.out.a1
    go_wp2_with fail
    go_ret
    exact ⟨by rw [hT]; rfl, X1.out.below⟩
  have hT := HT.out
  rw [if_neg h5, if_neg h6, if_neg h7] at hT
  subst hT
  clear HT
  obtain ⟨k, n, t⟩ := v
  simp only at h5 h6 h7 HX KV ⊢
  have g5 := (eq_no h5).1
  have g6 := (eq_no h6).1
  have g7 := (eq_no h7).1
  clear h5 h6 h7
  have m0 := HX.out.a0; have m1 := HX.out.a1; have m2 := HX.out.a2
  go_enter Tryz.func27, Tryz.ntmps27
  go_wp2_with fail
  refine (KV _).out.mono ?_
  rintro e w1 ⟨rfl, hb1⟩
  have X1 := Lib.hid (HX.out.step hb1); clear hb1 m0 m1 m2
  have m0 := X1.out.a0; have m1 := X1.out.a1
  go_wp2_with fail
  go_ret
  exact ⟨rfl, X1.out.below⟩
set_option maxHeartbeats 4000000 in
theorem isbelow_any {w : World} {v : Value} {cs : List I} (h : IsAt 0 w v cs) (hi : infosB cs = true) (k : Nat) (hk : k < cs.length) (ab : Int) (hab : 0 ≤ ab) :
    Calls Tryz.prog 90 #[v, .int .i64 k, .int .i64 ab] w fun e w' => e = .returned (.bool (up cs ab cs.length k)) ∧ w = w' := by
  have HI := Lib.hid h
  have HP := fun (q : Nat) (c : I) (hc : cs[q]? = some c) => Lib.hid (parent_lt hi hc)
  obtain ⟨a, cp, rfl, hm, -⟩ := h
  unfold maxLen at hm
  generalize hR : up cs ab cs.length k = R
  have HR := Lib.hid hR; clear hR
  have HU : Hid (∀ m q, q < 0 → up cs ab m q = false) := Lib.hid fun m q hq => up_neg hq
  generalize hn : cs.length = n at *
  have HN := Lib.hid hn
  clear hn hi
  go_enter Tryz.func90, Tryz.ntmps90
  go_wp2_with fail
  go_loop [1] (fun j => ∃ (m : Nat) (q : Int), j = .int .i64 q ∧ q < (m : Int) ∧ q < (n : Int) ∧ -1 ≤ q ∧ Hid (up cs ab m q = R)) (fun j => (intOf j + 1).toNat)
  case atStart => exact ⟨n, k, rfl, by omega, by omega, by omega, HR⟩
  case round =>
    obtain ⟨m, q, rfl, hq, hqn, hq1, HQ⟩ := hrel
    by_cases h1 : q = -1
    · have hR : R = false := by rw [← HQ.out]; exact HU.out m q (by omega)
      have g0 := (eq_no (show ¬ q = ab by omega)).2
      have g0' := (eq_no (show ¬ q = ab by omega)).1
      have g1 := (eq_yes h1).2
      subst hR
      clear HU HQ HR h1
      go_wp2_with fail
      go_ret
      exact ⟨by simp [g0'], rfl⟩
    obtain ⟨i, rfl⟩ : ∃ i : Nat, q = (i : Int) := ⟨q.toNat, by omega⟩
    have hil : i < cs.length := by rw [HN.out]; omega
    obtain ⟨m', rfl⟩ : ∃ m', m = m' + 1 := ⟨m - 1, by omega⟩
    by_cases he : (i : Int) = ab
    · have hR : R = true := by rw [← HQ.out]; exact up_here hil he
      have g2 := (eq_yes he).2
      have g2' := (eq_yes he).1
      subst hR
      clear HU HQ HR
      go_wp2_with fail
      go_ret
      exact ⟨by simp [g2'], rfl⟩
    have g2 := (eq_no he).2
    have g1 := (eq_no h1).2
    obtain ⟨c, hc⟩ : ∃ c, cs[i]? = some c := ⟨_, List.getElem?_eq_getElem hil⟩
    have HQ2 : Hid (up cs ab m' c.parent = R) := Lib.hid (by rw [← HQ.out]; exact (up_step hc he).symm)
    obtain ⟨hp1, hp2⟩ := (HP i c hc).out
    obtain ⟨b, o, rfl, -, vf, -, c1, -⟩ := HI.out.at hc
    clear HU HQ HR he h1
    generalize c.parent = p at *
    go_wp2_with fail
    go_round
    case rel => exact ⟨m', p, rfl, by omega, by omega, by omega, HQ2⟩
    case measure => simp [intOf]; omega
set_option maxHeartbeats 4000000 in
theorem counts_any {w : World} {v : Value} {xs : List Int} (h : Nums 0 w xs v) :
    Calls Tryz.prog 78 #[v] w fun e w' => e = .returned (.bool (decide (1 ≤ xs.length) && xs.all fun n => decide (0 ≤ n))) ∧ w = w' := by
  obtain ⟨na, nc, rfl, hm, -, hcell⟩ := h
  unfold maxLen at hm
  obtain ⟨R, hR⟩ : ∃ R, R = (decide (1 ≤ xs.length) && xs.all fun n => decide (0 ≤ n)) := ⟨_, rfl⟩
  rw [← hR]
  have HV := Lib.hid hR
  have HC : Hid (0 < xs.length → ∃ b o, na = some ⟨b, o, none⟩ ∧ ∀ j x, xs[j]? = some x → w.cell? ⟨b, o + j, none⟩ = some (.int .i64 x)) := Lib.hid fun hp => by
    obtain ⟨b, o, e, -, hd⟩ := hcell hp
    refine ⟨b, o, e, fun j x hj => ?_⟩
    obtain ⟨hl, rfl⟩ := List.getElem?_eq_some_iff.1 hj
    exact hd j hl
  clear hcell hR
  generalize hn : xs.length = n at *
  have HN := Lib.hid hn
  clear hn
  go_enter Tryz.func78, Tryz.ntmps78
  go_wp2_with fail
  go_loop [4, 7] (fun _ j => ∃ q : Nat, q ≤ n ∧ j = .int .i64 q ∧ Hid ((xs.take q).all (fun n => decide (0 ≤ n)) = true)) (fun _ j => n - (intOf j).toNat)
  case atStart => exact ⟨0, by omega, rfl, Lib.hid rfl⟩
  case round =>
    obtain ⟨q, hq, rfl, HQ⟩ := hrel
    by_cases hlt : q < n
    · have hql : q < xs.length := by rw [HN.out]; exact hlt
      obtain ⟨b, o, rfl, hcd⟩ := HC.out (by omega)
      have hx := List.getElem?_eq_getElem hql
      have n1 := hcd q _ hx
      have HNO1 : Hid (decide (0 ≤ xs[q]) = false → R = false) := Lib.hid fun hh => by rw [HV.out, all_no (p := fun n => decide (0 ≤ n)) hx hh, Bool.and_false]
      have HYES1 : Hid (decide (0 ≤ xs[q]) = true → (xs.take (q + 1)).all (fun n => decide (0 ≤ n)) = true) := Lib.hid fun hh => all_take (p := fun n => decide (0 ≤ n)) HQ.out hx hh
      clear hx hcd
      have hqI : (q : Int) < (n : Int) := by omega
      generalize xs[q] = x at *
      by_cases hp : 0 ≤ x
      · have q5 : ¬ x < 0 := by omega
        have HN1 := Lib.hid (HYES1.out (decide_eq_true hp))
        clear HNO1 HYES1
        go_wp2_with fail
        go_round
        case rel => exact ⟨q + 1, by omega, by go_num, HN1⟩
        case measure => simp [intOf]; omega
      · have hR := HNO1.out (decide_eq_false hp)
        have q5 : x < 0 := by omega
        subst hR
        clear HV HNO1 HYES1
        go_wp2_with fail
        go_ret
        exact ⟨rfl, rfl⟩
    · have hR : R = decide ((0 : Int) < (n : Int)) := by
        rw [HV.out, all_end HQ.out (by rw [HN.out]; omega), Bool.and_true, Bool.eq_iff_iff, decide_eq_true_eq, decide_eq_true_eq]; omega
      subst hR
      clear HV
      go_wp2_with fail
      go_ret
      exact ⟨rfl, rfl⟩
theorem lim_cases (s : St) :
    (limB s = false ∧ (decide ((s.objects.length : Int) ≤ s.made) = false ∨ (decide ((s.objects.length : Int) ≤ s.made) = true ∧ decide (s.made ≤ 800) = false) ∨ (decide ((s.objects.length : Int) ≤ s.made) = true ∧ decide (s.made ≤ 800) = true ∧ decide ((s.output.length : Int) ≤ 60) = false) ∨
      (decide ((s.objects.length : Int) ≤ s.made) = true ∧ decide (s.made ≤ 800) = true ∧ decide ((s.output.length : Int) ≤ 60) = true ∧ decide (0 ≤ s.ticks) = false) ∨ (decide ((s.objects.length : Int) ≤ s.made) = true ∧ decide (s.made ≤ 800) = true ∧ decide ((s.output.length : Int) ≤ 60) = true ∧ decide (0 ≤ s.ticks) = true ∧ decide (s.ticks ≤ s.budget) = false))) ∨
    (decide ((s.objects.length : Int) ≤ s.made) = true ∧ decide (s.made ≤ 800) = true ∧ decide ((s.output.length : Int) ≤ 60) = true ∧ decide (0 ≤ s.ticks) = true ∧ decide (s.ticks ≤ s.budget) = true ∧ limB s = decide (s.budget ≤ 3000)) := by
  have e : decide (s.output.length ≤ 60) = decide ((s.output.length : Int) ≤ 60) := by
    rw [Bool.eq_iff_iff, decide_eq_true_eq, decide_eq_true_eq]; omega
  unfold limB
  rw [e]
  generalize decide ((s.objects.length : Int) ≤ s.made) = b1
  generalize decide (s.made ≤ 800) = b2
  generalize decide ((s.output.length : Int) ≤ 60) = b3
  generalize decide (0 ≤ s.ticks) = b4
  generalize decide (s.ticks ≤ s.budget) = b5
  generalize decide (s.budget ≤ 3000) = b6
  revert b1 b2 b3 b4 b5 b6
  decide
set_option maxRecDepth 10000 in
set_option maxHeartbeats 8000000 in
theorem limits_any {w : World} {sb : Nat} {s : St} (h : SAt w sb s) :
    Calls Tryz.prog 39 #[.pointer (some ⟨sb, 0, none⟩)] w fun e w' => e = .returned (.bool (limB s)) ∧ Below w.heap.size w w' := by
  obtain ⟨v0, v1, v2, c0, c1, c2, c3, c4, c5, h0, h1, h2⟩ := h
  obtain ⟨a1, p1, rfl, hm1, -⟩ := h1
  obtain ⟨a2, p2, rfl, hm2, -⟩ := h2
  have hc := lim_cases s
  generalize limB s = R at *
  generalize s.objects.length = n at *
  generalize s.output.length = m at *
  generalize s.ticks = t at *
  generalize s.budget = b at *
  generalize s.made = d at *
  clear h0 hm1 hm2
  rcases hc with ⟨rfl, hc⟩ | ⟨q1, q2, q3, q4, q5, rfl⟩
  · rcases hc with q1 | ⟨q1, q2⟩ | ⟨q1, q2, q3⟩ | ⟨q1, q2, q3, q4⟩ | ⟨q1, q2, q3, q4, q5⟩
    all_goals
      go_enter Tryz.func39, Tryz.ntmps39
      go_upto_region 1 with fail
      go_quiet (fail)
      go_wp2_with fail
      go_ret
      exact ⟨rfl, below_drewN (Below.refl _ _) _⟩
  · go_enter Tryz.func39, Tryz.ntmps39
    go_upto_region 1 with fail
    go_quiet (fail)
    go_wp2_with fail
    go_ret
    exact ⟨rfl, below_drewN (Below.refl _ _) _⟩
end Go.Proofs.YtoaocpfehdcfgaaGreat.ImplSto

namespace Go.Proofs.YtoaocpfehdcfgaaGreat.ImplSto
open Go.RowKit
open Strs Tree Core Sto Go.Proofs.YtoaocpfehdcfgaaGreat.Data
open ImplCore (closed_is)
set_option linter.unusedVariables false
set_option linter.unusedSimpArgs false
theorem closed_rev (p : Int) (b : Bool) (w : World) (hb : (decide (4 < p) && decide (p < 16)) = b) :
    Calls Tryz.prog 75 #[.int .i64 p] w fun e w' => e = .returned (.bool b) ∧ w' = w := (closed_is p b w hb).mono fun _ _ h => ⟨h.1, h.2.symm⟩
theorem open_cases (n : Nat) (c : Int) (h16 : 16 ≤ n) :
    (canB n c = false ∧ decide (c < 0) = true) ∨ (canB n c = false ∧ decide (c < 0) = false ∧ decide ((n : Int) ≤ c) = true) ∨
    (canB n c = false ∧ (0 ≤ c ∧ c < n) ∧ decide (c < 0) = false ∧ decide ((n : Int) ≤ c) = false ∧ (decide (4 < c) && decide (c < 16)) = true) ∨
    (canB n c = true ∧ (0 ≤ c ∧ c < n) ∧ decide (c < 0) = false ∧ decide ((n : Int) ≤ c) = false ∧ (decide (4 < c) && decide (c < 16)) = false) := by
  have hcan : canB n c = decide ((0 ≤ c ∧ c ≤ 4) ∨ (16 ≤ c ∧ c < (n : Int))) := by
    unfold canB
    rw [Bool.eq_iff_iff]
    simp
  have hcl : (decide (4 < c) && decide (c < 16)) = decide (4 < c ∧ c < 16) := by
    rw [Bool.eq_iff_iff]
    simp
  rw [hcan, hcl]
  by_cases h0 : c < 0
  · exact .inl ⟨decide_eq_false (by omega), decide_eq_true h0⟩
  by_cases h1 : (n : Int) ≤ c
  · exact .inr (.inl ⟨decide_eq_false (by omega), decide_eq_false h0, decide_eq_true h1⟩)
  by_cases h2 : 4 < c ∧ c < 16
  · exact .inr (.inr (.inl ⟨decide_eq_false (by omega), by omega, decide_eq_false h0, decide_eq_false h1, decide_eq_true h2⟩))
  · exact .inr (.inr (.inr ⟨decide_eq_true (by omega), by omega, decide_eq_false h0, decide_eq_false h1, decide_eq_false h2⟩))
set_option maxRecDepth 10000 in
set_option maxHeartbeats 16000000 in
theorem plain_any {w : World} {sb ob oo : Nat} {s : St} {o : O} (h : SAt w sb s) (hic : infosB s.classes = true) (ho : OAt 0 w ob oo o) :
    Calls Tryz.prog 77 #[.pointer (some ⟨sb, 0, none⟩), .pointer (some ⟨ob, oo, none⟩)] w fun e w' => e = .returned (.bool (canB s.classes.length o.cls && (decide (o.fields.length = flen s.classes o.cls) && decide (o.nums.length = if below1 s.classes o.cls then 3 else 0)))) ∧ Below w.heap.size w w' := by
  obtain ⟨hc16, hc24⟩ := infos_len hic
  obtain ⟨vf, vn, m0, m1, m2, m3, hf, hn, -, -⟩ := ho
  obtain ⟨fa, fc, rfl, hfm, -⟩ := hf
  obtain ⟨na, nc, rfl, hnm, -⟩ := hn
  obtain ⟨v0, v1, v2, c0, c1, c2, -, -, -, h0, -⟩ := h
  have HI := Lib.hid h0
  obtain ⟨ca, cc, rfl, hcm, -⟩ := h0
  unfold maxLen at hfm hnm hcm
  clear c1 c2
  have HR : Hid (∃ R, R = (canB s.classes.length o.cls && (decide (o.fields.length = flen s.classes o.cls) && decide (o.nums.length = if below1 s.classes o.cls then 3 else 0)))) := Lib.hid ⟨_, rfl⟩
  obtain ⟨R, hR⟩ := HR.out
  rw [← hR]
  have HRR := Lib.hid hR
  clear hR HR
  have KB := fun (k : Nat) (hk : k < s.classes.length) w' (hb : Below w.heap.size w w') => Lib.hid (isbelow_any (HI.out.below hb) hic k hk 1 (by omega))
  have hcase := open_cases s.classes.length o.cls hc16
  generalize o.fields.length = F at *
  generalize o.nums.length = M at *
  generalize o.cls = c at *
  have HM0 := Lib.hid m0; have HM1 := Lib.hid m1; have HM2 := Lib.hid m2; have HM3 := Lib.hid m3; have HC0 := Lib.hid c0
  clear hc16 hc24 hic
  rcases hcase with ⟨hcan, q0⟩ | ⟨hcan, q0, q1⟩ | ⟨hcan, hcr, q0, q1, q2⟩ | ⟨hcan, hcr, q0, q1, q2⟩
  case inr.inr.inr =>
    obtain ⟨ck, rfl⟩ : ∃ ck : Nat, c = (ck : Int) := ⟨c.toNat, by omega⟩
    have hckl : ck < s.classes.length := by omega
    obtain ⟨cx, hcx⟩ : ∃ cx, s.classes[ck]? = some cx := ⟨_, List.getElem?_eq_getElem hckl⟩
    have HFL : Hid (flen s.classes (ck : Int) = cx.fields.length) := Lib.hid (by unfold flen; rw [Int.toNat_natCast, hcx])
    have KC := fun w' => Lib.hid (closed_rev (ck : Int) false w' q2)
    have KBB := fun w' hb => KB ck hckl w' hb
    have HU : Hid (up s.classes 1 s.classes.length (ck : Int) = below1 s.classes (ck : Int)) := Lib.hid rfl
    rw [HU.out] at KBB
    have HR2 : Hid (R = (decide (F = cx.fields.length) && decide (M = if below1 s.classes (ck : Int) = true then 3 else 0))) := Lib.hid (by rw [HRR.out, hcan, HFL.out, Bool.true_and])
    obtain ⟨cb, co, rfl, -, xf, -, -, x2, hxt, -⟩ := HI.out.at hcx
    obtain ⟨xa, xc, rfl, hxm, -⟩ := hxt
    unfold maxLen at hxm
    have HX2 := Lib.hid x2
    generalize cx.fields.length = L at *
    clear HFL hcx x2 HRR KB HU hcan
    generalize below1 s.classes (ck : Int) = U at *
    generalize s.classes.length = C at *
    have HZ0 : Hid (((M : Int) == 0) = decide (M = 0)) := Lib.hid (by
      rw [Bool.eq_iff_iff, beq_iff_eq, decide_eq_true_eq]; omega)
    have HZ3 : Hid (((M : Int) == 3) = decide (M = 3)) := Lib.hid (by
      rw [Bool.eq_iff_iff, beq_iff_eq, decide_eq_true_eq]; omega)
    cases hFL : ((F : Int) == (L : Int))
    all_goals
      have hzi : ((F : Int) == (L : Int)) = decide (F = L) := by
        rw [Bool.eq_iff_iff, beq_iff_eq, decide_eq_true_eq]; omega
      cases U
      all_goals
        rw [← hzi, hFL] at HR2
        have hR := HR2.out
        simp only [Bool.false_eq_true, if_false, if_true, Bool.true_and, Bool.false_and] at hR
        subst hR
        clear HR2 hzi
        go_enter Tryz.func77, Tryz.ntmps77
        go_upto_region 1 with fail
        go_quiet ((go_at_call 75; exact Calls.quiet_of_same (KC _).out))
        go_wp2_with fail
        obtain ⟨wd, hwd⟩ : ∃ wd, wd = w.drewN nq := ⟨_, rfl⟩
        rw [← hwd]
        have hbd : Below w.heap.size w wd := by rw [hwd]; exact below_drewN (Below.refl _ _) _
        have HBD := Lib.hid hbd
        have KQ := fun n => Lib.hid (Calls.quiet_of_same (((KBB (wd.drewN n) (below_drewN hbd n)).out).mono fun _ _ h => ⟨h.1, h.2.symm⟩))
        clear m0 m1 m2 m3 c0 hwd
        have c0 := cell_keep hbd HC0.out; have m1 := cell_keep hbd HM1.out; have m2 := cell_keep hbd HM2.out; have m3 := cell_keep hbd HM3.out
        clear hbd
        go_quiet ((go_at_call 90; exact (KQ _).out))
        go_wp2_with fail
        obtain ⟨we, hwd⟩ : ∃ we, we = wd.drewN nq := ⟨_, rfl⟩
        rw [← hwd]
        have hbd : Below w.heap.size w we := by rw [hwd]; exact below_drewN HBD.out _
        have HBE := Lib.hid hbd
        clear c0 m1 m2 m3 hwd KQ
        have c0 := cell_keep hbd HC0.out; have m1 := cell_keep hbd HM1.out; have m2 := cell_keep hbd HM2.out; have m3 := cell_keep hbd HM3.out; have x2 := cell_keep hbd HX2.out
        clear hbd
        go_quiet (fail)
        go_wp2_with fail
        go_ret
        first
          | exact ⟨rfl, below_drewN HBE.out _⟩
          | exact ⟨by rw [← HZ0.out]; rfl, below_drewN HBE.out _⟩
          | exact ⟨by rw [← HZ3.out]; rfl, below_drewN HBE.out _⟩
  all_goals
    have hR : R = false := by rw [HRR.out, hcan]; rfl
    have KC := fun (hh : (decide (4 < c) && decide (c < 16)) = true) w' => Lib.hid (closed_rev c true w' hh)
    subst hR
    clear HRR KB hcan
    go_enter Tryz.func77, Tryz.ntmps77
    go_upto_region 1 with fail
    go_quiet ((go_at_call 75; exact Calls.quiet_of_same (KC q2 _).out))
    go_wp2_with fail
    go_ret
    exact ⟨rfl, below_drewN (Below.refl _ _) _⟩
end Go.Proofs.YtoaocpfehdcfgaaGreat.ImplSto
