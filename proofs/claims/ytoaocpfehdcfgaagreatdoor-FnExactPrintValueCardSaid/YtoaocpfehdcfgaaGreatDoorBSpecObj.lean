/-
  spec.l9Object: an object is right in a store.
-/
import Derived.Test.YtoaocpfehdcfgaaGreatDoorBSpecFit
import Derived.Deep.QuietTactic
import Derived.BigQuiet
import Derived.Deep.RegionWith
namespace Go.Proofs.YtoaocpfehdcfgaaGreatDoor.SpecSto
open Go.RowKit
open Strs Tree Core Sto Go.Proofs.YtoaocpfehdcfgaaGreatDoor.Data
set_option linter.unusedVariables false
set_option linter.unusedSimpArgs false
structure OBox (w0 : World) (g : Nat) (k c : Int) (vf vn : Value) (wx : World) : Prop where
  below : Below w0.heap.size w0 wx
  a0 : wx.cell? ⟨g, 0, none⟩ = some (.int .i64 k)
  a1 : wx.cell? ⟨g, 1, none⟩ = some (.int .i64 c)
  a2 : wx.cell? ⟨g, 2, none⟩ = some vf
  a3 : wx.cell? ⟨g, 3, none⟩ = some vn
theorem OBox.step {w0 wx w' : World} {g : Nat} {k c : Int} {vf vn : Value} (h : OBox w0 g k c vf vn wx) (hb : Below wx.heap.size wx w') : OBox w0 g k c vf vn w' :=
  ⟨h.below.trans (hb.mono h.below.size), cell_keep hb h.a0, cell_keep hb h.a1, cell_keep hb h.a2, cell_keep hb h.a3⟩
theorem obox_new (w : World) (k c : Int) (vf vn : Value) (T : TypeId) : OBox w w.heap.size k c vf vn (w.alloc (.cells #[.int .i64 k, .int .i64 c, vf, vn] T)) :=
  ⟨(Below.refl _ _).alloc (Nat.le_refl _) _, by go_simp, by go_simp, by go_simp, by go_simp⟩
theorem can_cases (n : Nat) (c : Int) (h16 : 16 ≤ n) (hn : n ≤ 24) :
    (canB n c = false ∧ (c == 0) = false ∧ decide (1 ≤ c ∧ c ≤ 4) = false ∧ decide (16 ≤ c ∧ c ≤ (n : Int) - 1) = false) ∨
    (canB n c = true ∧ (0 ≤ c ∧ c < n) ∧ (c == 0) = true) ∨
    (canB n c = true ∧ (0 ≤ c ∧ c < n) ∧ (c == 0) = false ∧ decide (1 ≤ c ∧ c ≤ 4) = true) ∨
    (canB n c = true ∧ (0 ≤ c ∧ c < n) ∧ (c == 0) = false ∧ decide (1 ≤ c ∧ c ≤ 4) = false ∧ decide (16 ≤ c ∧ c ≤ (n : Int) - 1) = true) := by
  have hcan : canB n c = decide ((0 ≤ c ∧ c ≤ 4) ∨ (16 ≤ c ∧ c < (n : Int))) := by
    unfold canB
    rw [Bool.eq_iff_iff]
    simp
  rw [hcan]
  by_cases h0 : c = 0
  · exact .inr (.inl ⟨decide_eq_true (by omega), by omega, (eq_yes h0).1⟩)
  · have g0 := (eq_no h0).1
    by_cases h1 : 1 ≤ c ∧ c ≤ 4
    · exact .inr (.inr (.inl ⟨decide_eq_true (by omega), by omega, g0, decide_eq_true h1⟩))
    · by_cases h2 : 16 ≤ c ∧ c ≤ (n : Int) - 1
      · exact .inr (.inr (.inr ⟨decide_eq_true (by omega), by omega, g0, decide_eq_false h1, decide_eq_true h2⟩))
      · exact .inl ⟨decide_eq_false (by omega), g0, decide_eq_false h1, decide_eq_false h2⟩
theorem in_is (a b c : Int) (r : Bool) (h : decide (b ≤ a ∧ a ≤ c) = r) (w : World) :
    Calls Tryz.prog 29 #[.int .i64 a, .int .i64 b, .int .i64 c] w fun e w' => e = .returned (.bool r) ∧ w' = w := by
  subst h
  exact (SpecTree.in_any a b c w).mono fun _ _ h => ⟨h.1, h.2.symm⟩
set_option maxRecDepth 10000 in
set_option maxHeartbeats 16000000 in
theorem object_any {w : World} {sb : Nat} {s : St} (o : O) (nb : Int) (vf vn : Value) (h : SAt w sb s) (hic : infosB s.classes = true) (hf : VsAt 0 w vf o.fields) (hn : Nums 0 w o.nums vn) (hsz : ∀ v, v ∈ o.fields → v.text.size ≤ 1048576) :
    Calls Tryz.prog 32 #[.pointer (some ⟨sb, 0, none⟩), .agg #[.int .i64 o.kind, .int .i64 o.cls, vf, vn], .int .i64 nb] w fun e w' => e = .returned (.bool (objB s.classes s.objects.length nb o)) ∧ Below w.heap.size w w' := by
  have HS := Lib.hid h
  have HF := Lib.hid hf
  have HNN := Lib.hid hn
  have HX := Lib.hid (obox_new w o.kind o.cls vf vn 72)
  have HSZ := Lib.hid hsz
  obtain ⟨hc16, hc24⟩ := infos_len hic
  have HIC := Lib.hid hic
  obtain ⟨fa, fc, rfl, hfm, -⟩ := id hf
  obtain ⟨na, ncp, rfl, hnm, -⟩ := id hn
  unfold maxLen at hfm hnm
  have HV : Hid (objB s.classes s.objects.length nb o = (formB s.classes o && o.fields.all (fitB s.classes.length s.objects.length nb))) := Lib.hid rfl
  have HFO : Hid (formB s.classes o = if o.kind = 1 then canB s.classes.length o.cls && (decide (o.fields.length = flen s.classes o.cls) && decide (o.nums.length = if below1 s.classes o.cls then 3 else 0))
      else if o.kind = 2 then decide (o.cls = 10) && (decide (o.fields.length ≤ 50) && decide (o.nums.length = 0))
      else if o.kind = 3 then decide (o.cls = 12) && (decide (o.fields.length = 0) && (decide (1 ≤ o.nums.length) && o.nums.all fun n => decide (0 ≤ n)))
      else false) := Lib.hid rfl
  have KF := fun (w' : World) (hb : Below w.heap.size w w') (v : V) (hv : v ∈ o.fields) => Lib.hid (fits_any v nb (HS.out.below hb) (hsz v hv))
  clear h hf hn hsz hic
  generalize formB s.classes o = F at *
  generalize objB s.classes s.objects.length nb o = R at *
  generalize hNf : o.fields.length = N at *
  have HNF := Lib.hid hNf
  generalize hMn : o.nums.length = M at *
  have HMN := Lib.hid hMn
  generalize hC : s.classes.length = C at *
  have HC := Lib.hid hC
  clear hNf hMn hC
  generalize o.kind = k at *
  generalize o.cls = c at *
  go_enter Tryz.func32, Tryz.ntmps32
  go_wp2_with fail
  go_loopw [7] (fun j wr => ∃ i : Nat, i ≤ N ∧ j = .int .i64 i ∧ Hid ((o.fields.take i).all (fitB C s.objects.length nb) = true) ∧ Hid (OBox w w.heap.size k c (.slice fa N fc) (.slice na M ncp) wr)) (fun j _ => N - (intOf j).toNat)
  case atStart => exact ⟨0, by omega, rfl, Lib.hid rfl, HX⟩
  case round =>
    obtain ⟨i, hi, rfl, HQ, HB⟩ := hrel
    have a0 := HB.out.a0; have a1 := HB.out.a1; have a2 := HB.out.a2; have a3 := HB.out.a3
    by_cases hlt : i < N
    · have hil : i < o.fields.length := by rw [HNF.out]; exact hlt
      obtain ⟨v, hv⟩ : ∃ v, o.fields[i]? = some v := ⟨_, List.getElem?_eq_getElem hil⟩
      have K := KF wr HB.out.below v (List.mem_of_getElem? hv)
      obtain ⟨fb, fo, rfl, -, m0, m1, m2, -⟩ := (HF.out.below HB.out.below).at hv
      have HNO : Hid (fitB C s.objects.length nb v = false → R = false) := Lib.hid fun hh => by rw [HV.out, all_no hv hh, Bool.and_false]
      have HYES : Hid (fitB C s.objects.length nb v = true → (o.fields.take (i + 1)).all (fitB C s.objects.length nb) = true) := Lib.hid fun hh => all_take HQ.out hv hh
      clear hv
      generalize fitB C s.objects.length nb v = B at *
      obtain ⟨vk, vm, vt⟩ := v
      simp only at m0 m1 m2 K
      have hiI : (i : Int) < (N : Int) := by omega
      cases B with
      | false =>
        have hR := HNO.out rfl
        subst hR
        clear HNO HYES HV HFO
        go_wp2_with fail
        refine K.out.mono ?_
        rintro e w2 ⟨rfl, hb2⟩
        have H2 := Lib.hid (HB.out.step hb2); clear hb2 a0 a1 a2 a3 m0 m1 m2
        go_wp2_with fail
        go_ret
        exact ⟨rfl, H2.out.below⟩
      | true =>
        have HNEW := Lib.hid (HYES.out rfl)
        clear HNO HYES
        go_wp2_with fail
        refine K.out.mono ?_
        rintro e w2 ⟨rfl, hb2⟩
        have H2 := Lib.hid (HB.out.step hb2); clear hb2 a0 a1 a2 a3 m0 m1 m2
        go_wp2_with fail
        go_roundw
        case rel => exact ⟨i + 1, by omega, by go_num, HNEW, H2⟩
        case measure => simp [intOf]; omega
    have hall : o.fields.all (fitB C s.objects.length nb) = true := all_end HQ.out (by rw [HNF.out]; omega)
    have HVF : Hid (R = F) := Lib.hid (by rw [HV.out, hall, Bool.and_true])
    have hRF := HVF.out
    subst hRF
    clear HV HVF hall HQ KF HF
    have hiN : i = N := by omega
    subst hiN
    have HSB := Lib.hid (HS.out.below HB.out.below)
    by_cases hk1 : k = 1
    · have HF1 : Hid (R = (canB C c && (decide (i = flen s.classes c) && decide (M = if below1 s.classes c then 3 else 0)))) := Lib.hid (by rw [HFO.out, if_pos hk1])
      have g1 := (eq_yes hk1).1
      subst hk1
      obtain ⟨v0, v1, v2, c0, c1, c2, -, -, -, h0, -⟩ := HSB.out
      have HI := Lib.hid h0
      obtain ⟨ca, cc, rfl, hcm, -⟩ := h0
      rw [HC.out] at hcm c0 HI
      unfold maxLen at hcm
      have KU := fun w' (hb : Below wr.heap.size wr w') => Lib.hid (isa_any (HI.out.below hb) HIC.out c 1)
      have HB1 : Hid (up s.classes 1 s.classes.length c = below1 s.classes c) := Lib.hid rfl
      rw [HB1.out] at KU
      clear c1 c2 HFO HB1
      generalize hU : below1 s.classes c = U at *
      clear hU
      have hcase := can_cases C c hc16 hc24
      generalize hcan : canB C c = CB at *
      clear hcan
      have KUU := fun n => Lib.hid (Calls.quiet_of_same (((KU (wr.drewN n) (below_drewN (Below.refl _ _) n)).out).mono fun _ _ h => ⟨h.1, h.2.symm⟩))
      clear KU
      have HC0 := Lib.hid c0
      have KQ14 := fun b hb w' => Lib.hid (in_is c 1 4 b hb w')
      have KQ16 := fun b hb w' => Lib.hid (in_is c 16 ((C : Int) - 1) b hb w')
      rcases hcase with ⟨rfl, q0, q1, q2⟩ | ⟨rfl, hcr, q0⟩ | ⟨rfl, hcr, q0, q1⟩ | ⟨rfl, hcr, q0, q1, q2⟩
      case inl =>
        have hR : R = false := HF1.out
        subst hR
        clear HF1
        have K1 := KQ14 _ q1
        have K2 := KQ16 _ q2
        clear KQ14 KQ16 q1 q2
        cases U
        all_goals
          go_wp2_with fail
          go_quiet ((go_at_call 61; exact (KUU _).out))
          go_wp2_with fail
          obtain ⟨wd, hwd⟩ : ∃ wd, wd = wr.drewN nq := ⟨_, rfl⟩
          rw [← hwd]
          have hbd : Below wr.heap.size wr wd := by rw [hwd]; exact below_drewN (Below.refl _ _) _
          have HBD := Lib.hid (HB.out.step hbd)
          clear a0 a1 a2 a3 c0 hwd
          have a0 := HBD.out.a0; have a1 := HBD.out.a1; have a2 := HBD.out.a2; have a3 := HBD.out.a3; have c0 := cell_keep hbd HC0.out
          clear hbd
          go_quiet (first | (go_at_call_of 29 (Value.int IntKind.i64 4); exact Calls.quiet_of_same (K1 _).out) | (go_at_call_of 29 (Value.int IntKind.i64 16); exact Calls.quiet_of_same (K2 _).out))
          go_wp2_with fail
          obtain ⟨we, hwd⟩ : ∃ we, we = wd.drewN nq := ⟨_, rfl⟩
          rw [← hwd]
          have hbd : Below wd.heap.size wd we := by rw [hwd]; exact below_drewN (Below.refl _ _) _
          have HBE := Lib.hid (HBD.out.step hbd)
          clear a0 a1 a2 a3 c0 hwd hbd
          go_quiet (fail)
          go_wp2_with fail
          go_ret
          exact ⟨rfl, below_drewN HBE.out.below _⟩
      all_goals
        obtain ⟨ck, rfl⟩ : ∃ ck : Nat, c = (ck : Int) := ⟨c.toNat, by omega⟩
        have hckl : ck < s.classes.length := by rw [HC.out]; omega
        obtain ⟨cx, hcx⟩ : ∃ cx, s.classes[ck]? = some cx := ⟨_, List.getElem?_eq_getElem hckl⟩
        have HFL : Hid (flen s.classes (ck : Int) = cx.fields.length) := Lib.hid (by unfold flen; rw [Int.toNat_natCast, hcx])
        have HF2 : Hid (R = (decide (i = cx.fields.length) && decide (M = if U = true then 3 else 0))) := Lib.hid (by rw [HF1.out, HFL.out, Bool.true_and])
        obtain ⟨cb, co, rfl, -, xf, -, -, x2, hxt, -⟩ := HI.out.at hcx
        obtain ⟨xa, xc, rfl, hxm, -⟩ := hxt
        unfold maxLen at hxm
        generalize cx.fields.length = L at *
        have HX2 := Lib.hid x2
        clear HF1 HFL hcx x2 hckl
        have KQ := fun w' => Lib.hid (And.intro (fun b hb => (KQ14 b hb w').out) (fun b hb => (KQ16 b hb w').out))
        clear KQ14 KQ16
        have HZ0 : Hid (((M : Int) == 0) = decide (M = 0)) := Lib.hid (by
          rw [Bool.eq_iff_iff, beq_iff_eq, decide_eq_true_eq]; omega)
        have HZ3 : Hid (((M : Int) == 3) = decide (M = 3)) := Lib.hid (by
          rw [Bool.eq_iff_iff, beq_iff_eq, decide_eq_true_eq]; omega)
        cases hFL : ((i : Int) == (L : Int))
        all_goals
          cases U
          all_goals
            have hzi : ((i : Int) == (L : Int)) = decide (i = L) := by
              rw [Bool.eq_iff_iff, beq_iff_eq, decide_eq_true_eq]; omega
            rw [← hzi, hFL] at HF2
            have hR := HF2.out
            simp only [Bool.false_eq_true, if_false, if_true, Bool.true_and, Bool.false_and] at hR
            subst hR
            clear HF2 hzi
            go_wp2_with fail
            go_quiet ((go_at_call 61; exact (KUU _).out))
            go_wp2_with fail
            obtain ⟨wd, hwd⟩ : ∃ wd, wd = wr.drewN nq := ⟨_, rfl⟩
            rw [← hwd]
            have hbd : Below wr.heap.size wr wd := by rw [hwd]; exact below_drewN (Below.refl _ _) _
            have HBD := Lib.hid (HB.out.step hbd)
            have HCD := Lib.hid (cell_keep hbd HC0.out)
            have HXD := Lib.hid (cell_keep hbd HX2.out)
            clear a0 a1 a2 a3 c0 hwd hbd
            have a0 := HBD.out.a0; have a1 := HBD.out.a1; have a2 := HBD.out.a2; have a3 := HBD.out.a3; have c0 := HCD.out
            go_quiet (first | (go_at_call_of 29 (Value.int IntKind.i64 4); exact Calls.quiet_of_same ((KQ _).out.1 _ q1)) | (go_at_call_of 29 (Value.int IntKind.i64 16); exact Calls.quiet_of_same ((KQ _).out.2 _ q2)))
            go_wp2_with fail
            obtain ⟨we, hwd⟩ : ∃ we, we = wd.drewN nq := ⟨_, rfl⟩
            rw [← hwd]
            have hbd : Below wd.heap.size wd we := by rw [hwd]; exact below_drewN (Below.refl _ _) _
            have HBE := Lib.hid (HBD.out.step hbd)
            have x2 := cell_keep hbd HXD.out
            clear a0 a1 a2 a3 c0 hwd
            have a0 := HBE.out.a0; have a1 := HBE.out.a1; have a2 := HBE.out.a2; have a3 := HBE.out.a3; have c0 := cell_keep hbd HCD.out
            clear hbd
            go_quiet (fail)
            go_wp2_with fail
            go_ret
            first
              | exact ⟨rfl, below_drewN HBE.out.below _⟩
              | exact ⟨by rw [← HZ0.out]; rfl, below_drewN HBE.out.below _⟩
              | exact ⟨by rw [← HZ3.out]; rfl, below_drewN HBE.out.below _⟩
    by_cases hk2 : k = 2
    · have HF1 : Hid (R = (decide (c = 10) && (decide (i ≤ 50) && decide (M = 0)))) := Lib.hid (by rw [HFO.out, if_neg hk1, if_pos hk2])
      have g1 := (eq_no hk1).1
      have g2 := (eq_yes hk2).1
      subst hk2
      clear HFO hk1
      have hcase : (Hid (R = false) ∧ (c == 10) = false) ∨ (Hid (R = false) ∧ (c == 10) = true ∧ decide ((i : Int) ≤ 50) = false) ∨ (Hid (R = false) ∧ (c == 10) = true ∧ decide ((i : Int) ≤ 50) = true ∧ ((M : Int) == 0) = false) ∨ (Hid (R = true) ∧ (c == 10) = true ∧ decide ((i : Int) ≤ 50) = true ∧ ((M : Int) == 0) = true) := by
        by_cases h1 : c = 10
        case neg => exact .inl ⟨Lib.hid (by rw [HF1.out, decide_eq_false h1]; rfl), (eq_no h1).1⟩
        by_cases h2 : i ≤ 50
        case neg => exact .inr (.inl ⟨Lib.hid (by rw [HF1.out, decide_eq_false h2]; simp), (eq_yes h1).1, decide_eq_false (by omega)⟩)
        by_cases h3 : M = 0
        case neg => exact .inr (.inr (.inl ⟨Lib.hid (by rw [HF1.out, decide_eq_false h3]; simp), (eq_yes h1).1, decide_eq_true (by omega), (eq_no (by omega)).1⟩))
        exact .inr (.inr (.inr ⟨Lib.hid (by rw [HF1.out, decide_eq_true h1, decide_eq_true h2, decide_eq_true h3]; rfl), (eq_yes h1).1, decide_eq_true (by omega), (eq_yes (by omega)).1⟩))
      clear HF1
      rcases hcase with ⟨hR, q1⟩ | ⟨hR, q1, q2⟩ | ⟨hR, q1, q2, q3⟩ | ⟨hR, q1, q2, q3⟩
      all_goals
        have hR2 := hR.out
        subst hR2
        clear hR
        go_wp2_with fail
        go_ret
        exact ⟨rfl, HB.out.below⟩
    by_cases hk3 : k = 3
    case neg =>
      have hR : R = false := by rw [HFO.out, if_neg hk1, if_neg hk2, if_neg hk3]
      have g1 := (eq_no hk1).1
      have g2 := (eq_no hk2).1
      have g3 := (eq_no hk3).1
      subst hR
      clear HFO hk1 hk2 hk3
      go_wp2_with fail
      go_ret
      exact ⟨rfl, HB.out.below⟩
    have HF1 : Hid (R = (decide (c = 12) && (decide (i = 0) && (decide (1 ≤ M) && o.nums.all fun n => decide (0 ≤ n))))) := Lib.hid (by rw [HFO.out, if_neg hk1, if_neg hk2, if_pos hk3])
    have g1 := (eq_no hk1).1
    have g2 := (eq_no hk2).1
    have g3 := (eq_yes hk3).1
    subst hk3
    clear HFO hk1 hk2
    by_cases h1 : c = 12
    case neg =>
      have hR : R = false := by rw [HF1.out, decide_eq_false h1]; rfl
      have q1 := (eq_no h1).2
      subst hR
      clear HF1 h1
      go_wp2_with fail
      go_ret
      exact ⟨rfl, HB.out.below⟩
    have q1 := (eq_yes h1).2
    by_cases h2 : i = 0
    case neg =>
      have hR : R = false := by rw [HF1.out, decide_eq_false h2]; simp
      have q2 : decide ((0 : Int) < (i : Int)) = true := decide_eq_true (by omega)
      subst hR
      clear HF1 h1
      go_wp2_with fail
      go_ret
      exact ⟨rfl, HB.out.below⟩
    have q2 : decide ((0 : Int) < (i : Int)) = false := decide_eq_false (by omega)
    by_cases h3 : 1 ≤ M
    case neg =>
      have hR : R = false := by rw [HF1.out, decide_eq_false h3]; simp
      have q3 : decide ((M : Int) < 1) = true := decide_eq_true (by omega)
      subst hR
      clear HF1 h1
      go_wp2_with fail
      go_ret
      exact ⟨rfl, HB.out.below⟩
    have q3 : decide ((M : Int) < 1) = false := decide_eq_false (by omega)
    rw [decide_eq_true h1, decide_eq_true h2, decide_eq_true h3, Bool.true_and, Bool.true_and, Bool.true_and] at HF1
    obtain ⟨na', ncp', e, -, -, hcell⟩ := HNN.out
    have hna : na' = na := by injection e with e1 e2 e3; exact e1.symm
    rw [hna] at hcell
    clear e hna h1
    obtain ⟨nbk, no, rfl, -, hcd⟩ := hcell (by rw [HMN.out]; omega)
    have HCD := Lib.hid hcd
    clear hcd hcell
    have HNM : ∀ (q : Nat) (hq : q < o.nums.length) (w' : World), Below w.heap.size w w' → w'.cell? ⟨nbk, no + q, none⟩ = some (.int .i64 o.nums[q]) := fun q hq w' hb => cell_keep hb (HCD.out q hq)
    have HNM := Lib.hid HNM
    have n0 : wr.cell? ⟨nbk, no, none⟩ = _ := HNM.out 0 (by rw [HMN.out]; omega) wr HB.out.below
    obtain ⟨x0, hx0⟩ : ∃ x0, o.nums[0]? = some x0 := ⟨_, List.getElem?_eq_getElem (by rw [HMN.out]; omega)⟩
    have hx0' := (List.getElem?_eq_some_iff.1 hx0).2
    rw [hx0'] at n0
    have HNO0 : Hid (decide (0 ≤ x0) = false → R = false) := Lib.hid fun hh => by rw [HF1.out]; exact all_no hx0 hh
    have HYES0 : Hid (decide (0 ≤ x0) = true → (o.nums.take 1).all (fun n => decide (0 ≤ n)) = true) := Lib.hid fun hh => all_take (i := 0) rfl hx0 hh
    clear hx0 hx0'
    have hM0 : (0 : Int) < (M : Int) := by omega
    by_cases hp0 : 0 ≤ x0
    case neg =>
      have hR := HNO0.out (decide_eq_false hp0)
      have q4 : x0 < 0 := by omega
      subst hR
      clear HF1 HNO0 HYES0
      go_wp2_with fail
      go_ret
      exact ⟨rfl, HB.out.below⟩
    have q4 : ¬ x0 < 0 := by omega
    have HST := Lib.hid (HYES0.out (decide_eq_true hp0))
    clear HNO0 HYES0 hp0
    go_wp2_with fail
    go_loop [10] (fun j => ∃ q : Nat, 1 ≤ q ∧ q ≤ M ∧ j = .int .i64 q ∧ Hid ((o.nums.take q).all (fun n => decide (0 ≤ n)) = true)) (fun j => M - (intOf j).toNat)
    case atStart => exact ⟨1, by omega, by omega, rfl, HST⟩
    case round =>
      obtain ⟨q, hq1, hq, rfl, HQ⟩ := hrel
      clear n0
      by_cases hlt : q < M
      · have hql : q < o.nums.length := by rw [HMN.out]; exact hlt
        obtain ⟨x, hx⟩ : ∃ x, o.nums[q]? = some x := ⟨_, List.getElem?_eq_getElem hql⟩
        have hx' := (List.getElem?_eq_some_iff.1 hx).2
        have n1 := HNM.out q hql wr HB.out.below
        rw [hx'] at n1
        have HNO1 : Hid (decide (0 ≤ x) = false → R = false) := Lib.hid fun hh => by rw [HF1.out]; exact all_no hx hh
        have HYES1 : Hid (decide (0 ≤ x) = true → (o.nums.take (q + 1)).all (fun n => decide (0 ≤ n)) = true) := Lib.hid fun hh => all_take HQ.out hx hh
        clear hx hx'
        have hqI : (q : Int) < (M : Int) := by omega
        by_cases hp : 0 ≤ x
        · have q5 : ¬ x < 0 := by omega
          have HN1 := Lib.hid (HYES1.out (decide_eq_true hp))
          clear HNO1 HYES1
          go_wp2_with fail
          go_round
          case rel => exact ⟨q + 1, by omega, by omega, by go_num, HN1⟩
          case measure => simp [intOf]; omega
        · have hR := HNO1.out (decide_eq_false hp)
          have q5 : x < 0 := by omega
          subst hR
          clear HF1 HNO1 HYES1
          go_wp2_with fail
          go_ret
          exact ⟨rfl, HB.out.below⟩
      · have hR : R = true := by rw [HF1.out]; exact all_end HQ.out (by rw [HMN.out]; omega)
        subst hR
        clear HF1
        go_wp2_with fail
        go_ret
        exact ⟨rfl, HB.out.below⟩
end Go.Proofs.YtoaocpfehdcfgaaGreatDoor.SpecSto
