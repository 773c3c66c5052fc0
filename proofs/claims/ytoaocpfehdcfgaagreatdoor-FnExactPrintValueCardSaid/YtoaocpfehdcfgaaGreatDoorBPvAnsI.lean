/-
  impl's print, at every depth of arrays; PrintValue.
  impl's print of arrays, at every depth; PrintValue.
-/
import Derived.Test.YtoaocpfehdcfgaaGreatDoorBPvImpl
namespace Go.Proofs.YtoaocpfehdcfgaaGreatDoor.ImplPv
open Go.RowKit
open Strs Tree Core Sto Pv Go.Proofs.YtoaocpfehdcfgaaGreatDoor.Data
open ImplSto (eq_yes eq_no)
open SpecCore (grown_below)
set_option linter.unusedVariables false
set_option linter.unusedSimpArgs false
set_option maxRecDepth 10000 in
set_option maxHeartbeats 8000000 in
theorem simple_any {s : St} {d : Nat} (hic : infosB s.classes = true) (aI : Int) (v : V) (w : World) (sb : Nat) (h : SAt w sb s) (hM : Strs.Max w) (hf : fitB s.classes.length s.objects.length 1000 v = true) (hk6 : ¬ v.kind = 6) (hk7 : ¬ v.kind = 7) (hsz : v.text.size ≤ 1048576) :
    Calls Tryz.prog 22 #[.pointer (some ⟨sb, 0, none⟩), .agg #[.int .i64 v.kind, .int .i64 v.num, .string v.text], .int .i64 aI] w fun e w' => e = .returned (.string (tx (printD s d v))) ∧ Below w.heap.size w w' := by
  have hv : valB v = true := by unfold fitB at hf; rw [Bool.and_eq_true] at hf; exact hf.1
  have HX := Lib.hid (vbox_new w v 37)
  have HMX := Lib.hid (hM.keep HX.out.below)
  rw [printD_eq]
  generalize arrF s d = A
  rcases val_kind hv with hk | hk | hk | hk | hk | hk | hk | hk
  case inr.inr.inr.inr.inr.inr.inl => exact absurd hk hk6
  case inr.inr.inr.inr.inr.inr.inr => exact absurd hk hk7
  · have hR : tx (printV s A v) = ⟨#[110, 105, 108]⟩ := by unfold printV; rw [if_pos hk]; rfl
    rw [hR]
    obtain ⟨k, n, t⟩ := v
    simp only at hk HX HMX ⊢
    subst hk
    clear h hf hv hR hM
    go_enter Tryz.func22, Tryz.ntmps22
    go_wp2_with fail
    go_ret
    exact ⟨rfl, HX.out.below⟩
  · by_cases h1 : v.num = 1
    · have hR : tx (printV s A v) = (if true = true then ⟨#[116, 114, 117, 101]⟩ else ⟨#[102, 97, 108, 115, 101]⟩) := by unfold printV; rw [if_neg (by omega), if_pos hk, if_pos h1]; rfl
      rw [hR]
      have KB := fun w' => Lib.hid (bool_any true w')
      obtain ⟨k, n, t⟩ := v
      simp only at hk h1 HX HMX
      have g := (eq_yes h1).1
      clear h1
      subst hk
      clear h hf hv hR hM
      go_enter Tryz.func22, Tryz.ntmps22
      go_wp2_with fail
      refine (KB _).out.mono ?_
      rintro e w1 ⟨rfl, rfl⟩
      go_wp2_with fail
      go_ret
      exact ⟨rfl, HX.out.below⟩
    · have hR : tx (printV s A v) = (if false = true then ⟨#[116, 114, 117, 101]⟩ else ⟨#[102, 97, 108, 115, 101]⟩) := by unfold printV; rw [if_neg (by omega), if_pos hk, if_neg h1]; rfl
      rw [hR]
      have KB := fun w' => Lib.hid (bool_any false w')
      obtain ⟨k, n, t⟩ := v
      simp only at hk h1 HX HMX
      have g := (eq_no h1).1
      clear h1
      subst hk
      clear h hf hv hR hM
      go_enter Tryz.func22, Tryz.ntmps22
      go_wp2_with fail
      refine (KB _).out.mono ?_
      rintro e w1 ⟨rfl, rfl⟩
      go_wp2_with fail
      go_ret
      exact ⟨rfl, HX.out.below⟩
  · have hR : tx (printV s A v) = ⟨(Num.intText v.num).toArray⟩ := by unfold printV; rw [if_neg (by omega), if_neg (by omega), if_pos hk]; rfl
    rw [hR]
    have hb : -9223372036854775808 ≤ v.num ∧ v.num ≤ 9223372036854775807 := by
      unfold valB at hv
      rw [if_neg (by omega), if_neg (by omega), if_pos hk] at hv
      simp only [Bool.and_eq_true, decide_eq_true_eq] at hv
      omega
    have KF := fun w' => Lib.hid (ImplFmt.fmt_any v.num w' hb.1 hb.2)
    obtain ⟨k, n, t⟩ := v
    simp only at hk hb KF HX HMX ⊢
    subst hk
    clear h hf hv hR hM
    generalize Num.intText n = l at *
    go_enter Tryz.func22, Tryz.ntmps22
    go_wp2_with fail
    refine (KF _).out.mono ?_
    rintro e w1 ⟨rfl, hb1⟩
    have H1 := Lib.hid (HX.out.below.trans (hb1.mono HX.out.below.size))
    clear hb1
    go_wp2_with fail
    go_ret
    exact ⟨rfl, H1.out⟩
  · have hR : tx (printV s A v) = tx (cut (Tok.fmt 4 v.text.data.toList 0)) := by unfold printV; rw [if_neg (by omega), if_neg (by omega), if_neg (by omega), if_pos hk]
    rw [hR]
    have KF := fun w' (q : Strs.Max w') => Lib.hid (ImplFormat.fmt_any 4 v.text 0 w' q hsz (by omega) (by omega))
    obtain ⟨k, n, t⟩ := v
    simp only at hk KF HX HMX ⊢
    subst hk
    clear h hf hv hR hM
    generalize Tok.fmt 4 t.data.toList 0 = l at *
    have KC := fun w' => Lib.hid (cut_any ⟨l.toArray⟩ w')
    rw [show (⟨l.toArray⟩ : ByteArray).data.toList = l by simp] at KC
    go_enter Tryz.func22, Tryz.ntmps22
    go_wp2_with fail
    refine (KF _ HMX.out).out.mono ?_
    rintro e w1 ⟨rfl, hb1⟩
    have H1 := Lib.hid (HX.out.below.trans (hb1.mono HX.out.below.size))
    clear hb1
    go_wp2_with fail
    refine (KC _).out.mono ?_
    rintro e w2 ⟨rfl, rfl⟩
    go_wp2_with fail
    go_ret
    exact ⟨rfl, H1.out⟩
  · have hR : tx (printV s A v) = ⟨(Tok.fmt 5 v.text.data.toList 0).toArray⟩ := by unfold printV; rw [if_neg (by omega), if_neg (by omega), if_neg (by omega), if_neg (by omega), if_pos hk]; rfl
    rw [hR]
    have KF := fun w' (q : Strs.Max w') => Lib.hid (ImplFormat.fmt_any 5 v.text 0 w' q hsz (by omega) (by omega))
    obtain ⟨k, n, t⟩ := v
    simp only at hk KF HX HMX ⊢
    subst hk
    clear h hf hv hR hM
    generalize Tok.fmt 5 t.data.toList 0 = l at *
    go_enter Tryz.func22, Tryz.ntmps22
    go_wp2_with fail
    refine (KF _ HMX.out).out.mono ?_
    rintro e w1 ⟨rfl, hb1⟩
    have H1 := Lib.hid (HX.out.below.trans (hb1.mono HX.out.below.size))
    clear hb1
    go_wp2_with fail
    go_ret
    exact ⟨rfl, H1.out⟩
  · obtain ⟨hn0, hn1⟩ := fit_cls hf hk
    obtain ⟨n, hn⟩ : ∃ n : Nat, v.num = (n : Int) := ⟨v.num.toNat, by omega⟩
    obtain ⟨c, hc⟩ : ∃ c, s.classes[n]? = some c := ⟨_, List.getElem?_eq_getElem (by omega)⟩
    have hR : tx (printV s A v) = c.name := by
      unfold printV; rw [if_neg (by omega), if_neg (by omega), if_neg (by omega), if_neg (by omega), if_neg (by omega), if_pos hk]
      unfold nameOf
      rw [hn, Int.toNat_natCast, hc]
      apply bytes_ext
      rw [tx_list]
    rw [hR]
    obtain ⟨v0, v1, v2, c0, c1, c2, -, -, -, h0, -⟩ := h.below HX.out.below
    obtain ⟨ca, cc, rfl, hcm, -⟩ := id h0
    obtain ⟨cb, co, rfl, -, xf, x0, -⟩ := h0.at hc
    unfold maxLen at hcm
    obtain ⟨k, m, t⟩ := v
    simp only at hk hn HX HMX ⊢
    subst hk hn
    have hnI : (n : Int) < (s.classes.length : Int) := by omega
    clear h h0 hf hv hc hR hM c1 c2
    generalize s.classes.length = N at *
    generalize c.name = nm at *
    have m0 := HX.out.a0; have m1 := HX.out.a1
    go_enter Tryz.func22, Tryz.ntmps22
    go_wp2_with fail
    go_quiet (fail)
    go_wp2_with fail
    go_ret
    exact ⟨rfl, below_drewN HX.out.below _⟩
set_option maxRecDepth 10000 in
set_option maxHeartbeats 8000000 in
theorem block_any {s : St} (hic : infosB s.classes = true) (m : Int) (t : ByteArray) (w : World) (sb : Nat) (aI : Int) (ck : Nat) (c : I) (hc : s.classes[ck]? = some c) (h : SAt w sb s) (hf : fitB s.classes.length s.objects.length 1000 ⟨7, m, t⟩ = true) (hcl : clsOf s ⟨7, m, t⟩ = (ck : Int)) :
    Calls Tryz.prog 22 #[.pointer (some ⟨sb, 0, none⟩), .agg #[.int .i64 7, .int .i64 m, .string t], .int .i64 aI] w fun e w' => e = .returned (.string (tx (art c.name))) ∧ Below w.heap.size w w' := by
    have HX := Lib.hid (vbox_new w ⟨7, m, t⟩ 37)
    have hcn := class_name hic hc
    have HC := Lib.hid hc
    have HCL := Lib.hid hcl
    have HFIT := Lib.hid hf
    have hckI : (ck : Int) < (s.classes.length : Int) := by have := (List.getElem?_eq_some_iff.1 hc).1; omega
    obtain ⟨WA, hWA⟩ : ∃ WA, WA = w.alloc (.cells #[.int .i64 7, .int .i64 m, .string t] 37) := ⟨_, rfl⟩
    rw [← hWA] at HX
    have HS := Lib.hid (h.below HX.out.below)
    have m0 := HX.out.a0; have m1 := HX.out.a1; have m2 := HX.out.a2
    simp only at m0 m1 m2
    have HWA := Lib.hid hWA
    clear hc hcl hf hic h hWA
    go_enter Tryz.func22, Tryz.ntmps22
    go_upto_region 14 with fail
    rw [← HWA.out]
    go_quiet (fail)
    go_wp2_with fail
    obtain ⟨wd, hwd⟩ : ∃ wd, wd = WA.drewN nq := ⟨_, rfl⟩
    rw [← hwd]
    have hbd : Below WA.heap.size WA wd := by rw [hwd]; exact below_drewN (Below.refl _ _) _
    have HB := Lib.hid (HX.out.below.trans (hbd.mono HX.out.below.size))
    have HX2 := Lib.hid (HX.out.step hbd)
    have HS2 := Lib.hid (HS.out.below hbd)
    obtain ⟨v0, v1, v2, c0, -, -, -, -, -, h0, -⟩ := HS2.out
    obtain ⟨ca, cc, rfl, hcm, -⟩ := id h0
    obtain ⟨cb, co, rfl, -, xf, x0, -⟩ := h0.at HC.out
    unfold maxLen at hcm
    have KA := fun d os => Lib.hid (Calls.regrown_of (w := wd) (d := d) (os := os) (article_any c.name _ hcn.1 (by omega)))
    have KK := fun d os => Lib.hid (Calls.regrown_of (w := wd) (d := d) (os := os) (by have := ImplSto.class_any (nb := 1000) ⟨7, m, t⟩ (HS2.out.below (below_regrown wd d os)) HFIT.out; rw [HCL.out] at this; exact this))
    have k0 := cell_regrown c0; have k1 := cell_regrown x0
    have n0 := cell_regrown HX2.out.a0; have n1 := cell_regrown HX2.out.a1; have n2 := cell_regrown HX2.out.a2
    simp only at n0 n1 n2
    clear hwd hbd h0 c0 x0 m0 m1 m2
    generalize s.classes.length = C at *
    go_upto_region 16 with fail
    refine wp_region_quiet_below (by kernel_rfl) (by kernel_rfl) ?_
    repeat (go_big_quiet_step (first
      | (go_at_call 51; exact (KK _ _).out)
      | (go_at_call 50; exact (KA _ _).out)))
    refine wpQuiet_nil ?_
    intro w2 hw2
    have HB2 := Lib.hid (HB.out.trans ((grown_below hw2).mono HB.out.size)); clear hw2 k0 k1 n0 n1 n2
    go_wp2_with fail
    go_ret
    exact ⟨rfl, HB2.out⟩
set_option maxRecDepth 10000 in
set_option maxHeartbeats 8000000 in
theorem other_any {s : St} (hic : infosB s.classes = true) (n : Nat) (t : ByteArray) (w : World) (sb : Nat) (aI : Int) (ck : Nat) (c : I) (hc : s.classes[ck]? = some c) (h : SAt w sb s) (m : Int) (hm : m = (n : Int)) (hf : fitB s.classes.length s.objects.length 1000 ⟨6, m, t⟩ = true) (hcl : clsOf s ⟨6, m, t⟩ = (ck : Int)) (o : O) (ho : s.objects[n]? = some o) (hok : ¬ o.kind = 2) :
    Calls Tryz.prog 22 #[.pointer (some ⟨sb, 0, none⟩), .agg #[.int .i64 6, .int .i64 m, .string t], .int .i64 aI] w fun e w' => e = .returned (.string (tx (art c.name))) ∧ Below w.heap.size w w' := by
    subst hm
    obtain ⟨m, hm⟩ : ∃ m : Int, m = (n : Int) := ⟨_, rfl⟩
    have HX := Lib.hid (vbox_new w ⟨6, (n : Int), t⟩ 37)
    have hcn := class_name hic hc
    have HC := Lib.hid hc
    have HCL := Lib.hid hcl
    have HFIT := Lib.hid hf
    have hckI : (ck : Int) < (s.classes.length : Int) := by have := (List.getElem?_eq_some_iff.1 hc).1; omega
    have hnI : (n : Int) < (s.objects.length : Int) := by have := (List.getElem?_eq_some_iff.1 ho).1; omega
    obtain ⟨WA, hWA⟩ : ∃ WA, WA = w.alloc (.cells #[.int .i64 6, .int .i64 n, .string t] 37) := ⟨_, rfl⟩
    rw [← hWA] at HX
    have HS := Lib.hid (h.below HX.out.below)
    have m0 := HX.out.a0; have m1 := HX.out.a1; have m2 := HX.out.a2
    simp only at m0 m1 m2
    have HWA := Lib.hid hWA
    obtain ⟨u0, u1, u2, b0, b1, b2, -, -, -, -, q1, -⟩ := HS.out
    obtain ⟨oa, oc, rfl, hom, -⟩ := id q1
    obtain ⟨ob, oo, rfl, -, vf, vn, y0, y1, y2, y3, -⟩ := q1.at ho
    unfold maxLen at hom
    have gk := (eq_no hok).1
    clear hc hcl hf hic h hWA ho hok q1 b0 b2 y1 y2 y3 hm m
    generalize o.kind = okd at *
    go_enter Tryz.func22, Tryz.ntmps22
    go_upto_region 14 with fail
    rw [← HWA.out]
    go_quiet (fail)
    go_wp2_with fail
    obtain ⟨wd, hwd⟩ : ∃ wd, wd = WA.drewN nq := ⟨_, rfl⟩
    rw [← hwd]
    have hbd : Below WA.heap.size WA wd := by rw [hwd]; exact below_drewN (Below.refl _ _) _
    have HB := Lib.hid (HX.out.below.trans (hbd.mono HX.out.below.size))
    have HX2 := Lib.hid (HX.out.step hbd)
    have HS2 := Lib.hid (HS.out.below hbd)
    obtain ⟨v0, v1, v2, c0, -, -, -, -, -, h0, -⟩ := HS2.out
    obtain ⟨ca, cc, rfl, hcm, -⟩ := id h0
    obtain ⟨cb, co, rfl, -, xf, x0, -⟩ := h0.at HC.out
    unfold maxLen at hcm
    have KA := fun d os => Lib.hid (Calls.regrown_of (w := wd) (d := d) (os := os) (article_any c.name _ hcn.1 (by omega)))
    have KK := fun d os => Lib.hid (Calls.regrown_of (w := wd) (d := d) (os := os) (by have := ImplSto.class_any (nb := 1000) ⟨6, (n : Int), t⟩ (HS2.out.below (below_regrown wd d os)) HFIT.out; rw [HCL.out] at this; exact this))
    have k0 := cell_regrown c0; have k1 := cell_regrown x0
    have n0 := cell_regrown HX2.out.a0; have n1 := cell_regrown HX2.out.a1; have n2 := cell_regrown HX2.out.a2
    simp only at n0 n1 n2
    clear b1 y0
    clear hwd hbd h0 c0 x0 m0 m1 m2
    generalize s.classes.length = C at *
    go_upto_region 16 with fail
    refine wp_region_quiet_below (by kernel_rfl) (by kernel_rfl) ?_
    repeat (go_big_quiet_step (first
      | (go_at_call 51; exact (KK _ _).out)
      | (go_at_call 50; exact (KA _ _).out)))
    refine wpQuiet_nil ?_
    intro w2 hw2
    have HB2 := Lib.hid (HB.out.trans ((grown_below hw2).mono HB.out.size)); clear hw2 k0 k1 n0 n1 n2
    go_wp2_with fail
    go_ret
    exact ⟨rfl, HB2.out⟩
end Go.Proofs.YtoaocpfehdcfgaaGreatDoor.ImplPv

namespace Go.Proofs.YtoaocpfehdcfgaaGreatDoor.ImplPv
open Go.RowKit
open Strs Tree Core Sto Pv Go.Proofs.YtoaocpfehdcfgaaGreatDoor.Data
open ImplSto (eq_yes eq_no)
open SpecCore (grown_below)
set_option linter.unusedVariables false
set_option linter.unusedSimpArgs false
set_option maxRecDepth 10000 in
set_option maxHeartbeats 8000000 in
theorem arr_any {s : St} {d : Nat} (hd : d ≤ 3) (hst : stoB s 1000 = true) (hsm : SmallSt s) (ih : ∀ d', d = d' + 1 → OkI s d') (aI : Int) (haI : aI = 3 - (d : Int)) (n : Nat) (t : ByteArray) (w : World) (sb : Nat) (h : SAt w sb s) (hM : Strs.Max w) (o : O) (ho : s.objects[n]? = some o) (hok : o.kind = 2) (m : Int) (hm : m = (n : Int)) :
    Calls Tryz.prog 22 #[.pointer (some ⟨sb, 0, none⟩), .agg #[.int .i64 6, .int .i64 m, .string t], .int .i64 aI] w fun e w' => e = .returned (.string (tx (arrF s d o.fields))) ∧ Below w.heap.size w w' := by
  subst hm
  have hic := sto_infos hst
  have HX := Lib.hid (vbox_new w ⟨6, (n : Int), t⟩ 37)
  obtain ⟨hof, hofit⟩ := sto_obj hst ho
  have hn50 := form_arr hof hok
  have hsz := (hsm.o o (List.mem_of_getElem? ho)).2.2
  have hnI : (n : Int) < (s.objects.length : Int) := by have := (List.getElem?_eq_some_iff.1 ho).1; omega
  have HA := fun (vf : Value) w' (q : SAt w' sb s) (qm : Strs.Max w') (hvf : VsAt 0 w' vf o.fields) => Lib.hid (array_any hd hic ih aI haI o.fields w' sb q qm hofit hsz hn50 vf hvf)
  obtain ⟨WA, hWA⟩ : ∃ WA, WA = w.alloc (.cells #[.int .i64 6, .int .i64 n, .string t] 37) := ⟨_, rfl⟩
  rw [← hWA] at HX
  have HS := Lib.hid (h.below HX.out.below)
  have HMX := Lib.hid (hM.keep HX.out.below)
  have m0 := HX.out.a0; have m1 := HX.out.a1; have m2 := HX.out.a2
  simp only at m0 m1 m2
  have HWA := Lib.hid hWA
  obtain ⟨u0, u1, u2, b0, b1, b2, -, -, -, -, q1, -⟩ := HS.out
  have HQ := Lib.hid q1
  have HOO := Lib.hid ho
  obtain ⟨oa, oc, rfl, hom, -⟩ := id q1
  obtain ⟨ob, oo, hoe, -, vf, vn, y0, y1, y2, y3, hvf, -⟩ := q1.at ho
  subst hoe
  have HVF := Lib.hid hvf
  obtain ⟨fa, fc, rfl, hfm, -⟩ := hvf
  unfold maxLen at hom
  have gk := (eq_yes hok).1
  have HB1 := Lib.hid b1
  have HY2 := Lib.hid y2
  clear hic h hWA ho hok q1 b0 b2 y1 y3 hof hofit hsz hn50 ih haI
  generalize arrF s d o.fields = RES at *
  generalize hFl : o.fields.length = FL at *
  generalize s.objects.length = ON at *
  generalize o.kind = okd at *
  go_enter Tryz.func22, Tryz.ntmps22
  go_upto_region 14 with fail
  rw [← HWA.out]
  go_quiet (fail)
  go_wp2_with fail
  obtain ⟨wd, hwd⟩ : ∃ wd, wd = WA.drewN nq := ⟨_, rfl⟩
  rw [← hwd]
  have hbd : Below WA.heap.size WA wd := by rw [hwd]; exact below_drewN (Below.refl _ _) _
  have HB := Lib.hid (HX.out.below.trans (hbd.mono HX.out.below.size))
  have HX2 := Lib.hid (HX.out.step hbd)
  have HS2 := Lib.hid (HS.out.below hbd)
  have HM2 := Lib.hid (HMX.out.keep hbd)
  have HVF2 := Lib.hid (HVF.out.below hbd)
  have KK := fun dd os => Lib.hid (Calls.regrown_of (w := wd) (d := dd) (os := os) (HA _ _ (HS2.out.below (below_regrown wd dd os)) (HM2.out.keep (below_regrown wd dd os)) (HVF2.out.below (below_regrown wd dd os))).out)
  have k0 := cell_regrown (cell_keep hbd HB1.out); have k1 := cell_regrown (cell_keep hbd HY2.out)
  have n0 := cell_regrown HX2.out.a0; have n1 := cell_regrown HX2.out.a1; have n2 := cell_regrown HX2.out.a2
  simp only at n0 n1 n2
  clear hwd hbd m0 m1 m2 b1 y0 y2
  go_upto_region 15 with fail
  refine wp_region_quiet_below (by kernel_rfl) (by kernel_rfl) ?_
  repeat (go_big_quiet_step ((go_at_call 49; exact (KK _ _).out)))
  refine wpQuiet_nil ?_
  intro w2 hw2
  have HB2 := Lib.hid (HB.out.trans ((grown_below hw2).mono HB.out.size)); clear hw2 k0 k1 n0 n1 n2
  go_wp2_with fail
  go_ret
  exact ⟨rfl, HB2.out⟩
theorem ok_all {s : St} (hst : stoB s 1000 = true) (hsm : SmallSt s) : ∀ d, d ≤ 3 → OkI s d := by
  have hic := sto_infos hst
  have hlen := infos_len hic
  have step : ∀ d, d ≤ 3 → (∀ d', d = d' + 1 → OkI s d') → OkI s d := by
    intro d hd ih aI v w sb haI h hM hf hsz
    by_cases hk : v.kind = 6
    · obtain ⟨hn0, hn1⟩ := fit_ref hf hk
      obtain ⟨n, hn⟩ : ∃ n : Nat, v.num = (n : Int) := ⟨v.num.toNat, by omega⟩
      obtain ⟨o, ho⟩ : ∃ o, s.objects[n]? = some o := ⟨_, List.getElem?_eq_getElem (by omega)⟩
      obtain ⟨hof, -⟩ := sto_obj hst ho
      obtain ⟨hcl0, hcl1⟩ := form_cls hic hof
      obtain ⟨ck, hck⟩ : ∃ ck : Nat, o.cls = (ck : Int) := ⟨o.cls.toNat, by omega⟩
      obtain ⟨c, hc⟩ : ∃ c, s.classes[ck]? = some c := ⟨_, List.getElem?_eq_getElem (by omega)⟩
      have hR : printV s (arrF s d) v = if o.kind = 2 then arrF s d o.fields else art c.name := by
        unfold printV
        rw [if_neg (by omega), if_neg (by omega), if_neg (by omega), if_neg (by omega), if_neg (by omega), if_neg (by omega), if_neg (by omega), hn, Int.toNat_natCast, ho]
        simp only []
        unfold nameOf
        rw [hck, Int.toNat_natCast, hc]
      rw [printD_eq, hR]
      obtain ⟨k, m, t⟩ := v
      simp only at hk hn hf hsz ⊢
      subst hk
      by_cases h2 : o.kind = 2
      · rw [if_pos h2]
        exact arr_any hd hst hsm ih aI haI n t w sb h hM o ho h2 m hn
      · rw [if_neg h2]
        have hcl : clsOf s ⟨6, m, t⟩ = (ck : Int) := by
          unfold clsOf
          simp only []
          rw [hn, Int.toNat_natCast, ho]
          exact hck
        exact other_any hic n t w sb aI ck c hc h m hn hf hcl o ho h2
    · by_cases hk7 : v.kind = 7
      · obtain ⟨c, hc⟩ : ∃ c, s.classes[11]? = some c := ⟨_, List.getElem?_eq_getElem (by omega)⟩
        have hR : printV s (arrF s d) v = art c.name := by
          rw [block_name hic hc, art_block]
          unfold printV
          rw [if_neg (by omega), if_neg (by omega), if_neg (by omega), if_neg (by omega), if_neg (by omega), if_neg (by omega), if_pos hk7]
        rw [printD_eq, hR]
        obtain ⟨k, m, t⟩ := v
        simp only at hk7 hf ⊢
        subst hk7
        exact block_any hic m t w sb aI 11 c hc h hf (by unfold clsOf; simp)
      · exact simple_any hic aI v w sb h hM hf hk hk7 hsz
  intro d
  induction d with
  | zero => exact fun h => step 0 h fun d' e => by omega
  | succ d ih =>
    intro h
    refine step (d + 1) h fun d' e => ?_
    obtain rfl : d = d' := by omega
    exact ih (by omega)
set_option maxRecDepth 10000 in
set_option maxHeartbeats 8000000 in
theorem printvalue_any {w : World} {v0 v1 v2 : Value} {s : St} (v : V) (h0 : IsAt 0 w v0 s.classes) (h1 : OsAt 0 w v1 s.objects) (h2 : Texts 0 w s.output v2) (hs : SmallSt s) (hv : v.text.size ≤ 1048576) (hM : Strs.Max w) :
    Calls Tryz.prog 9 #[.agg #[v0, v1, v2, .int .i64 s.ticks, .int .i64 s.budget, .int .i64 s.made], .agg #[.int .i64 v.kind, .int .i64 v.num, .string v.text]] w fun e w' => e = .returned (.string (printAns s v)) ∧ Below w.heap.size w w' := by
  have hb : Below w.heap.size w (w.alloc (.cells #[v0, v1, v2, .int .i64 s.ticks, .int .i64 s.budget, .int .i64 s.made] 35)) := (Below.refl _ _).alloc (Nat.le_refl _) _
  have S0 := sat_new 35 h0 h1 h2
  obtain ⟨W, hW⟩ : ∃ W, W = w.alloc (.cells #[v0, v1, v2, .int .i64 s.ticks, .int .i64 s.budget, .int .i64 s.made] 35) := ⟨_, rfl⟩
  have hWs : W.heap.size = w.heap.size + 1 := by rw [hW]; simp
  have X0 := vbox_new W v 37
  rw [← hW] at S0 hb
  rw [hWs] at X0
  have HX := Lib.hid X0
  have HS := Lib.hid (S0.below X0.below)
  have HB := Lib.hid (hb.trans (X0.below.mono hb.size))
  have K1 := Lib.hid (ImplSto.right_any 1000 HS.out (fun o ho => (hs.o o ho).2.2))
  have K2 := fun w' (q : SAt w' w.heap.size s) => Lib.hid (ImplSto.has_any v 1000 q hv)
  have K3 := fun w' (q : SAt w' w.heap.size s) (qm : Strs.Max w') (hst : stoB s 1000 = true) hf => Lib.hid (ok_all hst hs 3 (by omega) 0 v w' w.heap.size (by omega) q qm hf hv)
  have HMX := Lib.hid hM
  have HV : Hid (printAns s v = if stoB s 1000 && fitB s.classes.length s.objects.length 1000 v then tx (printD s 3 v) else ByteArray.empty) := Lib.hid rfl
  rw [hW] at HX HS HB K1
  have m0 := HX.out.a0; have m1 := HX.out.a1; have m2 := HX.out.a2
  clear hb S0 X0 h0 h1 h2 hs hWs hW hM
  obtain ⟨k, m, t⟩ := v
  simp only at *
  generalize printAns s ⟨k, m, t⟩ = R at *
  generalize tx (printD s 3 ⟨k, m, t⟩) = Q at *
  generalize hF : fitB s.classes.length s.objects.length 1000 ⟨k, m, t⟩ = F at *
  generalize hA : stoB s 1000 = A at *
  cases A with
  | false =>
    have hR : R = ByteArray.empty := HV.out
    subst hR
    clear HV
    go_enter Tryz.func9, Tryz.ntmps9
    go_wp2_with fail
    refine K1.out.mono ?_
    rintro e w1 ⟨rfl, hb1⟩
    have H1 := Lib.hid (HB.out.trans (hb1.mono HB.out.size))
    clear hb1 m0 m1 m2
    go_wp2_with fail
    go_ret
    exact ⟨rfl, H1.out⟩
  | true =>
  cases F with
  | false =>
    have hR : R = ByteArray.empty := HV.out
    subst hR
    clear HV
    go_enter Tryz.func9, Tryz.ntmps9
    go_wp2_with fail
    refine K1.out.mono ?_
    rintro e w1 ⟨rfl, hb1⟩
    have H1 := Lib.hid (HB.out.trans (hb1.mono HB.out.size))
    have S1 := Lib.hid (HS.out.below hb1)
    have X1 := Lib.hid (HX.out.step hb1)
    clear hb1 m0 m1 m2
    have m0 := X1.out.a0; have m1 := X1.out.a1; have m2 := X1.out.a2
    go_wp2_with fail
    refine (K2 _ S1.out).out.mono ?_
    rintro e w2 ⟨rfl, hb2⟩
    have H2 := Lib.hid (H1.out.trans (hb2.mono H1.out.size))
    clear hb2 m0 m1 m2
    go_wp2_with fail
    go_ret
    exact ⟨rfl, H2.out⟩
  | true =>
    have hR : R = Q := HV.out
    subst hR
    clear HV
    go_enter Tryz.func9, Tryz.ntmps9
    go_wp2_with fail
    refine K1.out.mono ?_
    rintro e w1 ⟨rfl, hb1⟩
    have H1 := Lib.hid (HB.out.trans (hb1.mono HB.out.size))
    have S1 := Lib.hid (HS.out.below hb1)
    have X1 := Lib.hid (HX.out.step hb1)
    clear hb1 m0 m1 m2
    have m0 := X1.out.a0; have m1 := X1.out.a1; have m2 := X1.out.a2
    go_wp2_with fail
    refine (K2 _ S1.out).out.mono ?_
    rintro e w2 ⟨rfl, hb2⟩
    have H2 := Lib.hid (H1.out.trans (hb2.mono H1.out.size))
    have S2 := Lib.hid (S1.out.below hb2)
    have X2 := Lib.hid (X1.out.step hb2)
    clear hb2 m0 m1 m2
    have m0 := X2.out.a0; have m1 := X2.out.a1; have m2 := X2.out.a2
    go_wp2_with fail
    refine (K3 _ S2.out (HMX.out.keep H2.out) (by first | exact hA | trivial) (by first | exact hF | trivial)).out.mono ?_
    rintro e w3 ⟨rfl, hb3⟩
    have H3 := Lib.hid (H2.out.trans (hb3.mono H2.out.size))
    clear hb3 m0 m1 m2
    go_wp2_with fail
    go_ret
    exact ⟨rfl, H3.out⟩
end Go.Proofs.YtoaocpfehdcfgaaGreatDoor.ImplPv
