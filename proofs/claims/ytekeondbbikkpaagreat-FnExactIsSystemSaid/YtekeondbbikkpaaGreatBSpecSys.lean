/-
  spec.IsSystem: what it answers, given what l8Right says of every node.
-/
import Derived.Test.YtekeondbbikkpaaGreatBSpecClassesI
import Derived.Test.YtekeondbbikkpaaGreatBSpecRout
import Derived.Test.YtekeondbbikkpaaGreatBSpecSel
namespace Go.Proofs.YtekeondbbikkpaaGreat.SpecCore
open Go.RowKit
open Strs Tree Core Ints Go.Proofs.YtekeondbbikkpaaGreat.Data
set_option linter.unusedVariables false
structure Sx (w : World) (s : S) (v0 v1 vk : Value) (wr : World) : Prop where
  below : Below w.heap.size w wr
  size : w.heap.size + 1 ≤ wr.heap.size
  c : ∀ j u, [v0, v1, Value.string s.main.sel, .int .i64 s.main.owner, .bool s.main.cls, .int .i64 s.main.params, .int .i64 s.main.slots, .int .i64 s.main.body.kind, .string s.main.body.text, .int .i64 s.main.body.num, .int .i64 s.main.body.dep, vk][j]? = some u → wr.cell? ⟨w.heap.size, j, none⟩ = some u
theorem Sx.step {w wr w' : World} {s : S} {v0 v1 vk : Value} (h : Sx w s v0 v1 vk wr) (hb : Below wr.heap.size wr w') : Sx w s v0 v1 vk w' :=
  ⟨h.below.trans (hb.mono (by have := h.size; omega)), Nat.le_trans h.size hb.size, fun j u hj => cell_keep hb (h.c j u hj)⟩
theorem sx_new (w : World) (s : S) (v0 v1 vk : Value) (T : TypeId) : Sx w s v0 v1 vk (w.alloc (Obj.cells #[v0, v1, Value.string s.main.sel, .int .i64 s.main.owner, .bool s.main.cls, .int .i64 s.main.params, .int .i64 s.main.slots, .int .i64 s.main.body.kind, .string s.main.body.text, .int .i64 s.main.body.num, .int .i64 s.main.body.dep, vk] T)) := by
  refine ⟨(Below.refl _ _).alloc (Nat.le_refl _) _, by simp, fun j u hj => ?_⟩
  match j, hj with
  | 0, hj => cases hj; go_simp
  | 1, hj => cases hj; go_simp
  | 2, hj => cases hj; go_simp
  | 3, hj => cases hj; go_simp
  | 4, hj => cases hj; go_simp
  | 5, hj => cases hj; go_simp
  | 6, hj => cases hj; go_simp
  | 7, hj => cases hj; go_simp
  | 8, hj => cases hj; go_simp
  | 9, hj => cases hj; go_simp
  | 10, hj => cases hj; go_simp
  | 11, hj => cases hj; go_simp
  | j + 12, hj => simp at hj
set_option maxRecDepth 10000 in
set_option maxHeartbeats 16000000 in
theorem sys_any {w : World} {s : S} {v0 v1 vk : Value} (hr : ∀ e, OkR s.classes.length e) (h0 : IsAt 0 w v0 s.classes) (h1 : RsAt 0 w v1 s.routines) (hk : KAt 0 w s.main.body vk) (hs : Small s) :
    Calls Tryz.prog 5 #[.agg #[v0, v1, .string s.main.sel, .int .i64 s.main.owner, .bool s.main.cls, .int .i64 s.main.params, .int .i64 s.main.slots, .int .i64 s.main.body.kind, .string s.main.body.text, .int .i64 s.main.body.num, .int .i64 s.main.body.dep, vk]] w fun e w' => e = .returned (.bool (sysB s)) ∧ Below w.heap.size w w' := by
  have KC := fun (w' : World) (hb : Below w.heap.size w w') => Lib.hid (classes_any (h0.below hb) hs.c)
  have KM := fun (w' : World) (hb : Below w.heap.size w w') => Lib.hid (rout_any (C := s.classes.length) s.main w' vk (hr _) (hk.below hb) hs.m.2)
  unfold rval at KM
  have HV : Hid (sysB s = (infosB s.classes && (decide (s.routines.length ≤ 96) && (mainB s.classes.length s.main && (List.range s.routines.length).all (routB s.classes.length s.routines))))) := Lib.hid rfl
  have HMB : Hid (mainB s.classes.length s.main = ((decide (s.main.sel = ⟨#[109, 97, 105, 110]⟩) && (decide (s.main.owner = -1) && (!s.main.cls && decide (s.main.params = 0)))) && bodyB s.classes.length s.main)) := Lib.hid rfl
  have HX := Lib.hid (sx_new w s v0 v1 vk 41)
  have H1 := Lib.hid h1
  have HSM := Lib.hid hs
  have HR := Lib.hid hr
  obtain ⟨a0, c0, rfl, hm0, -⟩ := id h0
  obtain ⟨a1, c1, rfl, hm1, -⟩ := id h1
  unfold maxLen at hm0 hm1
  have hcl := hs.cl
  have hrl := hs.rl
  clear h0 h1 hk hs hr
  generalize sysB s = R at *
  generalize infosB s.classes = A at *
  generalize mainB s.classes.length s.main = MB at *
  generalize bodyB s.classes.length s.main = BB at *
  obtain ⟨cs, rs, m⟩ := s
  simp only at *
  generalize hCN : cs.length = CN at *
  generalize hRN : rs.length = RN at *
  have HRN := Lib.hid hRN
  have HCN := Lib.hid hCN
  clear hCN hRN
  obtain ⟨mse, mo, mc, mp, msl, mb⟩ := m
  simp only at *
  have hb : (R = false ∧ (A = false ∨ (A = true ∧ decide ((96 : Int) < RN) = true) ∨ (A = true ∧ decide ((96 : Int) < RN) = false ∧ ¬ mse.toList = [109, 97, 105, 110]) ∨ (A = true ∧ decide ((96 : Int) < RN) = false ∧ mse = ⟨#[109, 97, 105, 110]⟩ ∧ (mo != -1) = true) ∨ (A = true ∧ decide ((96 : Int) < RN) = false ∧ mse = ⟨#[109, 97, 105, 110]⟩ ∧ mo = -1 ∧ mc = true) ∨ (A = true ∧ decide ((96 : Int) < RN) = false ∧ mse = ⟨#[109, 97, 105, 110]⟩ ∧ mo = -1 ∧ mc = false ∧ (mp != 0) = true) ∨ (A = true ∧ decide ((96 : Int) < RN) = false ∧ mse = ⟨#[109, 97, 105, 110]⟩ ∧ mo = -1 ∧ mc = false ∧ (mp != 0) = false ∧ BB = false))) ∨ (A = true ∧ decide ((96 : Int) < RN) = false ∧ mse = ⟨#[109, 97, 105, 110]⟩ ∧ mo = -1 ∧ mc = false ∧ (mp != 0) = false ∧ BB = true ∧ Hid (R = (List.range RN).all (routB CN rs))) := by
    have e := HV.out
    rw [HMB.out] at e
    cases hA : A with
    | false => exact .inl ⟨by rw [e, hA]; rfl, .inl rfl⟩
    | true =>
      rw [hA] at e
      by_cases h2 : (96 : Int) < RN
      · exact .inl ⟨by rw [e, decide_eq_false (show ¬ RN ≤ 96 by omega)]; rfl, .inr (.inl ⟨rfl, decide_eq_true h2⟩)⟩
      have h2' := decide_eq_false h2
      rw [decide_eq_true (show RN ≤ 96 by omega)] at e
      by_cases h3 : mse = ⟨#[109, 97, 105, 110]⟩
      case neg =>
        refine .inl ⟨by rw [e, decide_eq_false h3]; rfl, .inr (.inr (.inl ⟨rfl, h2', ?_⟩))⟩
        intro e2
        exact h3 (ByteArray.ext (Array.ext' (by rw [← ByteArray.toList_eq, e2])))
      by_cases h4 : mo = -1
      case neg => exact .inl ⟨by rw [e, decide_eq_false h4]; simp, .inr (.inr (.inr (.inl ⟨rfl, h2', h3, (int_no h4).2⟩)))⟩
      cases hc : mc with
      | true => exact .inl ⟨by rw [e, hc]; simp, .inr (.inr (.inr (.inr (.inl ⟨rfl, h2', h3, h4, rfl⟩))))⟩
      | false =>
        by_cases h5 : mp = 0
        case neg => exact .inl ⟨by rw [e, decide_eq_false h5]; simp, .inr (.inr (.inr (.inr (.inr (.inl ⟨rfl, h2', h3, h4, rfl, (int_no h5).2⟩)))))⟩
        cases hB : BB with
        | false => exact .inl ⟨by rw [e, hB]; simp, .inr (.inr (.inr (.inr (.inr (.inr ⟨rfl, h2', h3, h4, rfl, (int_yes h5).2, rfl⟩)))))⟩
        | true => exact .inr ⟨rfl, h2', h3, h4, rfl, (int_yes h5).2, rfl, Lib.hid (by rw [e, decide_eq_true h3, decide_eq_true h4, hc, decide_eq_true h5, hB]; rfl)⟩
  clear HV HMB
  rcases hb with ⟨rfl, hb⟩ | ⟨rfl, g2, rfl, rfl, rfl, g6, rfl, HRR⟩
  · rcases hb with rfl | ⟨rfl, g2⟩ | ⟨rfl, g2, g3⟩ | ⟨rfl, g2, rfl, g4⟩ | ⟨rfl, g2, rfl, rfl, rfl⟩ | ⟨rfl, g2, rfl, rfl, rfl, g6⟩ | hb
    case inr.inr.inr.inr.inr.inr =>
      obtain ⟨rfl, g2, rfl, rfl, rfl, g6, rfl⟩ := hb
      go_enter Tryz.func5, Tryz.ntmps5
      go_wp2_with fail
      refine (KC _ HX.out.below).out.mono ?_
      rintro e w1 ⟨rfl, hb1⟩
      have X1 := Lib.hid (HX.out.step hb1); clear hb1
      have d0 := X1.out.c 0 _ rfl; have d1 := X1.out.c 1 _ rfl; have d2 := X1.out.c 2 _ rfl; have d3 := X1.out.c 3 _ rfl; have d4 := X1.out.c 4 _ rfl; have d5 := X1.out.c 5 _ rfl
      have d6 := X1.out.c 6 _ rfl; have d7 := X1.out.c 7 _ rfl; have d8 := X1.out.c 8 _ rfl; have d9 := X1.out.c 9 _ rfl; have d10 := X1.out.c 10 _ rfl; have d11 := X1.out.c 11 _ rfl
      go_wp2_with fail
      refine (KM _ X1.out.below).out.mono ?_
      rintro e w2 ⟨rfl, hb2⟩
      have X2 := Lib.hid (X1.out.step hb2); clear hb2 d0 d1 d2 d3 d4 d5 d6 d7 d8 d9 d10 d11
      go_wp2_with fail
      go_ret
      exact ⟨rfl, X2.out.below⟩
    all_goals
      go_enter Tryz.func5, Tryz.ntmps5
      go_wp2_with fail
      refine (KC _ HX.out.below).out.mono ?_
      rintro e w1 ⟨rfl, hb1⟩
      have X1 := Lib.hid (HX.out.step hb1); clear hb1
      have d1 := X1.out.c 1 _ rfl; have d2 := X1.out.c 2 _ rfl; have d3 := X1.out.c 3 _ rfl; have d4 := X1.out.c 4 _ rfl; have d5 := X1.out.c 5 _ rfl
      go_wp2_with fail
      go_ret
      exact ⟨rfl, X1.out.below⟩
  go_enter Tryz.func5, Tryz.ntmps5
  go_wp2_with fail
  refine (KC _ HX.out.below).out.mono ?_
  rintro e w1 ⟨rfl, hb1⟩
  have X1 := Lib.hid (HX.out.step hb1); clear hb1
  have d0 := X1.out.c 0 _ rfl; have d1 := X1.out.c 1 _ rfl; have d2 := X1.out.c 2 _ rfl; have d3 := X1.out.c 3 _ rfl; have d4 := X1.out.c 4 _ rfl; have d5 := X1.out.c 5 _ rfl
  have d6 := X1.out.c 6 _ rfl; have d7 := X1.out.c 7 _ rfl; have d8 := X1.out.c 8 _ rfl; have d9 := X1.out.c 9 _ rfl; have d10 := X1.out.c 10 _ rfl; have d11 := X1.out.c 11 _ rfl
  go_wp2_with fail
  refine (KM _ X1.out.below).out.mono ?_
  rintro e w2 ⟨rfl, hb2⟩
  have X2 := Lib.hid (X1.out.step hb2); clear hb2 d0 d1 d2 d3 d4 d5 d6 d7 d8 d9 d10 d11
  go_wp2_with fail
  clear KC KM HX
  go_loopw [3] (fun j wr => ∃ i : Nat, i ≤ RN ∧ j = .int .i64 i ∧ (List.range i).all (routB CN rs) = true ∧ Sx w ⟨cs, rs, ⟨⟨#[109, 97, 105, 110]⟩, -1, false, mp, msl, mb⟩⟩ (.slice a0 CN c0) (.slice a1 RN c1) vk wr) (fun j _ => RN - (intOf j).toNat)
  case atStart => exact ⟨0, by omega, rfl, rfl, X2.out⟩
  case round =>
    obtain ⟨i, hi, rfl, hq, hsx⟩ := hrel
    have HQ := Lib.hid hq
    have XR := Lib.hid hsx
    clear hq hsx X1 X2
    have d0 := XR.out.c 0 _ rfl; have d1 := XR.out.c 1 _ rfl
    by_cases hlt : i < RN
    case neg =>
      have hR : R = true := by
        have h1 : i = RN := by omega
        rw [HRR.out, ← h1]; exact HQ.out
      have HRT := Lib.hid hR
      clear hR
      go_wp2_with fail
      go_ret
      exact ⟨by rw [HRT.out]; rfl, XR.out.below⟩
    have hil : i < rs.length := by rw [HRN.out]; exact hlt
    obtain ⟨r, hr⟩ : ∃ r, rs[i]? = some r := ⟨_, List.getElem?_eq_getElem hil⟩
    obtain ⟨rb, ro, rfl, -, hra⟩ := (H1.out.below XR.out.below).at hr
    obtain ⟨e0, e1, e2, e3, e4, ⟨xk, e5, e6, e7, e8, e9, hxk⟩, w1', w2', w3'⟩ := id hra
    obtain ⟨-, -, -, -, xa, xc, rfl, -⟩ := kat_iff.1 hxk
    generalize hKL : r.body.kids.length = KL at *
    clear hKL
    have hss := HSM.out.r r (List.mem_of_getElem? hr)
    have HYES : Hid (routB CN rs i = true → (List.range (i + 1)).all (routB CN rs) = true) := Lib.hid (fun h => range_take HQ.out h)
    have HNO : Hid (routB CN rs i = false → R = false) := Lib.hid (fun h => by rw [HRR.out]; exact range_no hlt h)
    have HRO : Hid (routB CN rs i = (!(rs.take i).any (same r) && ((Tok.sel r.sel && (decide (Tok.countArgs r.sel = r.params) && (decide (16 ≤ r.owner) && decide (r.owner < CN)))) && bodyB CN r))) := Lib.hid (by unfold routB; rw [hr]; rfl)
    obtain ⟨W, hW⟩ : ∃ W, W = wr.alloc (.cells #[.string r.sel, .int .i64 r.owner, .bool r.cls, .int .i64 r.params, .int .i64 r.slots, .int .i64 r.body.kind, .string r.body.text, .int .i64 r.body.num, .int .i64 r.body.dep, .slice xa KL xc] 39) := ⟨_, rfl⟩
    have HAW : Hid (Arg10 wr r (.slice xa KL xc) W) := Lib.hid (by rw [hW]; exact arg10_new wr r (.slice xa KL xc) _)
    have HWW := Lib.hid hW
    have XW := Lib.hid (XR.out.step HAW.out.below)
    have k0 := cell_regrown (HAW.out.c 0 _ rfl); have k1 := cell_regrown (HAW.out.c 1 _ rfl); have k2 := cell_regrown (HAW.out.c 2 _ rfl); have k3 := cell_regrown (HAW.out.c 3 _ rfl); have k4 := cell_regrown (HAW.out.c 4 _ rfl)
    have k5 := cell_regrown (HAW.out.c 5 _ rfl); have k6 := cell_regrown (HAW.out.c 6 _ rfl); have k7 := cell_regrown (HAW.out.c 7 _ rfl); have k8 := cell_regrown (HAW.out.c 8 _ rfl); have k9 := cell_regrown (HAW.out.c 9 _ rfl)
    have l0 := cell_regrown (XW.out.c 0 _ rfl)
    have KS := fun d os => Lib.hid (Calls.regrown_of (w := W) (d := d) (os := os) (SpecSel.sel_any r.sel _ hss.1))
    have KA := fun d os => Lib.hid (Calls.regrown_of (w := W) (d := d) (os := os) (SpecSel.count_any r.sel _ hss.1))
    have KI := fun d os => Lib.hid (Calls.regrown_of (w := W) (d := d) (os := os) ((SpecTree.in_any r.owner 16 ((CN : Int) - 1) _).mono fun _ _ ⟨h1, h2⟩ => ⟨h1, h2 ▸ Below.refl _ _⟩))
    have KB := fun d os => Lib.hid (Calls.regrown_of (w := W) (d := d) (os := os) (rout_any (C := CN) r _ (.slice xa KL xc) (HR.out _) (hxk.below (HAW.out.below.trans ((below_regrown W d os).mono HAW.out.below.size))) hss.2))
    unfold rval at KB
    have HRR2 := Lib.hid hr
    have hge := args_ge r.sel
    have hsl := sel_args r.sel
    clear hW hr hra hss hxk w1' w2' w3'
    generalize routB CN rs i = M at *
    have hcase : (M = false ∧ ((Tok.sel r.sel = false) ∨ (Tok.sel r.sel = true ∧ (Tok.countArgs r.sel != r.params) = true) ∨ (Tok.sel r.sel = true ∧ Tok.countArgs r.sel = r.params ∧ decide (16 ≤ r.owner ∧ r.owner ≤ (CN : Int) - 1) = false) ∨ (Tok.sel r.sel = true ∧ Tok.countArgs r.sel = r.params ∧ decide (16 ≤ r.owner ∧ r.owner ≤ (CN : Int) - 1) = true ∧ bodyB CN r = false))) ∨ (Tok.sel r.sel = true ∧ Tok.countArgs r.sel = r.params ∧ decide (16 ≤ r.owner ∧ r.owner ≤ (CN : Int) - 1) = true ∧ bodyB CN r = true ∧ Hid (M = !(rs.take i).any (same r))) := by
      have e := HRO.out
      have hio : (decide (16 ≤ r.owner) && decide (r.owner < (CN : Int))) = decide (16 ≤ r.owner ∧ r.owner ≤ (CN : Int) - 1) := lt2 16 r.owner CN
      rw [hio] at e
      cases h1 : Tok.sel r.sel with
      | false => exact .inl ⟨by rw [e, h1]; simp, .inl rfl⟩
      | true =>
        by_cases h2 : Tok.countArgs r.sel = r.params
        case neg => exact .inl ⟨by rw [e, decide_eq_false h2]; simp, .inr (.inl ⟨rfl, (int_no h2).2⟩)⟩
        cases h3 : decide (16 ≤ r.owner ∧ r.owner ≤ (CN : Int) - 1) with
        | false => exact .inl ⟨by rw [e, h3]; simp, .inr (.inr (.inl ⟨rfl, h2, rfl⟩))⟩
        | true =>
          cases h4 : bodyB CN r with
          | false => exact .inl ⟨by rw [e, h4]; simp, .inr (.inr (.inr ⟨rfl, h2, rfl, rfl⟩))⟩
          | true => exact .inr ⟨rfl, h2, rfl, rfl, Lib.hid (by rw [e, h1, decide_eq_true h2, h3, h4]; simp)⟩
    clear HRO hsl
    obtain ⟨wo, rfl⟩ : ∃ wo : World, wo = wr := ⟨_, rfl⟩
    obtain ⟨rse, row, rcl, rpa, rsl, rbo⟩ := r
    simp only at *
    generalize bodyB CN _ = BR at *
    generalize hdd : decide (16 ≤ row ∧ row ≤ (CN : Int) - 1) = DD at *
    clear hdd
    generalize Tok.sel rse = SE at *
    generalize Tok.countArgs rse = CA at *
    rcases hcase with ⟨hM, hcase⟩ | ⟨rfl, rfl, rfl, rfl, HMM⟩
    · have hR := HNO.out hM
      subst hR
      clear HNO HYES hM
      rcases hcase with rfl | ⟨rfl, f2⟩ | ⟨rfl, rfl, rfl⟩ | ⟨rfl, rfl, rfl, rfl⟩
      all_goals
        go_upto_region 7 with fail
        rw [← HWW.out]
        refine wp_region_quiet_below (by kernel_rfl) (by kernel_rfl) ?_
        repeat (go_big_quiet_step (first
          | (go_at_call 14; exact (KS _ _).out)
          | (go_at_call 15; exact (KA _ _).out)
          | (go_at_call 16; exact (KI _ _).out)
          | (go_at_call 13; exact (KB _ _).out)))
        refine wpQuiet_nil ?_
        intro w5 hw5
        have X5 := Lib.hid (XW.out.step (regrown_below hw5)); clear hw5 k0 k1 k2 k3 k4 k5 k6 k7 k8 k9 l0
        go_wp2_with fail
        go_ret
        exact ⟨rfl, X5.out.below⟩
    go_upto_region 7 with fail
    rw [← HWW.out]
    refine wp_region_quiet_below (by kernel_rfl) (by kernel_rfl) ?_
    repeat (go_big_quiet_step (first
      | (go_at_call 14; exact (KS _ _).out)
      | (go_at_call 15; exact (KA _ _).out)
      | (go_at_call 16; exact (KI _ _).out)
      | (go_at_call 13; exact (KB _ _).out)))
    refine wpQuiet_nil ?_
    intro w5 hw5
    have X5 := Lib.hid (XW.out.step (regrown_below hw5))
    have A5 := Lib.hid (HAW.out.step (regrown_below hw5))
    clear hw5 k0 k1 k2 k3 k4 k5 k6 k7 k8 k9 l0 KS KA KI KB
    obtain ⟨wp, rfl⟩ : ∃ wp : World, wp = wo := ⟨_, rfl⟩
    go_wp2_with fail
    go_loopw [5] (fun j wx => ∃ k : Nat, k ≤ i ∧ j = .int .i64 k ∧ Hid (∀ q, q < k → ∀ x, rs[q]? = some x → same ⟨rse, row, rcl, CA, rsl, rbo⟩ x = false) ∧ Sx w ⟨cs, rs, ⟨⟨#[109, 97, 105, 110]⟩, -1, false, mp, msl, mb⟩⟩ (.slice a0 CN c0) (.slice (some ⟨rb, ro, none⟩) RN c1) vk wx ∧ Arg10 wp ⟨rse, row, rcl, CA, rsl, rbo⟩ (.slice xa KL xc) wx) (fun j _ => i - (intOf j).toNat)
    case atStart => exact ⟨0, by omega, rfl, Lib.hid (fun q hq => by omega), X5.out, A5.out⟩
    case round =>
      obtain ⟨k, hk, rfl, HK, hsx, har⟩ := hrel
      have XK := Lib.hid hsx
      have AK := Lib.hid har
      clear hsx har d0 d1
      have d1 := XK.out.c 1 _ rfl
      have r0 := AK.out.c 0 _ rfl; have r1 := AK.out.c 1 _ rfl; have r2 := AK.out.c 2 _ rfl
      simp only at r0 r1 r2
      by_cases hki : k < i
      · have hkl : k < rs.length := by rw [HRN.out]; omega
        obtain ⟨x, hx⟩ : ∃ x, rs[k]? = some x := ⟨_, List.getElem?_eq_getElem hkl⟩
        obtain ⟨xb, xo, hxe, -, x0, x1, x2, -⟩ := (H1.out.below XK.out.below).at hx
        cases hxe
        have HX := Lib.hid hx
        have HSAME : Hid (same ⟨rse, row, rcl, CA, rsl, rbo⟩ x = (decide (rse = x.sel) && (decide (row = x.owner) && decide (rcl = x.cls)))) := Lib.hid rfl
        have HSN : Hid (same ⟨rse, row, rcl, CA, rsl, rbo⟩ x = false → ∀ q, q < k + 1 → ∀ y, rs[q]? = some y → same ⟨rse, row, rcl, CA, rsl, rbo⟩ y = false) := Lib.hid (fun h q hq y hy => by
          by_cases e : q = k
          · subst e
            have := HX.out.symm.trans hy
            cases this
            exact h
          · exact HK.out q (by omega) y hy)
        have HSY : Hid (same ⟨rse, row, rcl, CA, rsl, rbo⟩ x = true → M = false) := Lib.hid (fun h => by
          rw [HMM.out]
          have : (rs.take i).any (same ⟨rse, row, rcl, CA, rsl, rbo⟩) = true := by
            rw [List.any_eq_true]
            refine ⟨x, ?_, h⟩
            have hkt : (rs.take i)[k]? = some x := by rw [List.getElem?_take_of_lt hki]; exact HX.out
            exact List.mem_of_getElem? hkt
          rw [this]; rfl)
        generalize same ⟨rse, row, rcl, CA, rsl, rbo⟩ x = SM at *
        clear hx
        generalize hxs : x.sel = xse at *
        generalize hxo : x.owner = xow at *
        generalize hxc : x.cls = xcl at *
        clear hxs hxo hxc
        by_cases hc1 : xse = rse
        case neg =>
          obtain ⟨f1, f2⟩ := str_no2 hc1
          have HNX := Lib.hid (HSN.out (by rw [HSAME.out, decide_eq_false (fun e => hc1 e.symm)]; rfl))
          clear hc1 HSAME HSN HSY
          go_wp2_with fail
          go_quiet (fail)
          go_wp2_with fail
          go_roundw
          case rel => exact ⟨k + 1, by omega, by go_num, HNX, XK.out.step (draws_low _ _), AK.out.step (draws_low _ _)⟩
          case measure => simp [intOf]; omega
        subst hc1
        by_cases hc2 : xow = row
        case neg =>
          obtain ⟨f1, f2⟩ := int_no hc2
          have HNX := Lib.hid (HSN.out (by rw [HSAME.out, decide_eq_false (show ¬ row = xow from fun e => hc2 e.symm)]; simp))
          clear hc2 HSAME HSN HSY
          go_wp2_with fail
          go_quiet (fail)
          go_wp2_with fail
          go_roundw
          case rel => exact ⟨k + 1, by omega, by go_num, HNX, XK.out.step (draws_low _ _), AK.out.step (draws_low _ _)⟩
          case measure => simp [intOf]; omega
        subst hc2
        by_cases hc3 : xcl = rcl
        case neg =>
          have HNX := Lib.hid (HSN.out (by rw [HSAME.out, decide_eq_false (show ¬ rcl = xcl from fun e => hc3 e.symm)]; simp))
          have f1 : (xcl == rcl) = false := by rw [beq_eq_false_iff_ne]; exact hc3
          clear HSAME HSN HSY
          go_wp2_with fail
          go_quiet (fail)
          go_wp2_with fail
          go_roundw
          case rel => exact ⟨k + 1, by omega, by go_num, HNX, XK.out.step (draws_low _ _), AK.out.step (draws_low _ _)⟩
          case measure => simp [intOf]; omega
        subst hc3
        have hR := HNO.out (HSY.out (by rw [HSAME.out]; simp))
        subst hR
        clear HSAME HSN HSY HNO HYES
        go_wp2_with fail
        go_quiet (fail)
        go_wp2_with fail
        go_ret
        exact ⟨rfl, (XK.out.step (draws_low _ _)).below⟩
      have hMt : M = true := by
        rw [HMM.out]
        have : (rs.take i).any (same ⟨rse, row, rcl, CA, rsl, rbo⟩) = false := by
          rw [List.any_eq_false]
          intro x hx
          obtain ⟨q, hq, rfl⟩ := List.mem_iff_getElem.1 hx
          have hqi : q < i := by rw [List.length_take] at hq; omega
          have hql : q < rs.length := by rw [List.length_take] at hq; omega
          rw [List.getElem_take, HK.out q (by omega) (rs[q]'hql) (List.getElem?_eq_getElem hql)]
          simp
        rw [this]; rfl
      have HNEW := Lib.hid (HYES.out hMt)
      clear hMt
      go_wp2_with fail
      go_roundw
      case rel => exact ⟨i + 1, by omega, by go_num, HNEW.out, XK.out⟩
      case measure => simp [intOf]; omega
end Go.Proofs.YtekeondbbikkpaaGreat.SpecCore
