/-
  spec's l5Body, l5Right and IsMethod.
  Slice values in the form that the model's functions need: rows of texts, but not what trees lead to.
  When a method is valid, by the number of its selector's arguments: plain mathematics.
-/
import Derived.Test.YtdohpppkdecbdaaGreatDoorBAppendTexts
import Derived.Test.YtdohpppkdecbdaaGreatDoorBNamesMath
import Derived.Test.YtdohpppkdecbdaaGreatDoorBSpecRight2
import Derived.Test.YtdohpppkdecbdaaGreatDoorBSpecSel
import Derived.Test.YtdohpppkdecbdaaGreatDoorBTok
import Derived.Test.YtdohpppkdecbdaaGreatDoorBTreeOk
import Derived.Lib.QuietBelow
namespace Go.Proofs.YtdohpppkdecbdaaGreatDoor.Data
open Go.RowKit Go.Sort
open Strs Tree
theorem plainM_inj (a b : M) (h : plainM a = plainM b) : a = b := by
  obtain ⟨a1, a2, a3, a4, a5⟩ := a
  obtain ⟨b1, b2, b3, b4, b5⟩ := b
  simp only [plainM, List.cons.injEq, P.str.injEq, P.bool.injEq, P.row.injEq, true_and, and_true] at h
  obtain ⟨rfl, rfl, h3, h4, h5⟩ := h
  rw [str_inj _ _ h3, str_inj _ _ h4, plainEs_inj _ _ h5]
theorem plainM_fit (m : M) : FitL (env 3) (plainM m) :=
  FitL.cons _ _ _ _ (Fit.str _) (FitL.cons _ _ _ _ (Fit.bool _) (FitL.cons _ _ _ _ (Fit.row _ _ _ rfl (strs_fit _)) (FitL.cons _ _ _ _ (Fit.row _ _ _ rfl (strs_fit _)) (FitL.cons _ _ _ _ (Fit.row _ _ _ rfl (plainEs_fit _)) FitL.nil))))
theorem meth_form {ds : List D} {m : M} (h : erases ds = plainM m) : ∃ (t2 t3 t4 : Nat) (v2 v3 v4 : Value) (d4 : List D), ds = [.str m.sel, .bool m.cls, .row t2 1 v2 (strs m.params), .row t3 1 v3 (strs m.temps), .row t4 5 v4 d4] ∧ erases d4 = plainEs m.body := by
  obtain ⟨m', t2, t3, t4, v2, v3, v4, d4, rfl, h4, h5⟩ := meth_get (ds := ds) (h ▸ plainM_fit m)
  have := plainM_inj m' m (h5.symm.trans h)
  subst this
  exact ⟨t2, t3, t4, v2, v3, v4, d4, rfl, h4⟩
structure MAt (lo : Nat) (w : World) (m : M) (v2 v3 v4 : Value) : Prop where
  sel : m.sel.size ≤ maxLen
  params : Texts lo w m.params v2
  temps : Texts lo w m.temps v3
  body : KidsAt lo w m.body v4
  fparams : Formed v2 m.params.length
  ftemps : Formed v3 m.temps.length
theorem MAt.below {lo : Nat} {w w' : World} {m : M} {v2 v3 v4 : Value} (h : MAt lo w m v2 v3 v4) (hb : Below w.heap.size w w') : MAt lo w' m v2 v3 v4 := ⟨h.sel, h.params.below hb, h.temps.below hb, h.body.below hb, h.fparams, h.ftemps⟩
theorem meth_at {lo : Nat} {w : World} {ds : List D} {m : M} (h : erases ds = plainM m) (hh : Holdss lo w ds) (hs : Stricts ds) : ∃ v2 v3 v4, agg ds = .agg #[.string m.sel, .bool m.cls, v2, v3, v4] ∧ MAt lo w m v2 v3 v4 := by
  obtain ⟨t2, t3, t4, v2, v3, v4, d4, rfl, h4⟩ := meth_form h
  simp only [Holdss, and_true] at hh
  obtain ⟨g0, g1, g2, g3, g4⟩ := hh
  rw [stricts_iff] at hs
  have s0 : m.sel.size ≤ maxLen := by simpa only [Holds] using g0
  exact ⟨v2, v3, v4, rfl, s0, strs_texts g2, strs_texts g3, kids_of h4 g4, formed_val (hs (.row t2 1 v2 (strs m.params)) (by simp)) (by decide) (by rw [strs_len, Nat.mul_one]), formed_val (hs (.row t3 1 v3 (strs m.temps)) (by simp)) (by decide) (by rw [strs_len, Nat.mul_one])⟩
def meth5 (m : M) (v2 v3 v4 : Value) : List D := [.str m.sel, .bool m.cls, .row 0 1 v2 [], .row 0 1 v3 [], .row 0 5 v4 []]
theorem regrown_low {w w' : World} (h : ∃ p : Regrown, w' = Sort.grow (redrawn w p.d) p.os) : Below w.heap.size w w' := by
  obtain ⟨p, rfl⟩ := h
  exact below_regrown _ _ _
set_option maxRecDepth 10000 in
set_option maxHeartbeats 4000000 in
theorem body_any {lo : Nat} {w : World} {m : M} {v2 v3 v4 : Value} (h : MAt lo w m v2 v3 v4) (hl : m.params.length + m.temps.length ≤ 4398046511104) :
    Calls Tryz.prog 12 #[.agg #[.string m.sel, .bool m.cls, v2, v3, v4]] w fun r w' => ∃ vn vk, r = .returned (.agg #[.int .i64 8, .string ⟨#[]⟩, .int .i64 (m.params.length : Int), vn, vk]) ∧ NodeAt 0 w' (bodyE m) vn vk ∧ Below w.heap.size w w' := by
  have hb0 : Below w.heap.size w ((w.alloc (.cells #[.string m.sel, .bool m.cls, v2, v3, v4] 34)).alloc (.cells #[.int .i64 0, .string ⟨#[]⟩, .int .i64 0, .slice none 0 0, .slice none 0 0] 44)) := ((Below.refl _ _).alloc (Nat.le_refl _) _).alloc (by simp) _
  have h0 := h.below hb0
  have K := Lib.hid (block_all h0.params h0.fparams h0.temps h0.ftemps h0.body hl)
  have hz : Cells (w.heap.size + 1) zeroE ((w.alloc (.cells #[.string m.sel, .bool m.cls, v2, v3, v4] 34)).alloc (.cells #[.int .i64 0, .string ⟨#[]⟩, .int .i64 0, .slice none 0 0, .slice none 0 0] 44)) := by
    have := cells_new (w.alloc (.cells #[.string m.sel, .bool m.cls, v2, v3, v4] 34)) zeroE 44
    rw [show (w.alloc (.cells #[.string m.sel, .bool m.cls, v2, v3, v4] 34)).heap.size = w.heap.size + 1 by simp] at this
    exact this
  have hfz : ∀ o, ((w.alloc (.cells #[.string m.sel, .bool m.cls, v2, v3, v4] 34)).alloc (.cells #[.int .i64 0, .string ⟨#[]⟩, .int .i64 0, .slice none 0 0, .slice none 0 0] 44)).frozen? ⟨w.heap.size + 1, o, none⟩ = false := fun o => by go_simp
  have hsz : ((w.alloc (.cells #[.string m.sel, .bool m.cls, v2, v3, v4] 34)).alloc (.cells #[.int .i64 0, .string ⟨#[]⟩, .int .i64 0, .slice none 0 0, .slice none 0 0] 44)).heap.size = w.heap.size + 2 := by simp
  have HZ := Lib.hid hz
  have HF := Lib.hid hfz
  have HB0 := Lib.hid hb0
  have HM := Lib.hid h
  have HSZ := Lib.hid hsz
  obtain ⟨ka, kc, hk4, -⟩ := id h.body
  have HK4 := Lib.hid hk4
  clear h h0 hz hfz hb0 hl hsz hk4
  go_enter Tryz.func12, Tryz.ntmps12
  go_wp2_with fail
  refine K.out.mono ?_
  rintro e w1 ⟨ra, rc, rfl, ht, hb1⟩
  rw [HSZ.out] at ht
  have HB1 := Lib.hid (HB0.out.trans (hb1.mono HB0.out.size))
  have hz1 := HZ.out.step hb1
  have fz : ∀ o, w1.frozen? ⟨w.heap.size + 1, o, none⟩ = false := fun o => (hb1.frozen (p := ⟨w.heap.size + 1, o, none⟩) (show w.heap.size + 1 < _ from HZ.out.1)).trans (HF.out o)
  have z0 := hz1.at 0 (.int 0) rfl
  have z1 := hz1.at 1 (.str ⟨#[]⟩) rfl
  have z2 := hz1.at 2 (.int 0) rfl
  have z3 := hz1.at 3 (.row 0 1 (.slice none 0 0) []) rfl
  have z4 := hz1.at 4 (.row 0 5 (.slice none 0 0) []) rfl
  simp only [val] at z0 z1 z2 z3 z4
  have HT := Lib.hid ht
  have hk4 := HK4.out
  subst hk4
  clear hb1 hz1 K HB0 HZ HF HSZ HK4 ht
  go_wp2_with fail
  have hbf := puts_below (show w.heap.size ≤ w.heap.size + 1 by omega) [.int .i64 8, .string ⟨#[]⟩, .int .i64 m.params.length, .slice ra (m.params.length + m.temps.length) rc, .slice ka m.body.length kc] w w1 0 HB1.out
  have hkp : Tree.Kept (w.heap.size + 2) w1 (puts w1 (w.heap.size + 1) 0 [.int .i64 8, .string ⟨#[]⟩, .int .i64 m.params.length, .slice ra (m.params.length + m.temps.length) rc, .slice ka m.body.length kc]) := by
    have l2 : w.heap.size + 1 < w.heap.size + 2 := by omega
    exact ((((Tree.kept_set _ _ _ l2).trans (Tree.kept_set _ _ _ l2)).trans (Tree.kept_set _ _ _ l2)).trans (Tree.kept_set _ _ _ l2)).trans (Tree.kept_set _ _ _ l2)
  refine bodyPost_ret (v := .agg #[.int .i64 8, .string ⟨#[]⟩, .int .i64 m.params.length, .slice ra (m.params.length + m.temps.length) rc, .slice ka m.body.length kc]) (by simp [results, Tryz.results12, go_sem, *]) rfl ⟨_, _, rfl, node_iff.2 ⟨by rfl, ?_, Nat.zero_le _, ?_, ?_⟩, hbf⟩
  · show (Lit.int .i64 (m.params.length : Int)).wf = true
    obtain ⟨_, _, _, hm2, _⟩ := HM.out.params
    unfold maxLen at hm2
    go_wf
  · exact HT.out.keep (Nat.zero_le _) hkp
  · exact (HM.out.body.keep (Nat.zero_le _) (fun _ _ _ _ h => h)).below hbf
def rightM (m : M) : Bool := Tok.sel m.sel && decide (Tok.countArgs m.sel = (m.params.length : Int)) && isExpr (bodyE m)
def methodOk (m : M) : Bool := rightM m && !Tok.has Tok.words m.sel
theorem bodyE_weight (m : M) : Tree.weight (bodyE m) = (m.params ++ m.temps).length + lens (m.params ++ m.temps) + (m.body.length + Tree.weights m.body) := by
  unfold bodyE
  rw [Tree.weight]
  have : ByteArray.empty.size = 0 := rfl
  omega
set_option maxRecDepth 10000 in
set_option maxHeartbeats 4000000 in
theorem right_meth {lo : Nat} {w : World} {m : M} {v2 v3 v4 : Value} (h : MAt lo w m v2 v3 v4) (hw : m.sel.size + Tree.weight (bodyE m) ≤ 1048576) :
    Calls Tryz.prog 31 #[.agg #[.string m.sel, .bool m.cls, v2, v3, v4]] w fun r w' => r = .returned (.bool (rightM m)) ∧ Below w.heap.size w w' := by
  have hlen : m.params.length + m.temps.length ≤ 1048576 := by
    have h1 := bodyE_weight m
    rw [List.length_append] at h1
    omega
  have hs : m.sel.size ≤ 1048576 := by omega
  have KB := fun w' (hb : Below w.heap.size w w') => Lib.hid (body_any (h.below hb) (by omega))
  have KS := fun w' => Lib.hid (SpecSel.sel_any m.sel w' hs)
  have KC := fun w' => Lib.hid (SpecSel.count_any m.sel w' hs)
  have KE := fun w' vn vk (hn : NodeAt 0 w' (bodyE m) vn vk) => Lib.hid (SpecRight.is_expr (lo := 0) (e := bodyE m) (w := w') ⟨vn, vk, rfl, hn⟩ (by omega))
  have hform : (bodyE m).kind = 8 ∧ (bodyE m).text = ⟨#[]⟩ ∧ (bodyE m).num = (m.params.length : Int) := ⟨rfl, rfl, rfl⟩
  obtain ⟨pa, pc, hp2, -⟩ := id h.params
  have hz : Cells w.heap.size (meth5 m v2 v3 v4) (w.alloc (.cells #[.string m.sel, .bool m.cls, v2, v3, v4] 34)) := cells_new w (meth5 m v2 v3 v4) _
  have hb0 : Below w.heap.size w (w.alloc (.cells #[.string m.sel, .bool m.cls, v2, v3, v4] 34)) := (Below.refl _ _).alloc (Nat.le_refl _) _
  have HZ := Lib.hid hz
  have HB0 := Lib.hid hb0
  have HV : Hid (rightM m = (Tok.sel m.sel && decide (Tok.countArgs m.sel = (m.params.length : Int)) && isExpr (bodyE m))) := Lib.hid rfl
  simp only [hform] at KE
  generalize rightM m = R at *
  generalize bodyE m = B at *
  clear hform hw h hz hb0
  subst hp2
  generalize m.params.length = np at *
  generalize Tok.sel m.sel = S at *
  generalize Tok.countArgs m.sel = Cn at *
  generalize isExpr B = X at *
  go_enter Tryz.func31, Tryz.ntmps31
  go_wp2_with fail
  refine (KB _ HB0.out).out.mono ?_
  rintro e w1 ⟨vn, vk, rfl, hn, hb1⟩
  obtain ⟨-, -, -, ⟨na, nc, hvn, -⟩, ⟨ka, kc, hvk, -⟩⟩ := node_iff.1 hn
  generalize B.names.length = nl at *
  generalize B.kids.length = kl at *
  subst hvn hvk
  go_wp2_with fail
  have hbx : Below w1.heap.size w1 (w1.alloc (.cells #[.int .i64 8, .string ⟨#[]⟩, .int .i64 (np : Int), .slice na nl nc, .slice ka kl kc] 44)) := (Below.refl _ _).alloc (Nat.le_refl _) _
  have HB2 := Lib.hid ((HB0.out.trans (hb1.mono HB0.out.size)).trans (hbx.mono (HB0.out.trans (hb1.mono HB0.out.size)).size))
  have hm2 := (HZ.out.step hb1).step hbx
  have hx2 : Cells w1.heap.size [.int 8, .str ⟨#[]⟩, .int (np : Int), .row 0 1 (.slice na nl nc) [], .row 0 5 (.slice ka kl kc) []] (w1.alloc (.cells #[.int .i64 8, .string ⟨#[]⟩, .int .i64 (np : Int), .slice na nl nc, .slice ka kl kc] 44)) := cells_new w1 [.int 8, .str ⟨#[]⟩, .int (np : Int), .row 0 1 (.slice na nl nc) [], .row 0 5 (.slice ka kl kc) []] 44
  have hn2 := hn.below hbx
  have KX := fun d os => KE (grow (redrawn (w1.alloc (.cells #[.int .i64 8, .string ⟨#[]⟩, .int .i64 (np : Int), .slice na nl nc, .slice ka kl kc] 44)) d) os) (.slice na nl nc) (.slice ka kl kc) (hn2.below (below_regrown _ d os))
  have KX2 := fun d os => Lib.hid (Calls.regrown_of (KX d os).out)
  have KS2 := fun d os => Lib.hid (Calls.regrown_of (KS (grow (redrawn (w1.alloc (.cells #[.int .i64 8, .string ⟨#[]⟩, .int .i64 (np : Int), .slice na nl nc, .slice ka kl kc] 44)) d) os)).out)
  have KC2 := fun d os => Lib.hid (Calls.regrown_of (KC (grow (redrawn (w1.alloc (.cells #[.int .i64 8, .string ⟨#[]⟩, .int .i64 (np : Int), .slice na nl nc, .slice ka kl kc] 44)) d) os)).out)
  have ke0 := cell_regrown (hm2.at 0 (.str m.sel) rfl)
  have ke2 := cell_regrown (hm2.at 2 (.row 0 1 (.slice pa np pc) []) rfl)
  have kx0 := cell_regrown (hx2.at 0 (.int 8) rfl)
  have kx1 := cell_regrown (hx2.at 1 (.str ⟨#[]⟩) rfl)
  have kx2 := cell_regrown (hx2.at 2 (.int (np : Int)) rfl)
  have kx3 := cell_regrown (hx2.at 3 (.row 0 1 (.slice na nl nc) []) rfl)
  have kx4 := cell_regrown (hx2.at 4 (.row 0 5 (.slice ka kl kc) []) rfl)
  simp only [val] at ke0 ke2 kx0 kx1 kx2 kx3 kx4
  clear KB KS KC KE KX hn hn2 hb1 hbx hm2 hx2 HB0 HZ
  generalize w1.heap.size = g at *
  generalize w1.alloc (.cells #[.int .i64 8, .string ⟨#[]⟩, .int .i64 (np : Int), .slice na nl nc, .slice ka kl kc] 44) = W at *
  cases S with
  | false =>
    have hR : R = false := HV.out
    subst hR
    clear HV
    refine wp_region_quiet_below (by kernel_rfl) (by kernel_rfl) ?_
    repeat (go_big_quiet_step ((go_at_call 48; exact (KS2 _ _).out)))
    refine wpQuiet_nil ?_
    intro w2 hw2
    have hb2 := Lib.hid (HB2.out.trans ((regrown_low hw2).mono HB2.out.size))
    clear hw2 ke0 ke2 kx0 kx1 kx2 kx3 kx4 KS2 KC2 KX2
    go_wp2_with fail
    go_ret
    exact ⟨rfl, hb2.out⟩
  | true =>
    by_cases hc : Cn = (np : Int)
    case neg =>
      have hcb : (Cn == (np : Int)) = false := by rw [beq_eq_false_iff_ne]; exact hc
      have hR : R = false := by rw [HV.out, decide_eq_false hc]; rfl
      subst hR
      clear HV hc
      refine wp_region_quiet_below (by kernel_rfl) (by kernel_rfl) ?_
      repeat (go_big_quiet_step (first | (go_at_call 48; exact (KS2 _ _).out) | (go_at_call 49; exact (KC2 _ _).out)))
      refine wpQuiet_nil ?_
      intro w2 hw2
      have hb2 := Lib.hid (HB2.out.trans ((regrown_low hw2).mono HB2.out.size))
      clear hw2 ke0 ke2 kx0 kx1 kx2 kx3 kx4 KS2 KC2 KX2
      go_wp2_with fail
      go_ret
      exact ⟨rfl, hb2.out⟩
    have hcb : (Cn == (np : Int)) = true := by rw [beq_iff_eq]; exact hc
    have hR : R = X := by rw [HV.out, decide_eq_true hc]; rfl
    subst hR
    clear HV hc
    refine wp_region_quiet_below (by kernel_rfl) (by kernel_rfl) ?_
    repeat (go_big_quiet_step (first | (go_at_call 48; exact (KS2 _ _).out) | (go_at_call 49; exact (KC2 _ _).out) | (go_at_call 11; exact (KX2 _ _).out)))
    refine wpQuiet_nil ?_
    intro w2 hw2
    have hb2 := Lib.hid (HB2.out.trans ((regrown_low hw2).mono HB2.out.size))
    clear hw2 ke0 ke2 kx0 kx1 kx2 kx3 kx4 KS2 KC2 KX2
    go_wp2_with fail
    go_ret
    exact ⟨rfl, hb2.out⟩
set_option maxRecDepth 10000 in
set_option maxHeartbeats 4000000 in
theorem is_meth {lo : Nat} {w : World} {m : M} {v2 v3 v4 : Value} (h : MAt lo w m v2 v3 v4) (hw : m.sel.size + Tree.weight (bodyE m) ≤ 1048576) :
    Calls Tryz.prog 14 #[.agg #[.string m.sel, .bool m.cls, v2, v3, v4]] w fun r w' => r = .returned (.bool (methodOk m)) ∧ Below w.heap.size w w' := by
  have hb0 : Below w.heap.size w (w.alloc (.cells #[.string m.sel, .bool m.cls, v2, v3, v4] 34)) := (Below.refl _ _).alloc (Nat.le_refl _) _
  have KR := fun w' (hb : Below w.heap.size w w') => Lib.hid (right_meth (h.below hb) hw)
  have KH := fun v w' h => Lib.hid (SpecTok.has_any v Tok.words m.sel w' h)
  have hz : Cells w.heap.size (meth5 m v2 v3 v4) (w.alloc (.cells #[.string m.sel, .bool m.cls, v2, v3, v4] 34)) := cells_new w (meth5 m v2 v3 v4) _
  have HB0 := Lib.hid hb0
  have HV : Hid (methodOk m = (rightM m && !Tok.has Tok.words m.sel)) := Lib.hid rfl
  have e0 := hz.at 0 (.str m.sel) rfl
  have e1 := hz.at 1 (.bool m.cls) rfl
  have e2 := hz.at 2 (.row 0 1 v2 []) rfl
  have e3 := hz.at 3 (.row 0 1 v3 []) rfl
  have e4 := hz.at 4 (.row 0 5 v4 []) rfl
  simp only [val] at e0 e1 e2 e3 e4
  generalize methodOk m = R at *
  generalize rightM m = X at *
  generalize Tok.has Tok.words m.sel = Y at *
  clear hw h hz
  cases X with
  | false =>
    have hR : R = false := HV.out
    subst hR
    have k0 := cell_regrown e0
    have k1 := cell_regrown e1
    have k2 := cell_regrown e2
    have k3 := cell_regrown e3
    have k4 := cell_regrown e4
    have KR2 := fun d os => Lib.hid (Calls.regrown_of (KR (grow (redrawn (w.alloc (.cells #[.string m.sel, .bool m.cls, v2, v3, v4] 34)) d) os) (hb0.trans ((below_regrown _ d os).mono hb0.size))).out)
    clear HV KR KH e0 e1 e2 e3 e4 hb0
    go_enter Tryz.func14, Tryz.ntmps14
    go_wp2_with fail
    refine wp_region_quiet_below (by kernel_rfl) (by kernel_rfl) ?_
    repeat (go_big_quiet_step ((go_at_call 31; exact (KR2 _ _).out)))
    refine wpQuiet_nil ?_
    intro w2 hw2
    have hb2 := Lib.hid (HB0.out.trans ((regrown_low hw2).mono HB0.out.size))
    clear hw2 k0 k1 k2 k3 k4 KR2
    go_wp2_with fail
    go_ret
    exact ⟨rfl, hb2.out⟩
  | true =>
    have hR : R = !Y := HV.out
    have HR := Lib.hid hR
    clear HV hR hb0
    go_enter Tryz.func14, Tryz.ntmps14
    go_wp2_with fail
    go_region_held3 (fun w' => w'.cell? ⟨w.heap.size, 0, none⟩ = some (.string m.sel) ∧ w'.cell? ⟨w.heap.size, 1, none⟩ = some (.bool m.cls) ∧ w'.cell? ⟨w.heap.size, 2, none⟩ = some v2 ∧ w'.cell? ⟨w.heap.size, 3, none⟩ = some v3 ∧ w'.cell? ⟨w.heap.size, 4, none⟩ = some v4)
      (first | exact ⟨e0, e1, e2, e3, e4⟩ | exact ⟨cell_keep hb6 (cell_keep hb5 (show (w.alloc (.cells #[.string m.sel, .bool m.cls, v2, v3, v4] 34)).drew.cell? _ = _ from e0)), cell_keep hb6 (cell_keep hb5 (show (w.alloc (.cells #[.string m.sel, .bool m.cls, v2, v3, v4] 34)).drew.cell? _ = _ from e1)), cell_keep hb6 (cell_keep hb5 (show (w.alloc (.cells #[.string m.sel, .bool m.cls, v2, v3, v4] 34)).drew.cell? _ = _ from e2)), cell_keep hb6 (cell_keep hb5 (show (w.alloc (.cells #[.string m.sel, .bool m.cls, v2, v3, v4] 34)).drew.cell? _ = _ from e3)), cell_keep hb6 (cell_keep hb5 (show (w.alloc (.cells #[.string m.sel, .bool m.cls, v2, v3, v4] 34)).drew.cell? _ = _ from e4))⟩ | exact ⟨cell_keep hb5 (show (w.alloc (.cells #[.string m.sel, .bool m.cls, v2, v3, v4] 34)).drew.cell? _ = _ from e0), cell_keep hb5 (show (w.alloc (.cells #[.string m.sel, .bool m.cls, v2, v3, v4] 34)).drew.cell? _ = _ from e1), cell_keep hb5 (show (w.alloc (.cells #[.string m.sel, .bool m.cls, v2, v3, v4] 34)).drew.cell? _ = _ from e2), cell_keep hb5 (show (w.alloc (.cells #[.string m.sel, .bool m.cls, v2, v3, v4] 34)).drew.cell? _ = _ from e3), cell_keep hb5 (show (w.alloc (.cells #[.string m.sel, .bool m.cls, v2, v3, v4] 34)).drew.cell? _ = _ from e4)⟩ | go_keep)
      (first
        | (go_at_call 31; refine (KR _ HB0.out.drew).out.mono ?_; rintro e w5 ⟨rfl, hb5⟩)
        | (go_at_call 30; refine (SpecTok.words_any _).mono ?_; rintro e w6 ⟨la, lc, rfl, hat, hb6⟩)
        | (go_at_call 29; refine (KH _ _ hat).out.mono ?_; rintro e w7 ⟨rfl, rfl⟩))
    all_goals
      have hb7 := Lib.hid ((HB0.out.drew.trans (hb5.mono HB0.out.size)).trans (hb6.mono (HB0.out.drew.trans (hb5.mono HB0.out.size)).size))
      clear e0 e1 e2 e3 e4 hat hb5 hb6 KR KH
      go_wp2_with fail
      go_ret
      exact ⟨by rw [HR.out]; rfl, hb7.out⟩
end Go.Proofs.YtdohpppkdecbdaaGreatDoor.Data

namespace Go.Proofs.YtdohpppkdecbdaaGreatDoor.Data
open Go.RowKit
open Strs Tree
mutual
def Semi : D → Prop
  | .int _ => True
  | .str _ => True
  | .bool _ => True
  | .row _ k v ds => (k = 1 → Formed v ds.length) ∧ ((∃ n ds', ds = .int n :: ds') ∨ Semis ds)
def Semis : List D → Prop
  | [] => True
  | d :: ds => Semi d ∧ Semis ds
end
theorem semis_iff {ds : List D} : Semis ds ↔ ∀ d, d ∈ ds → Semi d := by
  induction ds with
  | nil => simp [Semis]
  | cons t ts ih => rw [Semis, ih]; simp
theorem Semis.append {a b : List D} : Semis (a ++ b) ↔ Semis a ∧ Semis b := by
  rw [semis_iff, semis_iff, semis_iff]
  constructor
  · intro h
    exact ⟨fun d hd => h d (by simp [hd]), fun d hd => h d (by simp [hd])⟩
  · rintro ⟨h1, h2⟩ d hd
    rcases List.mem_append.1 hd with h | h
    · exact h1 d h
    · exact h2 d h
theorem Strict.semi : ∀ d, Strict d → Semi d := by
  refine ind (fun n _ => ?_) (fun s _ => ?_) (fun b _ => ?_) fun t k v ds ih h => ?_
  · rw [Semi]; trivial
  · rw [Semi]; trivial
  · rw [Semi]; trivial
  · rw [Strict] at h
    obtain ⟨⟨n, h1, h2⟩, h3⟩ := h
    rw [Semi]
    refine ⟨fun e => ?_, .inr (semis_iff.2 fun d hd => ih d hd (stricts_iff.1 h3 d hd))⟩
    subst e
    rw [Nat.mul_one] at h1
    rw [h1]
    exact h2
theorem Stricts.semis {ds : List D} (h : Stricts ds) : Semis ds := semis_iff.2 fun d hd => Strict.semi d (stricts_iff.1 h d hd)
theorem semi_texts {t : Nat} {v : Value} {xs : List ByteArray} (h : Semi (.row t 1 v (strs xs))) : Formed v xs.length := by
  rw [Semi] at h
  have := h.1 rfl
  rwa [strs_len] at this
theorem semi_methods {t k : Nat} {v : Value} {ds : List D} {ms : List M} (h : Semi (.row t k v ds)) (he : erases ds = plainMs ms) : Semis ds := by
  rw [Semi] at h
  rcases h.2 with ⟨n, ds', rfl⟩ | h2
  · rw [erases_cons, erase] at he
    cases ms with
    | nil => cases he
    | cons m ms => rw [plainMs, plainM] at he; cases he
  · exact h2
theorem semi_classes {t k : Nat} {v : Value} {ds : List D} {cs : List C} (h : Semi (.row t k v ds)) (he : erases ds = plainCs cs) : Semis ds := by
  rw [Semi] at h
  rcases h.2 with ⟨n, ds', rfl⟩ | h2
  · rw [erases_cons, erase] at he
    cases cs with
    | nil => cases he
    | cons m ms => rw [plainCs, plainC] at he; cases he
  · exact h2
theorem meth_at2 {lo : Nat} {w : World} {ds : List D} {m : M} (h : erases ds = plainM m) (hh : Holdss lo w ds) (hs : Semis ds) : ∃ v2 v3 v4, agg ds = .agg #[.string m.sel, .bool m.cls, v2, v3, v4] ∧ MAt lo w m v2 v3 v4 := by
  obtain ⟨t2, t3, t4, v2, v3, v4, d4, rfl, h4⟩ := meth_form h
  simp only [Holdss, and_true] at hh
  obtain ⟨g0, g1, g2, g3, g4⟩ := hh
  rw [semis_iff] at hs
  have s0 : m.sel.size ≤ maxLen := by simpa only [Holds] using g0
  exact ⟨v2, v3, v4, rfl, s0, strs_texts g2, strs_texts g3, kids_of h4 g4, semi_texts (hs (.row t2 1 v2 (strs m.params)) (by simp)), semi_texts (hs (.row t3 1 v3 (strs m.temps)) (by simp))⟩
end Go.Proofs.YtdohpppkdecbdaaGreatDoor.Data

namespace Go.Proofs.YtdohpppkdecbdaaGreatDoor.Data
open Go.RowKit
open Strs Tree
theorem word_sel (s : ByteArray) (h : Tok.has Tok.words s = true) : Tok.sel s = false := by
  unfold Tok.has at h
  rw [List.any_eq_true] at h
  obtain ⟨x, hx, he⟩ := h
  rw [beq_iff_eq, ByteArray.toList_eq, ByteArray.toList_eq] at he
  have hs : s = x := ByteArray.ext (Array.ext' he.symm)
  subst hs
  have hall : (Tok.words.all fun x => !Tok.sel x) = true := by decide +kernel
  have := List.all_eq_true.1 hall s hx
  simpa using this
theorem methodOk_is (m : M) : methodOk m = (decide (Tok.countArgs m.sel = (m.params.length : Int)) && isExpr (bodyE m)) := by
  unfold methodOk rightM
  by_cases hc : Tok.countArgs m.sel = (m.params.length : Int)
  · have h1 : Tok.sel m.sel = true := by rw [Tok.sel_is, decide_eq_true_eq]; omega
    have h2 : Tok.has Tok.words m.sel = false := by
      rw [← Bool.not_eq_true]
      intro h
      rw [word_sel _ h] at h1
      cases h1
    rw [h1, h2, decide_eq_true hc]
    simp
  · rw [decide_eq_false hc]
    simp
end Go.Proofs.YtdohpppkdecbdaaGreatDoor.Data
