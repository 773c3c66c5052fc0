/-
  spec's l5Body, l5Right and IsMethod.
-/
import Derived.Test.YtlmhgeanknhcfaaAppendTexts
import Derived.Test.YtlmhgeanknhcfaaTok
import Derived.Test.YtlmhgeanknhcfaaTreeOk
import Derived.Lib.QuietBelow
namespace Go.Proofs.Ytlmhgeanknhcfaa.Data
open Go.RowKit Go.Sort
open Strs Tree

theorem plainM_inj (a b : M) (h : plainM a = plainM b) : a = b := by
  obtain ⟨a1, a2, a3, a4, a5⟩ := a
  obtain ⟨b1, b2, b3, b4, b5⟩ := b
  simp only [plainM, List.cons.injEq, P.str.injEq, P.bool.injEq, P.row.injEq, true_and, and_true] at h
  obtain ⟨rfl, rfl, h3, h4, h5⟩ := h
  rw [str_inj _ _ h3, str_inj _ _ h4, plainEs_inj _ _ h5]
theorem plainM_fit (m : M) : FitL (env 3) (plainM m) :=
  FitL.cons _ _ _ _ (Fit.str _) (FitL.cons _ _ _ _ (Fit.bool _) (FitL.cons _ _ _ _ (Fit.row _ _ _ rfl (strs_fit _)) (FitL.cons _ _ _ _ (Fit.row _ _ _ rfl (strs_fit _)) (FitL.cons _ _ _ _ (Fit.row _ _ _ rfl (plainEs_fit _)) FitL.nil))))
theorem meth_form {ds : List D} {m : M} (h : erases ds = plainM m) : ∃ (t2 t3 t4 : Nat) (v2 v3 v4 : Value) (d4 : List D), ds = [.str m.sel, .bool m.cls, .row t2 1 v2 (strs m.params), .row t3 1 v3 (strs m.temps), .row t4 5 v4 d4] ∧ erases d4 = plainEs m.body := by
  obtain ⟨m', t2, t3, t4, v2, v3, v4, d4, rfl, h4, h5⟩ := meth_get (ds := ds) (h ▸ plainM_fit m)
  have := plainM_inj m' m (h5.symm.trans h)
  subst this
  exact ⟨t2, t3, t4, v2, v3, v4, d4, rfl, h4⟩
/-- A method's cells: what of them is read. -/
structure MAt (lo : Nat) (w : World) (m : M) (v2 v3 v4 : Value) : Prop where
  sel : m.sel.size ≤ maxLen
  params : Texts lo w m.params v2
  temps : Texts lo w m.temps v3
  body : KidsAt lo w m.body v4
  fparams : Formed v2 m.params.length
  ftemps : Formed v3 m.temps.length
theorem MAt.below {lo : Nat} {w w' : World} {m : M} {v2 v3 v4 : Value} (h : MAt lo w m v2 v3 v4) (hb : Below w.heap.size w w') : MAt lo w' m v2 v3 v4 := ⟨h.sel, h.params.below hb, h.temps.below hb, h.body.below hb, h.fparams, h.ftemps⟩
theorem meth_at {lo : Nat} {w : World} {ds : List D} {m : M} (h : erases ds = plainM m) (hh : Holdss lo w ds) (hs : Stricts ds) : ∃ v2 v3 v4, agg ds = .agg #[.string m.sel, .bool m.cls, v2, v3, v4] ∧ MAt lo w m v2 v3 v4 := by
  obtain ⟨t2, t3, t4, v2, v3, v4, d4, rfl, h4⟩ := meth_form h
  simp only [Holdss, and_true] at hh
  obtain ⟨g0, g1, g2, g3, g4⟩ := hh
  rw [stricts_iff] at hs
  have s0 : m.sel.size ≤ maxLen := by simpa only [Holds] using g0
  exact ⟨v2, v3, v4, rfl, s0, strs_texts g2, strs_texts g3, kids_of h4 g4, formed_val (hs (.row t2 1 v2 (strs m.params)) (by simp)) (by decide) (by rw [strs_len, Nat.mul_one]), formed_val (hs (.row t3 1 v3 (strs m.temps)) (by simp)) (by decide) (by rw [strs_len, Nat.mul_one])⟩
def meth5 (m : M) (v2 v3 v4 : Value) : List D := [.str m.sel, .bool m.cls, .row 0 1 v2 [], .row 0 1 v3 [], .row 0 5 v4 []]

theorem regrown_low {w w' : World} (h : ∃ p : Regrown, w' = Sort.grow (redrawn w p.d) p.os) : Below w.heap.size w w' := by
  obtain ⟨p, rfl⟩ := h
  exact below_regrown _ _ _

set_option maxRecDepth 10000 in
set_option maxHeartbeats 4000000 in
theorem body_any {lo : Nat} {w : World} {m : M} {v2 v3 v4 : Value} (h : MAt lo w m v2 v3 v4) (hl : m.params.length + m.temps.length ≤ 4398046511104) :
    Calls Try.prog 18 #[.agg #[.string m.sel, .bool m.cls, v2, v3, v4]] w fun r w' => ∃ vn vk, r = .returned (.agg #[.int .i64 8, .string ⟨#[]⟩, .int .i64 (m.params.length : Int), vn, vk]) ∧ NodeAt 0 w' (bodyE m) vn vk ∧ Below w.heap.size w w' := by
  have hb0 : Below w.heap.size w ((w.alloc (.cells #[.string m.sel, .bool m.cls, v2, v3, v4] 30)).alloc (.cells #[.int .i64 0, .string ⟨#[]⟩, .int .i64 0, .slice none 0 0, .slice none 0 0] 47)) := ((Below.refl _ _).alloc (Nat.le_refl _) _).alloc (by simp) _
  have h0 := h.below hb0
  have K := Lib.hid (block_all h0.params h0.fparams h0.temps h0.ftemps h0.body hl)
  have hz : Cells (w.heap.size + 1) zeroE ((w.alloc (.cells #[.string m.sel, .bool m.cls, v2, v3, v4] 30)).alloc (.cells #[.int .i64 0, .string ⟨#[]⟩, .int .i64 0, .slice none 0 0, .slice none 0 0] 47)) := by
    have := cells_new (w.alloc (.cells #[.string m.sel, .bool m.cls, v2, v3, v4] 30)) zeroE 47
    rw [show (w.alloc (.cells #[.string m.sel, .bool m.cls, v2, v3, v4] 30)).heap.size = w.heap.size + 1 by simp] at this
    exact this
  have hfz : ∀ o, ((w.alloc (.cells #[.string m.sel, .bool m.cls, v2, v3, v4] 30)).alloc (.cells #[.int .i64 0, .string ⟨#[]⟩, .int .i64 0, .slice none 0 0, .slice none 0 0] 47)).frozen? ⟨w.heap.size + 1, o, none⟩ = false := fun o => by go_simp
  have hsz : ((w.alloc (.cells #[.string m.sel, .bool m.cls, v2, v3, v4] 30)).alloc (.cells #[.int .i64 0, .string ⟨#[]⟩, .int .i64 0, .slice none 0 0, .slice none 0 0] 47)).heap.size = w.heap.size + 2 := by simp
  have HZ := Lib.hid hz
  have HF := Lib.hid hfz
  have HB0 := Lib.hid hb0
  have HM := Lib.hid h
  have HSZ := Lib.hid hsz
  obtain ⟨ka, kc, hk4, -⟩ := id h.body
  have HK4 := Lib.hid hk4
  clear h h0 hz hfz hb0 hl hsz hk4
  go_enter Try.func18, Try.ntmps18
  go_wp2_with fail
  refine K.out.mono ?_
  rintro e w1 ⟨ra, rc, rfl, ht, hb1⟩
  rw [HSZ.out] at ht
  have HB1 := Lib.hid (HB0.out.trans (hb1.mono HB0.out.size))
  have hz1 := HZ.out.step hb1
  have fz : ∀ o, w1.frozen? ⟨w.heap.size + 1, o, none⟩ = false := fun o => (hb1.frozen (p := ⟨w.heap.size + 1, o, none⟩) (show w.heap.size + 1 < _ from HZ.out.1)).trans (HF.out o)
  have z0 := hz1.at 0 (.int 0) rfl
  have z1 := hz1.at 1 (.str ⟨#[]⟩) rfl
  have z2 := hz1.at 2 (.int 0) rfl
  have z3 := hz1.at 3 (.row 0 1 (.slice none 0 0) []) rfl
  have z4 := hz1.at 4 (.row 0 5 (.slice none 0 0) []) rfl
  simp only [val] at z0 z1 z2 z3 z4
  have HT := Lib.hid ht
  have hk4 := HK4.out
  subst hk4
  clear hb1 hz1 K HB0 HZ HF HSZ HK4 ht
  go_wp2_with fail
  have hbf := puts_below (show w.heap.size ≤ w.heap.size + 1 by omega) [.int .i64 8, .string ⟨#[]⟩, .int .i64 m.params.length, .slice ra (m.params.length + m.temps.length) rc, .slice ka m.body.length kc] w w1 0 HB1.out
  have hkp : Tree.Kept (w.heap.size + 2) w1 (puts w1 (w.heap.size + 1) 0 [.int .i64 8, .string ⟨#[]⟩, .int .i64 m.params.length, .slice ra (m.params.length + m.temps.length) rc, .slice ka m.body.length kc]) := by
    have l2 : w.heap.size + 1 < w.heap.size + 2 := by omega
    exact ((((Tree.kept_set _ _ _ l2).trans (Tree.kept_set _ _ _ l2)).trans (Tree.kept_set _ _ _ l2)).trans (Tree.kept_set _ _ _ l2)).trans (Tree.kept_set _ _ _ l2)
  refine bodyPost_ret (v := .agg #[.int .i64 8, .string ⟨#[]⟩, .int .i64 m.params.length, .slice ra (m.params.length + m.temps.length) rc, .slice ka m.body.length kc]) (by simp [results, Try.results18, go_sem, *]) rfl ⟨_, _, rfl, node_iff.2 ⟨by rfl, ?_, Nat.zero_le _, ?_, ?_⟩, hbf⟩
  · show (Lit.int .i64 (m.params.length : Int)).wf = true
    obtain ⟨_, _, _, hm2, _⟩ := HM.out.params
    unfold maxLen at hm2
    go_wf
  · exact HT.out.keep (Nat.zero_le _) hkp
  · exact (HM.out.body.keep (Nat.zero_le _) (fun _ _ _ _ h => h)).below hbf

def rightM (m : M) : Bool := Tok.sel m.sel && decide (Tok.countArgs m.sel = (m.params.length : Int)) && isExpr (bodyE m)
def methodOk (m : M) : Bool := rightM m && !Tok.has Tok.words m.sel
theorem bodyE_weight (m : M) : Tree.weight (bodyE m) = (m.params ++ m.temps).length + lens (m.params ++ m.temps) + (m.body.length + Tree.weights m.body) := by
  unfold bodyE
  rw [Tree.weight]
  have : ByteArray.empty.size = 0 := rfl
  omega

end Go.Proofs.Ytlmhgeanknhcfaa.Data
