/-
  impl's block of a method, and whether a method is one of a class.
  impl's checks of a method of a class and of the main one; IsMethod.
-/
import Derived.Test.YtdfkfpllapbaeaaGreatDoorBImplConcat
import Derived.Test.YtdfkfpllapbaeaaGreatDoorBImplCount
import Derived.Test.YtdfkfpllapbaeaaGreatDoorBImplIsExpr
import Derived.Test.YtdfkfpllapbaeaaGreatDoorBMethMath
import Derived.Test.YtdfkfpllapbaeaaGreatDoorBSentKit
import Derived.Deep.RegionHeld3
namespace Go.Proofs.YtdfkfpllapbaeaaGreatDoor.ImplMeth
open Go.RowKit Go.Sort
open Strs Tree Soft TreeTo Go.Proofs.YtdfkfpllapbaeaaGreatDoor.Data Errs
open ImplTok (Part)
structure MSt (w : World) (m : M) (v2 v3 v4 : Value) : Prop where
  at_ : MAt 0 w m v2 v3 v4
  soft : SoftKids 0 w m.body v4
theorem MSt.below {w w' : World} {m : M} {v2 v3 v4 : Value} (h : MSt w m v2 v3 v4) (hb : Below w.heap.size w w') : MSt w' m v2 v3 v4 := ⟨h.at_.below hb, h.soft.keep (Nat.le_refl _) (keptF_below hb)⟩
structure MCell (w : World) (b o : Nat) (m : M) (v2 v3 v4 : Value) : Prop where
  c0 : w.cell? ⟨b, o, none⟩ = some (.string m.sel)
  c1 : w.cell? ⟨b, o + 1, none⟩ = some (.bool m.cls)
  c2 : w.cell? ⟨b, o + 2, none⟩ = some v2
  c3 : w.cell? ⟨b, o + 3, none⟩ = some v3
  c4 : w.cell? ⟨b, o + 4, none⟩ = some v4
theorem MCell.step {w w' : World} {b o : Nat} {m : M} {v2 v3 v4 : Value} (h : MCell w b o m v2 v3 v4) (hb : Below w.heap.size w w') : MCell w' b o m v2 v3 v4 := ⟨cell_keep hb h.c0, cell_keep hb h.c1, cell_keep hb h.c2, cell_keep hb h.c3, cell_keep hb h.c4⟩
theorem keep5 {w : World} {g b o : Nat} {v : Value} (h : w.cell? ⟨b, o, none⟩ = some v) (hg : b ≠ g) (a0 a1 a2 a3 a4 : Value) : (((((w.setCell ⟨g, 0, none⟩ a0).setCell ⟨g, 1, none⟩ a1).setCell ⟨g, 2, none⟩ a2).setCell ⟨g, 3, none⟩ a3).setCell ⟨g, 4, none⟩ a4).cell? ⟨b, o, none⟩ = some v :=
  have go : ∀ (u : World) (q : Nat) (x : Value), u.cell? ⟨b, o, none⟩ = some v → (u.setCell ⟨g, q, none⟩ x).cell? ⟨b, o, none⟩ = some v := fun u q x hu => (World.cell?_setCell_other _ _ _ _ (by intro e; injection e with e1; exact hg e1.symm)).trans hu
  go _ _ _ (go _ _ _ (go _ _ _ (go _ _ _ (go _ _ _ h))))
set_option maxRecDepth 10000 in
set_option maxHeartbeats 8000000 in
theorem block_any {w : World} {m : M} {v2 v3 v4 : Value} {b o : Nat} (h : MSt w m v2 v3 v4) (c : MCell w b o m v2 v3 v4) (hl : m.params.length + m.temps.length ≤ 4398046511104) :
    Calls Tryz.prog 30 #[.pointer (some ⟨b, o, none⟩)] w fun r w' => ∃ vn, r = .returned (.agg #[.int .i64 8, .string ⟨#[]⟩, .int .i64 (m.params.length : Int), vn, v4]) ∧ NodeAt 0 w' (bodyE m) vn v4 ∧ SoftKids 0 w' m.body v4 ∧ Below w.heap.size w w' := by
  have hb0 : Below w.heap.size w (w.alloc (.cells #[.int .i64 0, .string ⟨#[]⟩, .int .i64 0, .slice none 0 0, .slice none 0 0] 50)) := (Below.refl _ _).alloc (Nat.le_refl _) _
  have hz : Cells w.heap.size zeroE (w.alloc (.cells #[.int .i64 0, .string ⟨#[]⟩, .int .i64 0, .slice none 0 0, .slice none 0 0] 50)) := cells_new w zeroE _
  have hfz : ∀ o, (w.alloc (.cells #[.int .i64 0, .string ⟨#[]⟩, .int .i64 0, .slice none 0 0, .slice none 0 0] 50)).frozen? ⟨w.heap.size, o, none⟩ = false := fun o => by go_simp
  obtain ⟨c0, c1, c2, c3, c4⟩ := c.step hb0
  have hm0 := h.below hb0
  obtain ⟨pa, pc, hp2, -⟩ := id h.at_.params
  obtain ⟨ta, tc, ht2, -⟩ := id h.at_.temps
  obtain ⟨ka, kc, hk2, -⟩ := id h.at_.body
  subst hp2 ht2 hk2
  obtain ⟨W1, hW1⟩ : ∃ W1, W1 = ((w.alloc (.cells #[.int .i64 0, .string ⟨#[]⟩, .int .i64 0, .slice none 0 0, .slice none 0 0] 50)).alloc (.cells #[.slice pa m.params.length pc, .slice ta m.temps.length tc] 22)).drew := ⟨_, rfl⟩
  have hs0 : (w.alloc (.cells #[.int .i64 0, .string ⟨#[]⟩, .int .i64 0, .slice none 0 0, .slice none 0 0] 50)).heap.size = w.heap.size + 1 := by simp
  have hb1 : Below (w.alloc (.cells #[.int .i64 0, .string ⟨#[]⟩, .int .i64 0, .slice none 0 0, .slice none 0 0] 50)).heap.size (w.alloc (.cells #[.int .i64 0, .string ⟨#[]⟩, .int .i64 0, .slice none 0 0, .slice none 0 0] 50)) W1 := by rw [hW1]; exact ((Below.refl _ _).alloc (Nat.le_refl _) _).drew
  have g0 : W1.cell? ⟨w.heap.size + 1, 0, none⟩ = some (.slice pa m.params.length pc) := by rw [hW1, ← hs0]; go_simp
  have g1 : W1.cell? ⟨w.heap.size + 1, 1, none⟩ = some (.slice ta m.temps.length tc) := by rw [hW1, ← hs0]; go_simp
  have hm1 := hm0.below hb1
  have KC := Lib.hid (ImplConcat.concat_any (c := 2) hm1.at_.params hm1.at_.fparams hm1.at_.temps hm1.at_.ftemps g0 g1 hl)
  have HM1 := Lib.hid hm1
  have HB1 := Lib.hid (hb0.trans (hb1.mono hb0.size))
  have HZ1 := Lib.hid (hz.step hb1)
  have HF1 := Lib.hid (fun o => (hb1.frozen (p := ⟨w.heap.size, o, none⟩) hz.1).trans (hfz o))
  have d2 := cell_keep hb1 c2
  have d3 := cell_keep hb1 c3
  have d4 := cell_keep hb1 c4
  have HD2 := Lib.hid d2
  have HD3 := Lib.hid d3
  have HD4 := Lib.hid d4
  have hbl : b < (w.alloc (.cells #[.int .i64 0, .string ⟨#[]⟩, .int .i64 0, .slice none 0 0, .slice none 0 0] 50)).heap.size := cell_lt c2
  have HNE : Hid (b ≠ w.heap.size) := Lib.hid (by have := cell_lt c.c2; have e : b < w.heap.size := this; omega)
  have k2 : ∀ X, ((w.alloc (.cells #[.int .i64 0, .string ⟨#[]⟩, .int .i64 0, .slice none 0 0, .slice none 0 0] 50)).alloc X).cell? ⟨b, o + 2, none⟩ = some (.slice pa m.params.length pc) := fun X => cell_keep ((Below.refl _ _).alloc (Nat.le_refl _) X) c2
  have k3 : ∀ X, ((w.alloc (.cells #[.int .i64 0, .string ⟨#[]⟩, .int .i64 0, .slice none 0 0, .slice none 0 0] 50)).alloc X).cell? ⟨b, o + 3, none⟩ = some (.slice ta m.temps.length tc) := fun X => cell_keep ((Below.refl _ _).alloc (Nat.le_refl _) X) c3
  have k4 : ∀ X, ((w.alloc (.cells #[.int .i64 0, .string ⟨#[]⟩, .int .i64 0, .slice none 0 0, .slice none 0 0] 50)).alloc X).cell? ⟨b, o + 4, none⟩ = some (.slice ka m.body.length kc) := fun X => cell_keep ((Below.refl _ _).alloc (Nat.le_refl _) X) c4
  have hpm : (m.params.length : Int) ≤ 4398046511104 := by omega
  rw [hW1] at KC
  have HW1 := Lib.hid hW1
  have HS1 : Hid (w.heap.size < W1.heap.size) := Lib.hid (by have := hb1.size; omega)
  have HMS := Lib.hid h
  clear h c hb0 hz hfz hm0 hm1 hb1 g0 g1 d2 d3 d4 hW1
  go_enter Tryz.func30, Tryz.ntmps30
  go_wp2_with fail
  go_region_held3 (fun w' => w'.cell? ⟨b, o + 2, none⟩ = some (Value.slice pa m.params.length pc) ∧ w'.cell? ⟨b, o + 3, none⟩ = some (Value.slice ta m.temps.length tc) ∧ w'.cell? ⟨b, o + 4, none⟩ = some (Value.slice ka m.body.length kc))
    (first | with_reducible exact HE.out | with_reducible exact ⟨keep5 HE.out.1 HNE.out _ _ _ _ _, keep5 HE.out.2.1 HNE.out _ _ _ _ _, keep5 HE.out.2.2 HNE.out _ _ _ _ _⟩ | with_reducible exact ⟨k2 _, k3 _, k4 _⟩ | exact ⟨k2 _, k3 _, k4 _⟩ | exact ⟨c2, c3, c4⟩ | go_keep)
    (first
      | (go_at_call 47
         refine KC.out.mono ?_
         rw [← HW1.out]
         rintro e w3 ⟨ra, rc, rfl, ht, hb3⟩
         have hz3 := HZ1.out.step hb3
         have fz : ∀ o, w3.frozen? ⟨w.heap.size, o, none⟩ = false := fun o => (hb3.frozen (p := ⟨w.heap.size, o, none⟩) HZ1.out.1).trans (HF1.out o)
         have z0 := hz3.at 0 (.int 0) rfl
         have z1 := hz3.at 1 (.str ⟨#[]⟩) rfl
         have z2 := hz3.at 2 (.int 0) rfl
         have z3 := hz3.at 3 (.row 0 1 (.slice none 0 0) []) rfl
         have z4 := hz3.at 4 (.row 0 5 (.slice none 0 0) []) rfl
         simp only [val] at z0 z1 z2 z3 z4
         have HE := Lib.hid (And.intro (cell_keep hb3 HD2.out) (And.intro (cell_keep hb3 HD3.out) (cell_keep hb3 HD4.out)))
         clear c0 c1 c2 c3 c4 k2 k3 k4 hs0 hbl))
  all_goals
    have HT3 := Lib.hid ht
    have HB3 := Lib.hid (HB1.out.trans (hb3.mono HB1.out.size))
    clear ht hb3 hz3 KC HM1 HB1 HZ1 HF1 HD2 HD3 HD4 HE HW1
    go_wp2_with fail
    have hbf := puts_below (Nat.le_refl w.heap.size) [.int .i64 8, .string ⟨#[]⟩, .int .i64 m.params.length, .slice ra (m.params.length + m.temps.length) rc, .slice ka m.body.length kc] w w3 0 HB3.out
    have hkp : Tree.Kept W1.heap.size w3 (puts w3 w.heap.size 0 [.int .i64 8, .string ⟨#[]⟩, .int .i64 m.params.length, .slice ra (m.params.length + m.temps.length) rc, .slice ka m.body.length kc]) := by
      have l2 : w.heap.size < W1.heap.size := HS1.out
      exact ((((Tree.kept_set _ _ _ l2).trans (Tree.kept_set _ _ _ l2)).trans (Tree.kept_set _ _ _ l2)).trans (Tree.kept_set _ _ _ l2)).trans (Tree.kept_set _ _ _ l2)
    have hmf := HMS.out.below hbf
    refine bodyPost_ret (v := .agg #[.int .i64 8, .string ⟨#[]⟩, .int .i64 m.params.length, .slice ra (m.params.length + m.temps.length) rc, .slice ka m.body.length kc]) (by simp [results, Tryz.results30, go_sem, *]) rfl ⟨_, rfl, node_iff.2 ⟨by rfl, ?_, Nat.zero_le _, HT3.out.keep (Nat.zero_le _) hkp, hmf.at_.body⟩, hmf.soft, hbf⟩
    show (Lit.int .i64 (m.params.length : Int)).wf = true
    go_wf
end Go.Proofs.YtdfkfpllapbaeaaGreatDoor.ImplMeth

namespace Go.Proofs.YtdfkfpllapbaeaaGreatDoor.ImplMeth
open Go.RowKit Go.Sort
open Strs Tree Soft TreeTo Go.Proofs.YtdfkfpllapbaeaaGreatDoor.Data Errs
open ImplTok (Part)
theorem err_regrown {w : World} {a : Addr} (h : Err w a) (d : Nat) (os : Array Obj) : (grow (redrawn w d) os).cell? ⟨0, 0, none⟩ = some (.iface 113 (.pointer (some a))) := cell_regrown h.2 d os
theorem params_few {m : M} (hw : m.sel.size + Tree.weight (bodyE m) ≤ 1048576) : m.params.length + m.temps.length ≤ 1048576 := by
  have h1 := bodyE_weight m
  rw [List.length_append] at h1
  omega
theorem block_is {w : World} {m : M} {vn v4 : Value} (hn : NodeAt 0 w (bodyE m) vn v4) (hs : SoftKids 0 w m.body v4) (hw : m.sel.size + Tree.weight (bodyE m) ≤ 1048576) :
    Calls Tryz.prog 29 #[.agg #[.int .i64 8, .string ⟨#[]⟩, .int .i64 (m.params.length : Int), vn, v4]] w fun r w' => r = .returned (.bool (isExpr (bodyE m))) ∧ Below w.heap.size w w' :=
  ImplRight.is_expr (lo := 0) (e := bodyE m) ⟨vn, v4, rfl, hn⟩ ⟨_, _, _, _, _, rfl, Soft.soft_iff.2 hs⟩ (by omega)
set_option maxRecDepth 10000 in
set_option maxHeartbeats 8000000 in
theorem check_any {w : World} {m : M} {v2 v3 v4 : Value} {b o : Nat} {a : Addr} (h : MSt w m v2 v3 v4) (c : MCell w b o m v2 v3 v4) (hw : m.sel.size + Tree.weight (bodyE m) ≤ 1048576) (he : Err w a) :
    Calls Tryz.prog 17 #[.pointer (some ⟨b, o, none⟩)] w fun r w' => r = .returned (errV (methodOk m) a) ∧ Below w.heap.size w w' := by
  have hf := params_few hw
  have hs : m.sel.size ≤ 1048576 := by omega
  obtain ⟨c0, c1, c2, c3, c4⟩ := c
  obtain ⟨pa, pc, hp2, -⟩ := id h.at_.params
  obtain ⟨ta, tc, ht2, -⟩ := id h.at_.temps
  obtain ⟨ka, kc, hk2, -⟩ := id h.at_.body
  have KC := fun d os => Lib.hid (Calls.regrown_of (w := w) (d := d) (os := os) (ImplCount.count_any m.sel _ hs))
  have KC2 := fun w' => Lib.hid (ImplCount.count_any m.sel w' hs)
  have k0 := cell_regrown c0
  have k2 := cell_regrown c2
  have HB := fun w' (hb : Below w.heap.size w w') => Lib.hid (block_any (h.below hb) (MCell.step ⟨c0, c1, c2, c3, c4⟩ hb) (by omega))
  have HE := fun w' vn (hn : NodeAt 0 w' (bodyE m) vn v4) (hsf : SoftKids 0 w' m.body v4) => Lib.hid (block_is hn hsf hw)
  have HV := Lib.hid (methodOk_is m)
  have HER := Lib.hid he
  subst hp2 ht2 hk2
  clear h c1 c3 c4 hw hs he
  generalize methodOk m = R at *
  generalize isExpr (bodyE m) = X at *
  generalize Tok.countArgs m.sel = Cn at *
  generalize bodyE m = BE at *
  generalize hNP : m.params.length = NP at *
  by_cases hc : Cn = (NP : Int)
  case neg =>
    have hcb : (Cn != (NP : Int)) = true := by rw [bne_iff_ne]; exact hc
    have hR : R = false := by rw [HV.out, decide_eq_false hc]; rfl
    subst hR
    clear HV hc HB HE KC2 c0 c2
    go_enter Tryz.func17, Tryz.ntmps17
    go_wp2_with fail
    refine wp_region_quiet_below (by kernel_rfl) (by kernel_rfl) ?_
    repeat (go_big_quiet_step ((go_at_call 28; exact (KC _ _).out)))
    refine wpQuiet_nil ?_
    intro w2 hw2
    have hb2 := regrown_low hw2
    have g2 := (HER.out.keep hb2).2
    have HB2 := Lib.hid hb2
    clear hw2 hb2 k0 k2 KC HER
    go_wp2_with fail
    go_ret
    exact ⟨rfl, HB2.out⟩
  have hcb : (Cn != (NP : Int)) = false := by rw [hc]; simp
  have hR : R = X := by rw [HV.out, decide_eq_true hc, Bool.true_and]
  subst hR
  have d0 : w.drew.cell? ⟨b, o, none⟩ = some (.string m.sel) := c0
  have d2 : w.drew.cell? ⟨b, o + 2, none⟩ = some (.slice pa NP pc) := c2
  have HD : Hid (Below w.heap.size w w.drew) := Lib.hid (Below.refl _ _).drew
  clear HV hc KC k0 k2
  go_enter Tryz.func17, Tryz.ntmps17
  go_wp2_with fail
  go_region_held3 (fun w' => w'.cell? ⟨b, o, none⟩ = some (Value.string m.sel) ∧ w'.cell? ⟨b, o + 2, none⟩ = some (Value.slice pa NP pc))
    (first | with_reducible exact ⟨cell_keep hb3 (cell_keep hb2 (cell_keep hb1 d0)), cell_keep hb3 (cell_keep hb2 (cell_keep hb1 d2))⟩ | with_reducible exact ⟨cell_keep hb2 (cell_keep hb1 d0), cell_keep hb2 (cell_keep hb1 d2)⟩ | with_reducible exact ⟨cell_keep hb1 d0, cell_keep hb1 d2⟩ | with_reducible exact ⟨d0, d2⟩ | exact ⟨c0, c2⟩ | go_keep)
    (first
      | (go_at_call 28; refine (KC2 _).out.mono ?_; rintro e w1 ⟨rfl, hb1⟩)
      | (go_at_call 30; refine (HB _ (HD.out.trans (hb1.mono HD.out.size))).out.mono ?_; rintro e w2 ⟨vn, rfl, hn, hsf, hb2⟩)
      | (go_at_call 29; refine (HE _ _ hn hsf).out.mono ?_; rintro e w3 ⟨rfl, hb3⟩))
  all_goals
    have g1 := HD.out.trans (hb1.mono HD.out.size)
    have g2 := g1.trans (hb2.mono g1.size)
    have g3 := g2.trans (hb3.mono g2.size)
    have HB3 := Lib.hid g3
    have e2 := (HER.out.keep g3).2
    clear g1 g2 g3 hb1 hb2 hb3 hn hsf d0 d2 c0 c2 KC2 HB HE HER HD
    cases R with
    | true =>
      go_wp2_with fail
      go_ret
      exact ⟨rfl, HB3.out⟩
    | false =>
      go_wp2_with fail
      go_ret
      exact ⟨rfl, HB3.out⟩
set_option maxRecDepth 10000 in
set_option maxHeartbeats 8000000 in
theorem is_method {w : World} {m : M} {ds : List D} {a : Addr} (hd : erases ds = plainM m) (ho : Own 0 w ds) (hw : Data.weights (erases ds) ≤ 1048576) (he : Err w a) :
    Calls Tryz.prog 7 #[agg ds] w fun r w' => r = .returned (.bool (methodOk m)) ∧ Below w.heap.size w w' := by
  rw [hd, plainM_weight] at hw
  obtain ⟨v2, v3, v4, hag, hm⟩ := meth_at hd ho.holds ho.strict
  obtain ⟨t2, t3, t4, w2, w3, w4, d4, rfl, h4⟩ := meth_form hd
  have hsoft : SoftKids 0 w m.body w4 := softkids_of h4 (row_iff.1 (Own.right (a := [.str m.sel, .bool m.cls, .row t2 1 w2 (strs m.params), .row t3 1 w3 (strs m.temps)]) (b := [.row t4 5 w4 d4]) ho))
  have hvv : v2 = w2 ∧ v3 = w3 ∧ v4 = w4 := by
    have := congrArg Array.toList (Value.agg.inj hag)
    simp [vals, val] at this
    exact ⟨this.1.symm, this.2.1.symm, this.2.2.symm⟩
  obtain ⟨rfl, rfl, rfl⟩ := hvv
  rw [hag]
  have hst : MSt w m v2 v3 v4 := ⟨hm, hsoft⟩
  have hb0 : Below w.heap.size w (w.alloc (.cells #[.string m.sel, .bool m.cls, v2, v3, v4] 30)) := (Below.refl _ _).alloc (Nat.le_refl _) _
  have hz := cells_new w (meth5 m v2 v3 v4) 30
  have hz0 := hz.at 0 (.str m.sel) rfl
  have hz1 := hz.at 1 (.bool m.cls) rfl
  have hz2 := hz.at 2 (.row 0 1 v2 []) rfl
  have hz3 := hz.at 3 (.row 0 1 v3 []) rfl
  have hz4 := hz.at 4 (.row 0 5 v4 []) rfl
  have hc : MCell (w.alloc (.cells #[.string m.sel, .bool m.cls, v2, v3, v4] 30)) w.heap.size 0 m v2 v3 v4 := ⟨hz0, hz1, hz2, hz3, hz4⟩
  have KC := fun d os => Lib.hid (Calls.regrown_of (w := w.alloc (.cells #[.string m.sel, .bool m.cls, v2, v3, v4] 30)) (d := d) (os := os) (check_any ((hst.below hb0).below (below_regrown _ d os)) (hc.step (below_regrown _ d os)) hw ((he.keep hb0).keep (below_regrown _ d os))))
  have KI := fun d os => Lib.hid (Calls.regrown_of (w := w.alloc (.cells #[.string m.sel, .bool m.cls, v2, v3, v4] 30)) (d := d) (os := os) ((is_any (methodOk m) a _).mono (fun e w' h => (⟨h.1, by rw [h.2]; exact Below.refl _ _⟩ : e = .returned (.bool (!methodOk m)) ∧ Below _ _ w'))))
  have ke := err_regrown (he.keep hb0)
  have HB0 := Lib.hid hb0
  clear hd ho hw he hag hm hsoft hst hb0 hz hz0 hz1 hz2 hz3 hz4 hc
  generalize methodOk m = R at *
  go_enter Tryz.func7, Tryz.ntmps7
  go_wp2_with fail
  refine wp_region_quiet_below (by kernel_rfl) (by kernel_rfl) ?_
  repeat (go_big_quiet_step (first | (go_at_call 17; exact (KC _ _).out) | (go_at_call 16; exact (KI _ _).out)))
  refine wpQuiet_nil ?_
  intro w5 hw5
  have HB5 := Lib.hid (HB0.out.trans ((regrown_low hw5).mono HB0.out.size))
  clear hw5 KC KI ke
  go_wp2_with fail
  go_ret
  exact ⟨by simp, HB5.out⟩
end Go.Proofs.YtdfkfpllapbaeaaGreatDoor.ImplMeth
