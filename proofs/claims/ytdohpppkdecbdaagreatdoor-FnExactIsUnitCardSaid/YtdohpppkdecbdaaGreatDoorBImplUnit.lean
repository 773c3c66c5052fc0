/-
  impl's block of a method, and whether a method is one of a class.
  impl's checks of a method of a class and of the main one; IsMethod.
  impl's checks of the main method, of a class and of a unit; IsUnit.
-/
import Derived.Test.YtdohpppkdecbdaaGreatDoorBImplConcat
import Derived.Test.YtdohpppkdecbdaaGreatDoorBImplCount
import Derived.Test.YtdohpppkdecbdaaGreatDoorBImplIsExpr
import Derived.Test.YtdohpppkdecbdaaGreatDoorBImplVals
import Derived.Test.YtdohpppkdecbdaaGreatDoorBMethMath
import Derived.Test.YtdohpppkdecbdaaGreatDoorBSentKit
import Derived.Test.YtdohpppkdecbdaaGreatDoorBSpecUnit
import Derived.Deep.RegionHeld3
namespace Go.Proofs.YtdohpppkdecbdaaGreatDoor.ImplMeth
open Go.RowKit Go.Sort
open Strs Tree Soft TreeTo Go.Proofs.YtdohpppkdecbdaaGreatDoor.Data Errs
open ImplTok (Part)
structure MSt (w : World) (m : M) (v2 v3 v4 : Value) : Prop where
  at_ : MAt 0 w m v2 v3 v4
  soft : SoftKids 0 w m.body v4
theorem MSt.below {w w' : World} {m : M} {v2 v3 v4 : Value} (h : MSt w m v2 v3 v4) (hb : Below w.heap.size w w') : MSt w' m v2 v3 v4 := ⟨h.at_.below hb, h.soft.keep (Nat.le_refl _) (keptF_below hb)⟩
structure MCell (w : World) (b o : Nat) (m : M) (v2 v3 v4 : Value) : Prop where
  c0 : w.cell? ⟨b, o, none⟩ = some (.string m.sel)
  c1 : w.cell? ⟨b, o + 1, none⟩ = some (.bool m.cls)
  c2 : w.cell? ⟨b, o + 2, none⟩ = some v2
  c3 : w.cell? ⟨b, o + 3, none⟩ = some v3
  c4 : w.cell? ⟨b, o + 4, none⟩ = some v4
theorem MCell.step {w w' : World} {b o : Nat} {m : M} {v2 v3 v4 : Value} (h : MCell w b o m v2 v3 v4) (hb : Below w.heap.size w w') : MCell w' b o m v2 v3 v4 := ⟨cell_keep hb h.c0, cell_keep hb h.c1, cell_keep hb h.c2, cell_keep hb h.c3, cell_keep hb h.c4⟩
theorem keep5 {w : World} {g b o : Nat} {v : Value} (h : w.cell? ⟨b, o, none⟩ = some v) (hg : b ≠ g) (a0 a1 a2 a3 a4 : Value) : (((((w.setCell ⟨g, 0, none⟩ a0).setCell ⟨g, 1, none⟩ a1).setCell ⟨g, 2, none⟩ a2).setCell ⟨g, 3, none⟩ a3).setCell ⟨g, 4, none⟩ a4).cell? ⟨b, o, none⟩ = some v :=
  have go : ∀ (u : World) (q : Nat) (x : Value), u.cell? ⟨b, o, none⟩ = some v → (u.setCell ⟨g, q, none⟩ x).cell? ⟨b, o, none⟩ = some v := fun u q x hu => (World.cell?_setCell_other _ _ _ _ (by intro e; injection e with e1; exact hg e1.symm)).trans hu
  go _ _ _ (go _ _ _ (go _ _ _ (go _ _ _ (go _ _ _ h))))
set_option maxRecDepth 10000 in
set_option maxHeartbeats 8000000 in
theorem block_any {w : World} {m : M} {v2 v3 v4 : Value} {b o : Nat} (h : MSt w m v2 v3 v4) (c : MCell w b o m v2 v3 v4) (hl : m.params.length + m.temps.length ≤ 4398046511104) :
    Calls Tryz.prog 56 #[.pointer (some ⟨b, o, none⟩)] w fun r w' => ∃ vn, r = .returned (.agg #[.int .i64 8, .string ⟨#[]⟩, .int .i64 (m.params.length : Int), vn, v4]) ∧ NodeAt 0 w' (bodyE m) vn v4 ∧ SoftKids 0 w' m.body v4 ∧ Below w.heap.size w w' := by
  have hb0 : Below w.heap.size w (w.alloc (.cells #[.int .i64 0, .string ⟨#[]⟩, .int .i64 0, .slice none 0 0, .slice none 0 0] 44)) := (Below.refl _ _).alloc (Nat.le_refl _) _
  have hz : Cells w.heap.size zeroE (w.alloc (.cells #[.int .i64 0, .string ⟨#[]⟩, .int .i64 0, .slice none 0 0, .slice none 0 0] 44)) := cells_new w zeroE _
  have hfz : ∀ o, (w.alloc (.cells #[.int .i64 0, .string ⟨#[]⟩, .int .i64 0, .slice none 0 0, .slice none 0 0] 44)).frozen? ⟨w.heap.size, o, none⟩ = false := fun o => by go_simp
  obtain ⟨c0, c1, c2, c3, c4⟩ := c.step hb0
  have hm0 := h.below hb0
  obtain ⟨pa, pc, hp2, -⟩ := id h.at_.params
  obtain ⟨ta, tc, ht2, -⟩ := id h.at_.temps
  obtain ⟨ka, kc, hk2, -⟩ := id h.at_.body
  subst hp2 ht2 hk2
  obtain ⟨W1, hW1⟩ : ∃ W1, W1 = ((w.alloc (.cells #[.int .i64 0, .string ⟨#[]⟩, .int .i64 0, .slice none 0 0, .slice none 0 0] 44)).alloc (.cells #[.slice pa m.params.length pc, .slice ta m.temps.length tc] 23)).drew := ⟨_, rfl⟩
  have hs0 : (w.alloc (.cells #[.int .i64 0, .string ⟨#[]⟩, .int .i64 0, .slice none 0 0, .slice none 0 0] 44)).heap.size = w.heap.size + 1 := by simp
  have hb1 : Below (w.alloc (.cells #[.int .i64 0, .string ⟨#[]⟩, .int .i64 0, .slice none 0 0, .slice none 0 0] 44)).heap.size (w.alloc (.cells #[.int .i64 0, .string ⟨#[]⟩, .int .i64 0, .slice none 0 0, .slice none 0 0] 44)) W1 := by rw [hW1]; exact ((Below.refl _ _).alloc (Nat.le_refl _) _).drew
  have g0 : W1.cell? ⟨w.heap.size + 1, 0, none⟩ = some (.slice pa m.params.length pc) := by rw [hW1, ← hs0]; go_simp
  have g1 : W1.cell? ⟨w.heap.size + 1, 1, none⟩ = some (.slice ta m.temps.length tc) := by rw [hW1, ← hs0]; go_simp
  have hm1 := hm0.below hb1
  have KC := Lib.hid (ImplConcat.concat_any (c := 2) hm1.at_.params hm1.at_.fparams hm1.at_.temps hm1.at_.ftemps g0 g1 hl)
  have HM1 := Lib.hid hm1
  have HB1 := Lib.hid (hb0.trans (hb1.mono hb0.size))
  have HZ1 := Lib.hid (hz.step hb1)
  have HF1 := Lib.hid (fun o => (hb1.frozen (p := ⟨w.heap.size, o, none⟩) hz.1).trans (hfz o))
  have d2 := cell_keep hb1 c2
  have d3 := cell_keep hb1 c3
  have d4 := cell_keep hb1 c4
  have HD2 := Lib.hid d2
  have HD3 := Lib.hid d3
  have HD4 := Lib.hid d4
  have hbl : b < (w.alloc (.cells #[.int .i64 0, .string ⟨#[]⟩, .int .i64 0, .slice none 0 0, .slice none 0 0] 44)).heap.size := cell_lt c2
  have HNE : Hid (b ≠ w.heap.size) := Lib.hid (by have := cell_lt c.c2; have e : b < w.heap.size := this; omega)
  have k2 : ∀ X, ((w.alloc (.cells #[.int .i64 0, .string ⟨#[]⟩, .int .i64 0, .slice none 0 0, .slice none 0 0] 44)).alloc X).cell? ⟨b, o + 2, none⟩ = some (.slice pa m.params.length pc) := fun X => cell_keep ((Below.refl _ _).alloc (Nat.le_refl _) X) c2
  have k3 : ∀ X, ((w.alloc (.cells #[.int .i64 0, .string ⟨#[]⟩, .int .i64 0, .slice none 0 0, .slice none 0 0] 44)).alloc X).cell? ⟨b, o + 3, none⟩ = some (.slice ta m.temps.length tc) := fun X => cell_keep ((Below.refl _ _).alloc (Nat.le_refl _) X) c3
  have k4 : ∀ X, ((w.alloc (.cells #[.int .i64 0, .string ⟨#[]⟩, .int .i64 0, .slice none 0 0, .slice none 0 0] 44)).alloc X).cell? ⟨b, o + 4, none⟩ = some (.slice ka m.body.length kc) := fun X => cell_keep ((Below.refl _ _).alloc (Nat.le_refl _) X) c4
  have hpm : (m.params.length : Int) ≤ 4398046511104 := by omega
  rw [hW1] at KC
  have HW1 := Lib.hid hW1
  have HS1 : Hid (w.heap.size < W1.heap.size) := Lib.hid (by have := hb1.size; omega)
  have HMS := Lib.hid h
  clear h c hb0 hz hfz hm0 hm1 hb1 g0 g1 d2 d3 d4 hW1
  go_enter Tryz.func56, Tryz.ntmps56
  go_wp2_with fail
  go_region_held3 (fun w' => w'.cell? ⟨b, o + 2, none⟩ = some (Value.slice pa m.params.length pc) ∧ w'.cell? ⟨b, o + 3, none⟩ = some (Value.slice ta m.temps.length tc) ∧ w'.cell? ⟨b, o + 4, none⟩ = some (Value.slice ka m.body.length kc))
    (first | with_reducible exact HE.out | with_reducible exact ⟨keep5 HE.out.1 HNE.out _ _ _ _ _, keep5 HE.out.2.1 HNE.out _ _ _ _ _, keep5 HE.out.2.2 HNE.out _ _ _ _ _⟩ | with_reducible exact ⟨k2 _, k3 _, k4 _⟩ | exact ⟨k2 _, k3 _, k4 _⟩ | exact ⟨c2, c3, c4⟩ | go_keep)
    (first
      | (go_at_call 70
         refine KC.out.mono ?_
         rw [← HW1.out]
         rintro e w3 ⟨ra, rc, rfl, ht, hb3⟩
         have hz3 := HZ1.out.step hb3
         have fz : ∀ o, w3.frozen? ⟨w.heap.size, o, none⟩ = false := fun o => (hb3.frozen (p := ⟨w.heap.size, o, none⟩) HZ1.out.1).trans (HF1.out o)
         have z0 := hz3.at 0 (.int 0) rfl
         have z1 := hz3.at 1 (.str ⟨#[]⟩) rfl
         have z2 := hz3.at 2 (.int 0) rfl
         have z3 := hz3.at 3 (.row 0 1 (.slice none 0 0) []) rfl
         have z4 := hz3.at 4 (.row 0 5 (.slice none 0 0) []) rfl
         simp only [val] at z0 z1 z2 z3 z4
         have HE := Lib.hid (And.intro (cell_keep hb3 HD2.out) (And.intro (cell_keep hb3 HD3.out) (cell_keep hb3 HD4.out)))
         clear c0 c1 c2 c3 c4 k2 k3 k4 hs0 hbl))
  all_goals
    have HT3 := Lib.hid ht
    have HB3 := Lib.hid (HB1.out.trans (hb3.mono HB1.out.size))
    clear ht hb3 hz3 KC HM1 HB1 HZ1 HF1 HD2 HD3 HD4 HE HW1
    go_wp2_with fail
    have hbf := puts_below (Nat.le_refl w.heap.size) [.int .i64 8, .string ⟨#[]⟩, .int .i64 m.params.length, .slice ra (m.params.length + m.temps.length) rc, .slice ka m.body.length kc] w w3 0 HB3.out
    have hkp : Tree.Kept W1.heap.size w3 (puts w3 w.heap.size 0 [.int .i64 8, .string ⟨#[]⟩, .int .i64 m.params.length, .slice ra (m.params.length + m.temps.length) rc, .slice ka m.body.length kc]) := by
      have l2 : w.heap.size < W1.heap.size := HS1.out
      exact ((((Tree.kept_set _ _ _ l2).trans (Tree.kept_set _ _ _ l2)).trans (Tree.kept_set _ _ _ l2)).trans (Tree.kept_set _ _ _ l2)).trans (Tree.kept_set _ _ _ l2)
    have hmf := HMS.out.below hbf
    refine bodyPost_ret (v := .agg #[.int .i64 8, .string ⟨#[]⟩, .int .i64 m.params.length, .slice ra (m.params.length + m.temps.length) rc, .slice ka m.body.length kc]) (by simp [results, Tryz.results56, go_sem, *]) rfl ⟨_, rfl, node_iff.2 ⟨by rfl, ?_, Nat.zero_le _, HT3.out.keep (Nat.zero_le _) hkp, hmf.at_.body⟩, hmf.soft, hbf⟩
    show (Lit.int .i64 (m.params.length : Int)).wf = true
    go_wf
end Go.Proofs.YtdohpppkdecbdaaGreatDoor.ImplMeth

namespace Go.Proofs.YtdohpppkdecbdaaGreatDoor.ImplMeth
open Go.RowKit Go.Sort
open Strs Tree Soft TreeTo Go.Proofs.YtdohpppkdecbdaaGreatDoor.Data Errs
open ImplTok (Part)
theorem err_regrown {w : World} {a : Addr} (h : Err w a) (d : Nat) (os : Array Obj) : (grow (redrawn w d) os).cell? ⟨0, 0, none⟩ = some (.iface 140 (.pointer (some a))) := cell_regrown h.2 d os
theorem params_few {m : M} (hw : m.sel.size + Tree.weight (bodyE m) ≤ 1048576) : m.params.length + m.temps.length ≤ 1048576 := by
  have h1 := bodyE_weight m
  rw [List.length_append] at h1
  omega
theorem block_is {w : World} {m : M} {vn v4 : Value} (hn : NodeAt 0 w (bodyE m) vn v4) (hs : SoftKids 0 w m.body v4) (hw : m.sel.size + Tree.weight (bodyE m) ≤ 1048576) :
    Calls Tryz.prog 55 #[.agg #[.int .i64 8, .string ⟨#[]⟩, .int .i64 (m.params.length : Int), vn, v4]] w fun r w' => r = .returned (.bool (isExpr (bodyE m))) ∧ Below w.heap.size w w' :=
  ImplRight.is_expr (lo := 0) (e := bodyE m) ⟨vn, v4, rfl, hn⟩ ⟨_, _, _, _, _, rfl, Soft.soft_iff.2 hs⟩ (by omega)
set_option maxRecDepth 10000 in
set_option maxHeartbeats 8000000 in
theorem check_any {w : World} {m : M} {v2 v3 v4 : Value} {b o : Nat} {a : Addr} (h : MSt w m v2 v3 v4) (c : MCell w b o m v2 v3 v4) (hw : m.sel.size + Tree.weight (bodyE m) ≤ 1048576) (he : Err w a) :
    Calls Tryz.prog 54 #[.pointer (some ⟨b, o, none⟩)] w fun r w' => r = .returned (errV (methodOk m) a) ∧ Below w.heap.size w w' := by
  have hf := params_few hw
  have hs : m.sel.size ≤ 1048576 := by omega
  obtain ⟨c0, c1, c2, c3, c4⟩ := c
  obtain ⟨pa, pc, hp2, -⟩ := id h.at_.params
  obtain ⟨ta, tc, ht2, -⟩ := id h.at_.temps
  obtain ⟨ka, kc, hk2, -⟩ := id h.at_.body
  have KC := fun d os => Lib.hid (Calls.regrown_of (w := w) (d := d) (os := os) (ImplCount.count_any m.sel _ hs))
  have KC2 := fun w' => Lib.hid (ImplCount.count_any m.sel w' hs)
  have k0 := cell_regrown c0
  have k2 := cell_regrown c2
  have HB := fun w' (hb : Below w.heap.size w w') => Lib.hid (block_any (h.below hb) (MCell.step ⟨c0, c1, c2, c3, c4⟩ hb) (by omega))
  have HE := fun w' vn (hn : NodeAt 0 w' (bodyE m) vn v4) (hsf : SoftKids 0 w' m.body v4) => Lib.hid (block_is hn hsf hw)
  have HV := Lib.hid (methodOk_is m)
  have HER := Lib.hid he
  subst hp2 ht2 hk2
  clear h c1 c3 c4 hw hs he
  generalize methodOk m = R at *
  generalize isExpr (bodyE m) = X at *
  generalize Tok.countArgs m.sel = Cn at *
  generalize bodyE m = BE at *
  generalize hNP : m.params.length = NP at *
  by_cases hc : Cn = (NP : Int)
  case neg =>
    have hcb : (Cn != (NP : Int)) = true := by rw [bne_iff_ne]; exact hc
    have hR : R = false := by rw [HV.out, decide_eq_false hc]; rfl
    subst hR
    clear HV hc HB HE KC2 c0 c2
    go_enter Tryz.func54, Tryz.ntmps54
    go_wp2_with fail
    refine wp_region_quiet_below (by kernel_rfl) (by kernel_rfl) ?_
    repeat (go_big_quiet_step ((go_at_call 67; exact (KC _ _).out)))
    refine wpQuiet_nil ?_
    intro w2 hw2
    have hb2 := regrown_low hw2
    have g2 := (HER.out.keep hb2).2
    have HB2 := Lib.hid hb2
    clear hw2 hb2 k0 k2 KC HER
    go_wp2_with fail
    go_ret
    exact ⟨rfl, HB2.out⟩
  have hcb : (Cn != (NP : Int)) = false := by rw [hc]; simp
  have hR : R = X := by rw [HV.out, decide_eq_true hc, Bool.true_and]
  subst hR
  have d0 : w.drew.cell? ⟨b, o, none⟩ = some (.string m.sel) := c0
  have d2 : w.drew.cell? ⟨b, o + 2, none⟩ = some (.slice pa NP pc) := c2
  have HD : Hid (Below w.heap.size w w.drew) := Lib.hid (Below.refl _ _).drew
  clear HV hc KC k0 k2
  go_enter Tryz.func54, Tryz.ntmps54
  go_wp2_with fail
  go_region_held3 (fun w' => w'.cell? ⟨b, o, none⟩ = some (Value.string m.sel) ∧ w'.cell? ⟨b, o + 2, none⟩ = some (Value.slice pa NP pc))
    (first | with_reducible exact ⟨cell_keep hb3 (cell_keep hb2 (cell_keep hb1 d0)), cell_keep hb3 (cell_keep hb2 (cell_keep hb1 d2))⟩ | with_reducible exact ⟨cell_keep hb2 (cell_keep hb1 d0), cell_keep hb2 (cell_keep hb1 d2)⟩ | with_reducible exact ⟨cell_keep hb1 d0, cell_keep hb1 d2⟩ | with_reducible exact ⟨d0, d2⟩ | exact ⟨c0, c2⟩ | go_keep)
    (first
      | (go_at_call 67; refine (KC2 _).out.mono ?_; rintro e w1 ⟨rfl, hb1⟩)
      | (go_at_call 56; refine (HB _ (HD.out.trans (hb1.mono HD.out.size))).out.mono ?_; rintro e w2 ⟨vn, rfl, hn, hsf, hb2⟩)
      | (go_at_call 55; refine (HE _ _ hn hsf).out.mono ?_; rintro e w3 ⟨rfl, hb3⟩))
  all_goals
    have g1 := HD.out.trans (hb1.mono HD.out.size)
    have g2 := g1.trans (hb2.mono g1.size)
    have g3 := g2.trans (hb3.mono g2.size)
    have HB3 := Lib.hid g3
    have e2 := (HER.out.keep g3).2
    clear g1 g2 g3 hb1 hb2 hb3 hn hsf d0 d2 c0 c2 KC2 HB HE HER HD
    cases R with
    | true =>
      go_wp2_with fail
      go_ret
      exact ⟨rfl, HB3.out⟩
    | false =>
      go_wp2_with fail
      go_ret
      exact ⟨rfl, HB3.out⟩
end Go.Proofs.YtdohpppkdecbdaaGreatDoor.ImplMeth

namespace Go.Proofs.YtdohpppkdecbdaaGreatDoor.ImplMeth
open Go.RowKit Go.Sort
open Strs Tree Soft TreeTo Go.Proofs.YtdohpppkdecbdaaGreatDoor.Data Errs
open ImplTok (Part)
def mainOk (m : M) : Bool := decide (m.sel = mainText) && !m.cls && decide (m.params.length = 0) && isExpr (bodyE m)
set_option maxRecDepth 10000 in
set_option maxHeartbeats 8000000 in
theorem main_check {w : World} {m : M} {v2 v3 v4 : Value} {b o : Nat} {a : Addr} (h : MSt w m v2 v3 v4) (c : MCell w b o m v2 v3 v4) (hw : m.sel.size + Tree.weight (bodyE m) ≤ 1048576) (he : Err w a) :
    Calls Tryz.prog 38 #[.pointer (some ⟨b, o, none⟩)] w fun r w' => r = .returned (errV (mainOk m) a) ∧ Below w.heap.size w w' := by
  have hf := params_few hw
  have HBK := Lib.hid (block_any h c (by omega))
  have HE := fun w' vn (hn : NodeAt 0 w' (bodyE m) vn v4) (hsf : SoftKids 0 w' m.body v4) => Lib.hid (block_is hn hsf hw)
  have HER := Lib.hid he
  have hg := he.2
  obtain ⟨c0, c1, c2, c3, c4⟩ := c
  obtain ⟨pa, pc, hp2, -⟩ := id h.at_.params
  obtain ⟨ka, kc, hk2, -⟩ := id h.at_.body
  have HV : Hid (mainOk m = (decide (m.sel = mainText) && !m.cls && decide (m.params.length = 0) && isExpr (bodyE m))) := Lib.hid rfl
  subst hp2 hk2
  clear h c3 c4 hw he
  generalize mainOk m = R at *
  by_cases hsel : m.sel = mainText
  case neg =>
    have hR : R = false := by rw [HV.out, decide_eq_false hsel]; rfl
    subst hR
    have hse : ¬ m.sel.toList = [109, 97, 105, 110] := fun e => hsel (by
      apply ByteArray.ext
      apply Array.ext'
      rw [← ByteArray.toList_eq, e]
      rfl)
    clear HV hsel HBK HE HER
    go_enter Tryz.func38, Tryz.ntmps38
    go_wp2_with fail
    go_ret
    exact ⟨rfl, Below.refl _ _⟩
  have hse : m.sel.toList = [109, 97, 105, 110] := by rw [hsel]; rw [ByteArray.toList_eq]; rfl
  rw [decide_eq_true hsel, Bool.true_and] at HV
  clear hsel
  generalize hcls : m.cls = mc at *
  cases mc with
  | true =>
    have hR : R = false := by rw [HV.out]; rfl
    subst hR
    clear HV HBK HE HER hcls
    go_enter Tryz.func38, Tryz.ntmps38
    go_wp2_with fail
    go_ret
    exact ⟨rfl, Below.refl _ _⟩
  | false =>
  rw [show (!false) = true from rfl, Bool.true_and] at HV
  generalize hNP : m.params.length = NP at *
  by_cases hnp : NP = 0
  case neg =>
    have hR : R = false := by rw [HV.out, decide_eq_false hnp]; rfl
    subst hR
    clear HV HBK HE HER hcls
    go_enter Tryz.func38, Tryz.ntmps38
    go_wp2_with fail
    go_ret
    exact ⟨rfl, Below.refl _ _⟩
  rw [decide_eq_true hnp, Bool.true_and] at HV
  subst hnp
  generalize isExpr (bodyE m) = X at *
  generalize bodyE m = BE at *
  have hR : R = X := HV.out
  subst hR
  clear HV hcls
  go_enter Tryz.func38, Tryz.ntmps38
  go_wp2_with fail
  refine HBK.out.mono ?_
  rintro e w1 ⟨vn, rfl, hn, hsf, hb1⟩
  have KE := HE _ _ hn hsf
  have HB1 := Lib.hid hb1
  clear hn hsf hb1 HBK HE
  go_wp2_with fail
  refine KE.out.mono ?_
  rintro e w2 ⟨rfl, hb2⟩
  have hb3 := HB1.out.trans (hb2.mono HB1.out.size)
  have HB3 := Lib.hid hb3
  have e2 := (HER.out.keep hb3).2
  clear hb2 hb3 KE HB1 HER hg c0 c1 c2
  cases R with
  | true =>
    go_wp2_with fail
    go_ret
    exact ⟨rfl, HB3.out⟩
  | false =>
    go_wp2_with fail
    go_ret
    exact ⟨rfl, HB3.out⟩
structure CSt (w : World) (c : C) (v2 : Value) (ma : Option Addr) (mc : Nat) : Prop where
  fields : Texts 0 w c.fields v2
  room : c.methods.length ≤ mc ∧ mc ≤ maxLen
  meths : ∀ k m, c.methods[k]? = some m → ∃ b o v2 v3 v4, ma = some ⟨b, o, none⟩ ∧ MCell w b (o + k * 5) m v2 v3 v4 ∧ MSt w m v2 v3 v4 ∧ m.sel.size + Tree.weight (bodyE m) ≤ 1048576
theorem CSt.below {w w' : World} {c : C} {v2 : Value} {ma : Option Addr} {mc : Nat} (h : CSt w c v2 ma mc) (hb : Below w.heap.size w w') : CSt w' c v2 ma mc :=
  ⟨h.fields.below hb, h.room, fun k m hk => by
    obtain ⟨b, o, v2, v3, v4, e, h1, h2, h3⟩ := h.meths k m hk
    exact ⟨b, o, v2, v3, v4, e, h1.step hb, h2.below hb, h3⟩⟩
structure CCell (w : World) (b o : Nat) (c : C) (v2 : Value) (ma : Option Addr) (mc : Nat) : Prop where
  c0 : w.cell? ⟨b, o, none⟩ = some (.string c.name)
  c1 : w.cell? ⟨b, o + 1, none⟩ = some (.string c.parent)
  c2 : w.cell? ⟨b, o + 2, none⟩ = some v2
  c3 : w.cell? ⟨b, o + 3, none⟩ = some (.slice ma c.methods.length mc)
theorem CCell.step {w w' : World} {b o : Nat} {c : C} {v2 : Value} {ma : Option Addr} {mc : Nat} (h : CCell w b o c v2 ma mc) (hb : Below w.heap.size w w') : CCell w' b o c v2 ma mc := ⟨cell_keep hb h.c0, cell_keep hb h.c1, cell_keep hb h.c2, cell_keep hb h.c3⟩
set_option maxRecDepth 10000 in
set_option maxHeartbeats 8000000 in
theorem class_check {w : World} {c : C} {v2 : Value} {ma : Option Addr} {mc b o : Nat} {a : Addr} (h : CSt w c v2 ma mc) (k : CCell w b o c v2 ma mc) (he : Err w a) :
    Calls Tryz.prog 37 #[.pointer (some ⟨b, o, none⟩)] w fun r w' => r = .returned (errV (classOk c) a) ∧ Below w.heap.size w w' := by
  have K1 := Lib.hid (ImplTok.is_name c.name w)
  have K2 := fun w' => Lib.hid (ImplTok.is_name c.parent w')
  have KF := fun w' (hb : Below w.heap.size w w') => Lib.hid (ImplVals.names_any (h.fields.below hb))
  have HV : Hid (classOk c = (Tok.isName c.name && Tok.isName c.parent && decide (c.fields.length ≤ 4) && decide (c.methods.length ≤ 12) && c.fields.all Tok.isName && c.methods.all methodOk)) := Lib.hid rfl
  have HK := Lib.hid k
  have HER := Lib.hid he
  have HM : Hid (∀ q m, c.methods[q]? = some m → ∃ b o, ma = some ⟨b, o, none⟩ ∧ ∀ w', Below w.heap.size w w' → Hid (Calls Tryz.prog 54 #[.pointer (some ⟨b, o + q * 5, none⟩)] w' fun r w'' => r = .returned (errV (methodOk m) a) ∧ Below w'.heap.size w' w'')) := Lib.hid fun q m hq => by
    obtain ⟨b', o', x2, x3, x4, e, h1, h2, h3⟩ := h.meths q m hq
    exact ⟨b', o', e, fun w' hb => Lib.hid (check_any (h2.below hb) (h1.step hb) h3 (he.keep hb))⟩
  have hroom := h.room
  unfold maxLen at hroom
  obtain ⟨fa, fc, hf2, hfm, -⟩ := id h.fields
  unfold maxLen at hfm
  subst hf2
  obtain ⟨c0, c1, c2, c3⟩ := k
  clear h he
  generalize classOk c = R at *
  generalize hb1 : Tok.isName c.name = b1 at *
  clear hb1
  go_enter Tryz.func37, Tryz.ntmps37
  go_wp2_with fail
  refine K1.out.mono ?_
  rintro e w1 ⟨rfl, hb1⟩
  have HB1 := Lib.hid hb1
  have g1 := (HER.out.keep hb1).2
  obtain ⟨c0, c1, c2, c3⟩ := HK.out.step hb1
  clear hb1 K1
  cases b1 with
  | false =>
    have hR : R = false := by rw [HV.out]; rfl
    subst hR
    clear HV HM KF
    go_wp2_with fail
    go_ret
    exact ⟨rfl, HB1.out⟩
  | true =>
  rw [Bool.true_and] at HV
  have KP := K2 w1
  generalize Tok.isName c.parent = b2 at *
  clear K2
  go_wp2_with fail
  refine KP.out.mono ?_
  rintro e w2 ⟨rfl, hb2⟩
  have hb2' := HB1.out.trans (hb2.mono HB1.out.size)
  have HB2 := Lib.hid hb2'
  have g2 := (HER.out.keep hb2').2
  obtain ⟨e0, e1, e2, e3⟩ := HK.out.step hb2'
  clear hb2 hb2' KP HB1 g1 c0 c1 c2 c3
  cases b2 with
  | false =>
    have hR : R = false := by rw [HV.out]; rfl
    subst hR
    clear HV HM KF
    go_wp2_with fail
    go_ret
    exact ⟨rfl, HB2.out⟩
  | true =>
  rw [Bool.true_and] at HV
  have KF2 := KF w2 HB2.out
  generalize hNF : c.fields.length = NF at *
  generalize hNM : c.methods.length = NM at *
  have HNM := Lib.hid hNM
  clear hNM hNF KF
  by_cases hf4 : (NF : Int) ≤ 4
  case neg =>
    have hR : R = false := by rw [HV.out, decide_eq_false (by omega)]; rfl
    subst hR
    clear HV HM KF2
    go_wp2_with fail
    go_ret
    exact ⟨rfl, HB2.out⟩
  rw [decide_eq_true (show NF ≤ 4 by omega), Bool.true_and] at HV
  generalize c.fields.all Tok.isName = b3 at *
  go_wp2_with fail
  refine KF2.out.mono ?_
  rintro e w3 ⟨rfl, hb3⟩
  have hb3' := HB2.out.trans (hb3.mono HB2.out.size)
  have HB3 := Lib.hid hb3'
  have g3 := (HER.out.keep hb3').2
  obtain ⟨d0, d1, d2, d3⟩ := HK.out.step hb3'
  rw [HNM.out] at d3
  clear hb3 hb3' KF2 HB2 g2 e0 e1 e2 e3
  cases b3 with
  | false =>
    have hR : R = false := by rw [HV.out]; simp
    subst hR
    clear HV HM
    go_wp2_with fail
    go_ret
    exact ⟨rfl, HB3.out⟩
  | true =>
  by_cases hm12 : (NM : Int) ≤ 12
  case neg =>
    have hR : R = false := by rw [HV.out, decide_eq_false (show ¬ NM ≤ 12 by omega)]; rfl
    subst hR
    clear HV HM
    go_wp2_with fail
    go_ret
    exact ⟨rfl, HB3.out⟩
  have HVA : Hid (R = c.methods.all methodOk) := Lib.hid (by rw [HV.out, decide_eq_true (show NM ≤ 12 by omega)]; simp)
  clear HV
  go_wp2_with fail
  go_loopw [48] (fun j wr => ∃ i : Nat, i ≤ NM ∧ j = .int .i64 i ∧ (c.methods.take i).all methodOk = true ∧ Below w.heap.size w wr) (fun j _ => NM - (intOf j).toNat)
  case atStart => exact ⟨0, Nat.zero_le _, rfl, rfl, HB3.out⟩
  case round =>
    clear HB3 g3 d0 d1 d2 d3
    obtain ⟨i, hi, rfl, hall, hbw⟩ := hrel
    have HALL := Lib.hid hall
    have HBW := Lib.hid hbw
    have g4 := (HER.out.keep hbw).2
    obtain ⟨d0, d1, d2, d3⟩ := HK.out.step hbw
    rw [HNM.out] at d3
    clear hall hbw d0 d1 d2
    by_cases hlt : i < NM
    case neg =>
      have hiN : i = NM := by omega
      have hR : R = true := by
        rw [HVA.out]
        have := HALL.out
        rw [hiN, ← HNM.out, List.take_length] at this
        exact this
      subst hR
      clear hiN HVA
      go_wp2_with fail
      go_ret
      exact ⟨rfl, HBW.out⟩
    have hil : i < c.methods.length := by rw [HNM.out]; exact hlt
    obtain ⟨b', o', hma, hmk⟩ := HM.out i _ (List.getElem?_eq_getElem hil)
    subst hma
    have KM := hmk wr HBW.out
    have HRF : Hid (methodOk c.methods[i] = false → R = false) := Lib.hid fun h => by rw [HVA.out]; exact all_no _ _ _ hil h
    have HRT : Hid (methodOk c.methods[i] = true → (c.methods.take (i + 1)).all methodOk = true) := Lib.hid fun h => all_take _ _ _ hil HALL.out h
    clear hmk HALL HM
    generalize methodOk c.methods[i] = b5 at *
    cases b5 with
    | false =>
      have hR : R = false := HRF.out rfl
      subst hR
      clear HRF HRT HVA
      go_wp2_with fail
      refine KM.out.mono ?_
      rintro e w6 ⟨rfl, hb6⟩
      have HB6 := Lib.hid (HBW.out.trans (hb6.mono HBW.out.size))
      clear hb6 KM
      unfold errV
      go_wp2_with fail
      go_ret
      exact ⟨rfl, HB6.out⟩
    | true =>
      go_wp2_with fail
      refine KM.out.mono ?_
      rintro e w6 ⟨rfl, hb6⟩
      have HB6 := Lib.hid (HBW.out.trans (hb6.mono HBW.out.size))
      clear hb6 KM
      unfold errV
      go_wp2_with fail
      go_roundw
      case rel => exact ⟨i + 1, by omega, by go_num, HRT.out trivial, HB6.out⟩
      case measure => simp [intOf]; omega
end Go.Proofs.YtdohpppkdecbdaaGreatDoor.ImplMeth
