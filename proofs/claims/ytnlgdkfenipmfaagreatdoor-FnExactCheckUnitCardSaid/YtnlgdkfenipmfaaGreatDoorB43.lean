/-
  ImplMeth ImplCheck ImplUnit ImplUnitW
-/
import Derived.Test.YtnlgdkfenipmfaaGreatDoorB50
import Derived.Test.YtnlgdkfenipmfaaGreatDoorB42
import Derived.Test.YtnlgdkfenipmfaaGreatDoorB19
import Derived.Test.YtnlgdkfenipmfaaGreatDoorB32
namespace Go.Proofs.YtnlgdkfenipmfaaGreatDoor
namespace ImplMeth
open Go.RowKit Go.Sort
open Strs Tree Soft TreeTo Go.Proofs.YtnlgdkfenipmfaaGreatDoor.Data Errs
open ImplTok (Part)
structure MSt (w : World) (m : M) (v2 v3 v4 : Value) : Prop where
  at_ : MAt 0 w m v2 v3 v4
  soft : SoftKids 0 w m.body v4
theorem MSt.below {w w' : World} {m : M} {v2 v3 v4 : Value} (h : MSt w m v2 v3 v4) (hb : Below w.heap.size w w') : MSt w' m v2 v3 v4 := ⟨h.at_.below hb, h.soft.keep (zL _) (keptF_below hb)⟩
structure MCell (w : World) (b o : Nat) (m : M) (v2 v3 v4 : Value) : Prop where
  c0 : w.cell? ⟨b, o, none⟩ = some (.string m.sel)
  c1 : w.cell? ⟨b, o + 1, none⟩ = some (.bool m.cls)
  c2 : w.cell? ⟨b, o + 2, none⟩ = some v2
  c3 : w.cell? ⟨b, o + 3, none⟩ = some v3
  c4 : w.cell? ⟨b, o + 4, none⟩ = some v4
theorem MCell.step {w w' : World} {b o : Nat} {m : M} {v2 v3 v4 : Value} (h : MCell w b o m v2 v3 v4) (hb : Below w.heap.size w w') : MCell w' b o m v2 v3 v4 := ⟨cell_keep hb h.c0, cell_keep hb h.c1, cell_keep hb h.c2, cell_keep hb h.c3, cell_keep hb h.c4⟩
theorem keep5 {w : World} {g b o : Nat} {v : Value} (h : w.cell? ⟨b, o, none⟩ = some v) (hg : b ≠ g) (a0 a1 a2 a3 a4 : Value) : (((((w.setCell ⟨g, 0, none⟩ a0).setCell ⟨g, 1, none⟩ a1).setCell ⟨g, 2, none⟩ a2).setCell ⟨g, 3, none⟩ a3).setCell ⟨g, 4, none⟩ a4).cell? ⟨b, o, none⟩ = some v :=
  have go : ∀ (u : World) (q : Nat) (x : Value), u.cell? ⟨b, o, none⟩ = some v -> (u.setCell ⟨g, q, none⟩ x).cell? ⟨b, o, none⟩ = some v := fun u q x hu => (World.cell?_setCell_other _ _ _ _ (by intro e; injection e with e1; exact hg e1.symm)).trans hu
  go _ _ _ (go _ _ _ (go _ _ _ (go _ _ _ (go _ _ _ h))))
set_option maxRecDepth 10000 in
set_option maxHeartbeats 8000000 in
theorem block_any {w : World} {m : M} {v2 v3 v4 : Value} {b o : Nat} (h : MSt w m v2 v3 v4) (c : MCell w b o m v2 v3 v4) (hl : m.params.length + m.temps.length <= 4398046511104) :
    Calls Tryz.prog 49 #[.pointer (some ⟨b, o, none⟩)] w fun r w' => ∃ vn, r = .returned (.agg #[.int .i64 8, .string ⟨#[]⟩, .int .i64 (m.params.length : Int), vn, v4]) /\ NodeAt 0 w' (bodyE m) vn v4 /\ SoftKids 0 w' m.body v4 /\ Below w.heap.size w w' := by
  have hb0 : Below w.heap.size w (w.alloc (.cells #[.int .i64 0, .string ⟨#[]⟩, .int .i64 0, .slice none 0 0, .slice none 0 0] 76)) := (zB _ _).alloc (zL _) _
  have hz : Cells w.heap.size zeroE (w.alloc (.cells #[.int .i64 0, .string ⟨#[]⟩, .int .i64 0, .slice none 0 0, .slice none 0 0] 76)) := zab w zeroE _
  have hfz : ∀ o, (w.alloc (.cells #[.int .i64 0, .string ⟨#[]⟩, .int .i64 0, .slice none 0 0, .slice none 0 0] 76)).frozen? ⟨w.heap.size, o, none⟩ = false := fun o => by go_simp
  obtain ⟨c0, c1, c2, c3, c4⟩ := c.step hb0
  have hm0 := h.below hb0
  obtain ⟨pa, pc, hp2, -⟩ := id h.at_.params
  obtain ⟨ta, tc, ht2, -⟩ := id h.at_.temps
  obtain ⟨ka, kc, hk2, -⟩ := id h.at_.body
  subst hp2 ht2 hk2
  obtain ⟨W1, hW1⟩ : ∃ W1, W1 = ((w.alloc (.cells #[.int .i64 0, .string ⟨#[]⟩, .int .i64 0, .slice none 0 0, .slice none 0 0] 76)).alloc (.cells #[.slice pa m.params.length pc, .slice ta m.temps.length tc] 25)).drew := ⟨_, rfl⟩
  have hs0 : (w.alloc (.cells #[.int .i64 0, .string ⟨#[]⟩, .int .i64 0, .slice none 0 0, .slice none 0 0] 76)).heap.size = w.heap.size + 1 := by simp
  have hb1 : Below (w.alloc (.cells #[.int .i64 0, .string ⟨#[]⟩, .int .i64 0, .slice none 0 0, .slice none 0 0] 76)).heap.size (w.alloc (.cells #[.int .i64 0, .string ⟨#[]⟩, .int .i64 0, .slice none 0 0, .slice none 0 0] 76)) W1 := by rw [hW1]; exact ((zB _ _).alloc (zL _) _).drew
  have g0 : W1.cell? ⟨w.heap.size + 1, 0, none⟩ = some (.slice pa m.params.length pc) := by rw [hW1, <- hs0]; go_simp
  have g1 : W1.cell? ⟨w.heap.size + 1, 1, none⟩ = some (.slice ta m.temps.length tc) := by rw [hW1, <- hs0]; go_simp
  have hm1 := hm0.below hb1
  have KC := zH (ImplConcat.concat_any (c := 2) hm1.at_.params hm1.at_.fparams hm1.at_.temps hm1.at_.ftemps g0 g1 hl)
  have HM1 := zH hm1
  have HB1 := zH (hb0.trans (hb1.mono hb0.size))
  have HZ1 := zH (hz.step hb1)
  have HF1 := zH (fun o => (hb1.frozen (p := ⟨w.heap.size, o, none⟩) hz.1).trans (hfz o))
  have d2 := cell_keep hb1 c2
  have d3 := cell_keep hb1 c3
  have d4 := cell_keep hb1 c4
  have HD2 := zH d2
  have HD3 := zH d3
  have HD4 := zH d4
  have hbl : b < (w.alloc (.cells #[.int .i64 0, .string ⟨#[]⟩, .int .i64 0, .slice none 0 0, .slice none 0 0] 76)).heap.size := cell_lt c2
  have HNE : Hid (b ≠ w.heap.size) := zH (by have := cell_lt c.c2; have e : b < w.heap.size := this; omega)
  have k2 : ∀ X, ((w.alloc (.cells #[.int .i64 0, .string ⟨#[]⟩, .int .i64 0, .slice none 0 0, .slice none 0 0] 76)).alloc X).cell? ⟨b, o + 2, none⟩ = some (.slice pa m.params.length pc) := fun X => cell_keep ((zB _ _).alloc (zL _) X) c2
  have k3 : ∀ X, ((w.alloc (.cells #[.int .i64 0, .string ⟨#[]⟩, .int .i64 0, .slice none 0 0, .slice none 0 0] 76)).alloc X).cell? ⟨b, o + 3, none⟩ = some (.slice ta m.temps.length tc) := fun X => cell_keep ((zB _ _).alloc (zL _) X) c3
  have k4 : ∀ X, ((w.alloc (.cells #[.int .i64 0, .string ⟨#[]⟩, .int .i64 0, .slice none 0 0, .slice none 0 0] 76)).alloc X).cell? ⟨b, o + 4, none⟩ = some (.slice ka m.body.length kc) := fun X => cell_keep ((zB _ _).alloc (zL _) X) c4
  have hpm : (m.params.length : Int) <= 4398046511104 := by omega
  rw [hW1] at KC
  have HW1 := zH hW1
  have HS1 : Hid (w.heap.size < W1.heap.size) := zH (by have := hb1.size; omega)
  have HMS := zH h
  clear h c hb0 hz hfz hm0 hm1 hb1 g0 g1 d2 d3 d4 hW1
  go_enter Tryz.func49, Tryz.ntmps49
  go_wp2_with fail
  go_region_held3 (fun w' => w'.cell? ⟨b, o + 2, none⟩ = some (Value.slice pa m.params.length pc) /\ w'.cell? ⟨b, o + 3, none⟩ = some (Value.slice ta m.temps.length tc) /\ w'.cell? ⟨b, o + 4, none⟩ = some (Value.slice ka m.body.length kc))
    (first | with_reducible exact HE.out | with_reducible exact ⟨keep5 HE.out.1 HNE.out _ _ _ _ _, keep5 HE.out.2.1 HNE.out _ _ _ _ _, keep5 HE.out.2.2 HNE.out _ _ _ _ _⟩ | with_reducible exact ⟨k2 _, k3 _, k4 _⟩ | exact ⟨k2 _, k3 _, k4 _⟩ | exact ⟨c2, c3, c4⟩ | go_keep)
    (first
      | (go_at_call 100
         refine KC.out.mono ?_
         rw [<- HW1.out]
         rintro e w3 ⟨ra, rc, rfl, ht, hb3⟩
         have hz3 := HZ1.out.step hb3
         have fz : ∀ o, w3.frozen? ⟨w.heap.size, o, none⟩ = false := fun o => (hb3.frozen (p := ⟨w.heap.size, o, none⟩) HZ1.out.1).trans (HF1.out o)
         have z0 := hz3.at 0 (.int 0) rfl
         have z1 := hz3.at 1 (.str ⟨#[]⟩) rfl
         have z2 := hz3.at 2 (.int 0) rfl
         have z3 := hz3.at 3 (.row 0 1 (.slice none 0 0) []) rfl
         have z4 := hz3.at 4 (.row 0 5 (.slice none 0 0) []) rfl
         simp only [val] at z0 z1 z2 z3 z4
         have HE := zH (And.intro (cell_keep hb3 HD2.out) (And.intro (cell_keep hb3 HD3.out) (cell_keep hb3 HD4.out)))
         clear c0 c1 c2 c3 c4 k2 k3 k4 hs0 hbl))
  all_goals
    have HT3 := zH ht
    have HB3 := zH (HB1.out.trans (hb3.mono HB1.out.size))
    clear ht hb3 hz3 KC HM1 HB1 HZ1 HF1 HD2 HD3 HD4 HE HW1
    go_wp2_with fail
    have hbf := puts_below (zL w.heap.size) [.int .i64 8, .string ⟨#[]⟩, .int .i64 m.params.length, .slice ra (m.params.length + m.temps.length) rc, .slice ka m.body.length kc] w w3 0 HB3.out
    have hkp : Tree.Kept W1.heap.size w3 (puts w3 w.heap.size 0 [.int .i64 8, .string ⟨#[]⟩, .int .i64 m.params.length, .slice ra (m.params.length + m.temps.length) rc, .slice ka m.body.length kc]) := by
      have l2 : w.heap.size < W1.heap.size := HS1.out
      exact ((((Tree.kept_set _ _ _ l2).trans (Tree.kept_set _ _ _ l2)).trans (Tree.kept_set _ _ _ l2)).trans (Tree.kept_set _ _ _ l2)).trans (Tree.kept_set _ _ _ l2)
    have hmf := HMS.out.below hbf
    refine bodyPost_ret (v := .agg #[.int .i64 8, .string ⟨#[]⟩, .int .i64 m.params.length, .slice ra (m.params.length + m.temps.length) rc, .slice ka m.body.length kc]) (by simp [results, Tryz.results49, go_sem, *]) rfl ⟨_, rfl, zat.2 ⟨by rfl, ?_, Nat.zero_le _, HT3.out.keep (Nat.zero_le _) hkp, hmf.at_.body⟩, hmf.soft, hbf⟩
    show (Lit.int .i64 (m.params.length : Int)).wf = true
    go_wf
end ImplMeth
namespace ImplMeth
open Go.RowKit Go.Sort
open Strs Tree Soft TreeTo Go.Proofs.YtnlgdkfenipmfaaGreatDoor.Data Errs
open ImplTok (Part)
theorem err_regrown {w : World} {a : Addr} (h : Err w a) (d : Nat) (os : Array Obj) : (grow (redrawn w d) os).cell? ⟨0, 0, none⟩ = some (.iface 301 (.pointer (some a))) := cell_regrown h.2 d os
theorem params_few {m : M} (hw : m.sel.size + Tree.weight (bodyE m) <= 1048576) : m.params.length + m.temps.length <= 1048576 := by
  have h1 := bodyE_weight m
  rw [List.length_append] at h1
  omega
theorem block_is {w : World} {m : M} {vn v4 : Value} (hn : NodeAt 0 w (bodyE m) vn v4) (hs : SoftKids 0 w m.body v4) (hw : m.sel.size + Tree.weight (bodyE m) <= 1048576) :
    Calls Tryz.prog 127 #[.agg #[.int .i64 8, .string ⟨#[]⟩, .int .i64 (m.params.length : Int), vn, v4]] w fun r w' => r = .returned (.bool (isExpr (bodyE m))) /\ Below w.heap.size w w' :=
  ImplRight.is_expr (lo := 0) (e := bodyE m) ⟨vn, v4, rfl, hn⟩ ⟨_, _, _, _, _, rfl, Soft.soft_iff.2 hs⟩ (by omega)
set_option maxRecDepth 10000 in
set_option maxHeartbeats 8000000 in
theorem check_any {w : World} {m : M} {v2 v3 v4 : Value} {b o : Nat} {a : Addr} (h : MSt w m v2 v3 v4) (c : MCell w b o m v2 v3 v4) (hw : m.sel.size + Tree.weight (bodyE m) <= 1048576) (he : Err w a) :
    Calls Tryz.prog 92 #[.pointer (some ⟨b, o, none⟩)] w fun r w' => r = .returned (errV (methodOk m) a) /\ Below w.heap.size w w' := by
  have hf := params_few hw
  have hs : m.sel.size <= 1048576 := by omega
  obtain ⟨c0, c1, c2, c3, c4⟩ := c
  obtain ⟨pa, pc, hp2, -⟩ := id h.at_.params
  obtain ⟨ta, tc, ht2, -⟩ := id h.at_.temps
  obtain ⟨ka, kc, hk2, -⟩ := id h.at_.body
  have KC := fun d os => zH (Calls.regrown_of (w := w) (d := d) (os := os) (ImplCount.count_any m.sel _ hs))
  have KC2 := fun w' => zH (ImplCount.count_any m.sel w' hs)
  have k0 := cell_regrown c0
  have k2 := cell_regrown c2
  have HB := fun w' (hb : Below w.heap.size w w') => zH (block_any (h.below hb) (MCell.step ⟨c0, c1, c2, c3, c4⟩ hb) (by omega))
  have HE := fun w' vn (hn : NodeAt 0 w' (bodyE m) vn v4) (hsf : SoftKids 0 w' m.body v4) => zH (block_is hn hsf hw)
  have HV := zH (methodOk_is m)
  have HER := zH he
  subst hp2 ht2 hk2
  clear h c1 c3 c4 hw hs he
  generalize methodOk m = R at *
  generalize isExpr (bodyE m) = X at *
  generalize Tok.countArgs m.sel = Cn at *
  generalize bodyE m = BE at *
  generalize hNP : m.params.length = NP at *
  by_cases hc : Cn = (NP : Int)
  case neg =>
    have hcb : (Cn != (NP : Int)) = true := by rw [bne_iff_ne]; exact hc
    have hR : R = false := by rw [HV.out, decide_eq_false hc]; rfl
    subst hR
    clear HV hc HB HE KC2 c0 c2
    go_enter Tryz.func92, Tryz.ntmps92
    go_wp2_with fail
    refine wp_region_quiet_below (by kernel_rfl) (by kernel_rfl) ?_
    repeat (go_big_quiet_step ((go_at_call 139; exact (KC _ _).out)))
    refine wpQuiet_nil ?_
    intro w2 hw2
    have hb2 := regrown_low hw2
    have g2 := (HER.out.keep hb2).2
    have HB2 := zH hb2
    clear hw2 hb2 k0 k2 KC HER
    go_wp2_with fail
    go_ret
    exact ⟨rfl, HB2.out⟩
  have hcb : (Cn != (NP : Int)) = false := by rw [hc]; simp
  have hR : R = X := by rw [HV.out, decide_eq_true hc, Bool.true_and]
  subst hR
  have d0 : w.drew.cell? ⟨b, o, none⟩ = some (.string m.sel) := c0
  have d2 : w.drew.cell? ⟨b, o + 2, none⟩ = some (.slice pa NP pc) := c2
  have HD : Hid (Below w.heap.size w w.drew) := zH (zB _ _).drew
  clear HV hc KC k0 k2
  go_enter Tryz.func92, Tryz.ntmps92
  go_wp2_with fail
  go_region_held3 (fun w' => w'.cell? ⟨b, o, none⟩ = some (Value.string m.sel) /\ w'.cell? ⟨b, o + 2, none⟩ = some (Value.slice pa NP pc))
    (first | with_reducible exact ⟨cell_keep hb3 (cell_keep hb2 (cell_keep hb1 d0)), cell_keep hb3 (cell_keep hb2 (cell_keep hb1 d2))⟩ | with_reducible exact ⟨cell_keep hb2 (cell_keep hb1 d0), cell_keep hb2 (cell_keep hb1 d2)⟩ | with_reducible exact ⟨cell_keep hb1 d0, cell_keep hb1 d2⟩ | with_reducible exact ⟨d0, d2⟩ | exact ⟨c0, c2⟩ | go_keep)
    (first
      | (go_at_call 139; refine (KC2 _).out.mono ?_; rintro e w1 ⟨rfl, hb1⟩)
      | (go_at_call 49; refine (HB _ (HD.out.trans (hb1.mono HD.out.size))).out.mono ?_; rintro e w2 ⟨vn, rfl, hn, hsf, hb2⟩)
      | (go_at_call 127; refine (HE _ _ hn hsf).out.mono ?_; rintro e w3 ⟨rfl, hb3⟩))
  all_goals
    have g1 := HD.out.trans (hb1.mono HD.out.size)
    have g2 := g1.trans (hb2.mono g1.size)
    have g3 := g2.trans (hb3.mono g2.size)
    have HB3 := zH g3
    have e2 := (HER.out.keep g3).2
    clear g1 g2 g3 hb1 hb2 hb3 hn hsf d0 d2 c0 c2 KC2 HB HE HER HD
    cases R with
    | true =>
      go_wp2_with fail
      go_ret
      exact ⟨rfl, HB3.out⟩
    | false =>
      go_wp2_with fail
      go_ret
      exact ⟨rfl, HB3.out⟩
end ImplMeth
namespace ImplMeth
open Go.RowKit Go.Sort
open Strs Tree Soft TreeTo Go.Proofs.YtnlgdkfenipmfaaGreatDoor.Data Errs
open ImplTok (Part)
def mainOk (m : M) : Bool := decide (m.sel = mainText) && !m.cls && decide (m.params.length = 0) && isExpr (bodyE m)
set_option maxRecDepth 10000 in
set_option maxHeartbeats 8000000 in
theorem main_check {w : World} {m : M} {v2 v3 v4 : Value} {b o : Nat} {a : Addr} (h : MSt w m v2 v3 v4) (c : MCell w b o m v2 v3 v4) (hw : m.sel.size + Tree.weight (bodyE m) <= 1048576) (he : Err w a) :
    Calls Tryz.prog 70 #[.pointer (some ⟨b, o, none⟩)] w fun r w' => r = .returned (errV (mainOk m) a) /\ Below w.heap.size w w' := by
  have hf := params_few hw
  have HBK := zH (block_any h c (by omega))
  have HE := fun w' vn (hn : NodeAt 0 w' (bodyE m) vn v4) (hsf : SoftKids 0 w' m.body v4) => zH (block_is hn hsf hw)
  have HER := zH he
  have hg := he.2
  obtain ⟨c0, c1, c2, c3, c4⟩ := c
  obtain ⟨pa, pc, hp2, -⟩ := id h.at_.params
  obtain ⟨ka, kc, hk2, -⟩ := id h.at_.body
  have HV : Hid (mainOk m = (decide (m.sel = mainText) && !m.cls && decide (m.params.length = 0) && isExpr (bodyE m))) := zH rfl
  subst hp2 hk2
  clear h c3 c4 hw he
  generalize mainOk m = R at *
  by_cases hsel : m.sel = mainText
  case neg =>
    have hR : R = false := by rw [HV.out, decide_eq_false hsel]; rfl
    subst hR
    have hse : ¬ m.sel.toList = [109, 97, 105, 110] := fun e => hsel (by
      apply ByteArray.ext
      apply Array.ext'
      rw [<- ByteArray.toList_eq, e]
      rfl)
    clear HV hsel HBK HE HER
    go_enter Tryz.func70, Tryz.ntmps70
    go_wp2_with fail
    go_ret
    exact ⟨rfl, zB _ _⟩
  have hse : m.sel.toList = [109, 97, 105, 110] := by rw [hsel]; rw [ByteArray.toList_eq]; rfl
  rw [decide_eq_true hsel, Bool.true_and] at HV
  clear hsel
  generalize hcls : m.cls = mc at *
  cases mc with
  | true =>
    have hR : R = false := by rw [HV.out]; rfl
    subst hR
    clear HV HBK HE HER hcls
    go_enter Tryz.func70, Tryz.ntmps70
    go_wp2_with fail
    go_ret
    exact ⟨rfl, zB _ _⟩
  | false =>
  rw [show (!false) = true from rfl, Bool.true_and] at HV
  generalize hNP : m.params.length = NP at *
  by_cases hnp : NP = 0
  case neg =>
    have hR : R = false := by rw [HV.out, decide_eq_false hnp]; rfl
    subst hR
    clear HV HBK HE HER hcls
    go_enter Tryz.func70, Tryz.ntmps70
    go_wp2_with fail
    go_ret
    exact ⟨rfl, zB _ _⟩
  rw [decide_eq_true hnp, Bool.true_and] at HV
  subst hnp
  generalize isExpr (bodyE m) = X at *
  generalize bodyE m = BE at *
  have hR : R = X := HV.out
  subst hR
  clear HV hcls
  go_enter Tryz.func70, Tryz.ntmps70
  go_wp2_with fail
  refine HBK.out.mono ?_
  rintro e w1 ⟨vn, rfl, hn, hsf, hb1⟩
  have KE := HE _ _ hn hsf
  have HB1 := zH hb1
  clear hn hsf hb1 HBK HE
  go_wp2_with fail
  refine KE.out.mono ?_
  rintro e w2 ⟨rfl, hb2⟩
  have hb3 := HB1.out.trans (hb2.mono HB1.out.size)
  have HB3 := zH hb3
  have e2 := (HER.out.keep hb3).2
  clear hb2 hb3 KE HB1 HER hg c0 c1 c2
  cases R with
  | true =>
    go_wp2_with fail
    go_ret
    exact ⟨rfl, HB3.out⟩
  | false =>
    go_wp2_with fail
    go_ret
    exact ⟨rfl, HB3.out⟩
structure CSt (w : World) (c : C) (v2 : Value) (ma : Option Addr) (mc : Nat) : Prop where
  fields : Texts 0 w c.fields v2
  room : c.methods.length <= mc /\ mc <= maxLen
  meths : ∀ k m, c.methods[k]? = some m -> ∃ b o v2 v3 v4, ma = some ⟨b, o, none⟩ /\ MCell w b (o + k * 5) m v2 v3 v4 /\ MSt w m v2 v3 v4 /\ m.sel.size + Tree.weight (bodyE m) <= 1048576
theorem CSt.below {w w' : World} {c : C} {v2 : Value} {ma : Option Addr} {mc : Nat} (h : CSt w c v2 ma mc) (hb : Below w.heap.size w w') : CSt w' c v2 ma mc :=
  ⟨h.fields.below hb, h.room, fun k m hk => by
    obtain ⟨b, o, v2, v3, v4, e, h1, h2, h3⟩ := h.meths k m hk
    exact ⟨b, o, v2, v3, v4, e, h1.step hb, h2.below hb, h3⟩⟩
structure CCell (w : World) (b o : Nat) (c : C) (v2 : Value) (ma : Option Addr) (mc : Nat) : Prop where
  c0 : w.cell? ⟨b, o, none⟩ = some (.string c.name)
  c1 : w.cell? ⟨b, o + 1, none⟩ = some (.string c.parent)
  c2 : w.cell? ⟨b, o + 2, none⟩ = some v2
  c3 : w.cell? ⟨b, o + 3, none⟩ = some (.slice ma c.methods.length mc)
theorem CCell.step {w w' : World} {b o : Nat} {c : C} {v2 : Value} {ma : Option Addr} {mc : Nat} (h : CCell w b o c v2 ma mc) (hb : Below w.heap.size w w') : CCell w' b o c v2 ma mc := ⟨cell_keep hb h.c0, cell_keep hb h.c1, cell_keep hb h.c2, cell_keep hb h.c3⟩
set_option maxRecDepth 10000 in
set_option maxHeartbeats 8000000 in
theorem class_check {w : World} {c : C} {v2 : Value} {ma : Option Addr} {mc b o : Nat} {a : Addr} (h : CSt w c v2 ma mc) (k : CCell w b o c v2 ma mc) (he : Err w a) :
    Calls Tryz.prog 69 #[.pointer (some ⟨b, o, none⟩)] w fun r w' => r = .returned (errV (classOk c) a) /\ Below w.heap.size w w' := by
  have K1 := zH (ImplTok.is_name c.name w)
  have K2 := fun w' => zH (ImplTok.is_name c.parent w')
  have KF := fun w' (hb : Below w.heap.size w w') => zH (ImplVals.names_any (h.fields.below hb))
  have HV : Hid (classOk c = (Tok.isName c.name && Tok.isName c.parent && decide (c.fields.length <= 4) && decide (c.methods.length <= 12) && c.fields.all Tok.isName && c.methods.all methodOk)) := zH rfl
  have HK := zH k
  have HER := zH he
  have HM : Hid (∀ q m, c.methods[q]? = some m -> ∃ b o, ma = some ⟨b, o, none⟩ /\ ∀ w', Below w.heap.size w w' -> Hid (Calls Tryz.prog 92 #[.pointer (some ⟨b, o + q * 5, none⟩)] w' fun r w'' => r = .returned (errV (methodOk m) a) /\ Below w'.heap.size w' w'')) := zH fun q m hq => by
    obtain ⟨b', o', x2, x3, x4, e, h1, h2, h3⟩ := h.meths q m hq
    exact ⟨b', o', e, fun w' hb => zH (check_any (h2.below hb) (h1.step hb) h3 (he.keep hb))⟩
  have hroom := h.room
  unfold maxLen at hroom
  obtain ⟨fa, fc, hf2, hfm, -⟩ := id h.fields
  unfold maxLen at hfm
  subst hf2
  obtain ⟨c0, c1, c2, c3⟩ := k
  clear h he
  generalize classOk c = R at *
  generalize hb1 : Tok.isName c.name = b1 at *
  clear hb1
  go_enter Tryz.func69, Tryz.ntmps69
  go_wp2_with fail
  refine K1.out.mono ?_
  rintro e w1 ⟨rfl, hb1⟩
  have HB1 := zH hb1
  have g1 := (HER.out.keep hb1).2
  obtain ⟨c0, c1, c2, c3⟩ := HK.out.step hb1
  clear hb1 K1
  cases b1 with
  | false =>
    have hR : R = false := by rw [HV.out]; rfl
    subst hR
    clear HV HM KF
    go_wp2_with fail
    go_ret
    exact ⟨rfl, HB1.out⟩
  | true =>
  rw [Bool.true_and] at HV
  have KP := K2 w1
  generalize Tok.isName c.parent = b2 at *
  clear K2
  go_wp2_with fail
  refine KP.out.mono ?_
  rintro e w2 ⟨rfl, hb2⟩
  have hb2' := HB1.out.trans (hb2.mono HB1.out.size)
  have HB2 := zH hb2'
  have g2 := (HER.out.keep hb2').2
  obtain ⟨e0, e1, e2, e3⟩ := HK.out.step hb2'
  clear hb2 hb2' KP HB1 g1 c0 c1 c2 c3
  cases b2 with
  | false =>
    have hR : R = false := by rw [HV.out]; rfl
    subst hR
    clear HV HM KF
    go_wp2_with fail
    go_ret
    exact ⟨rfl, HB2.out⟩
  | true =>
  rw [Bool.true_and] at HV
  have KF2 := KF w2 HB2.out
  generalize hNF : c.fields.length = NF at *
  generalize hNM : c.methods.length = NM at *
  have HNM := zH hNM
  clear hNM hNF KF
  by_cases hf4 : (NF : Int) <= 4
  case neg =>
    have hR : R = false := by rw [HV.out, decide_eq_false (by omega)]; rfl
    subst hR
    clear HV HM KF2
    go_wp2_with fail
    go_ret
    exact ⟨rfl, HB2.out⟩
  rw [decide_eq_true (show NF <= 4 by omega), Bool.true_and] at HV
  generalize c.fields.all Tok.isName = b3 at *
  go_wp2_with fail
  refine KF2.out.mono ?_
  rintro e w3 ⟨rfl, hb3⟩
  have hb3' := HB2.out.trans (hb3.mono HB2.out.size)
  have HB3 := zH hb3'
  have g3 := (HER.out.keep hb3').2
  obtain ⟨d0, d1, d2, d3⟩ := HK.out.step hb3'
  rw [HNM.out] at d3
  clear hb3 hb3' KF2 HB2 g2 e0 e1 e2 e3
  cases b3 with
  | false =>
    have hR : R = false := by rw [HV.out]; simp
    subst hR
    clear HV HM
    go_wp2_with fail
    go_ret
    exact ⟨rfl, HB3.out⟩
  | true =>
  by_cases hm12 : (NM : Int) <= 12
  case neg =>
    have hR : R = false := by rw [HV.out, decide_eq_false (show ¬ NM <= 12 by omega)]; rfl
    subst hR
    clear HV HM
    go_wp2_with fail
    go_ret
    exact ⟨rfl, HB3.out⟩
  have HVA : Hid (R = c.methods.all methodOk) := zH (by rw [HV.out, decide_eq_true (show NM <= 12 by omega)]; simp)
  clear HV
  go_wp2_with fail
  go_loopw [48] (fun j wr => ∃ i : Nat, i <= NM /\ j = .int .i64 i /\ (c.methods.take i).all methodOk = true /\ Below w.heap.size w wr) (fun j _ => NM - (intOf j).toNat)
  case atStart => exact ⟨0, Nat.zero_le _, rfl, rfl, HB3.out⟩
  case round =>
    clear HB3 g3 d0 d1 d2 d3
    obtain ⟨i, hi, rfl, hall, hbw⟩ := hrel
    have HALL := zH hall
    have HBW := zH hbw
    have g4 := (HER.out.keep hbw).2
    obtain ⟨d0, d1, d2, d3⟩ := HK.out.step hbw
    rw [HNM.out] at d3
    clear hall hbw d0 d1 d2
    by_cases hlt : i < NM
    case neg =>
      have hiN : i = NM := by omega
      have hR : R = true := by
        rw [HVA.out]
        have := HALL.out
        rw [hiN, <- HNM.out, List.take_length] at this
        exact this
      subst hR
      clear hiN HVA
      go_wp2_with fail
      go_ret
      exact ⟨rfl, HBW.out⟩
    have hil : i < c.methods.length := by rw [HNM.out]; exact hlt
    obtain ⟨b', o', hma, hmk⟩ := HM.out i _ (List.getElem?_eq_getElem hil)
    subst hma
    have KM := hmk wr HBW.out
    have HRF : Hid (methodOk c.methods[i] = false -> R = false) := zH fun h => by rw [HVA.out]; exact all_no _ _ _ hil h
    have HRT : Hid (methodOk c.methods[i] = true -> (c.methods.take (i + 1)).all methodOk = true) := zH fun h => all_take _ _ _ hil HALL.out h
    clear hmk HALL HM
    generalize methodOk c.methods[i] = b5 at *
    cases b5 with
    | false =>
      have hR : R = false := HRF.out rfl
      subst hR
      clear HRF HRT HVA
      go_wp2_with fail
      refine KM.out.mono ?_
      rintro e w6 ⟨rfl, hb6⟩
      have HB6 := zH (HBW.out.trans (hb6.mono HBW.out.size))
      clear hb6 KM
      unfold errV
      go_wp2_with fail
      go_ret
      exact ⟨rfl, HB6.out⟩
    | true =>
      go_wp2_with fail
      refine KM.out.mono ?_
      rintro e w6 ⟨rfl, hb6⟩
      have HB6 := zH (HBW.out.trans (hb6.mono HBW.out.size))
      clear hb6 KM
      unfold errV
      go_wp2_with fail
      go_roundw
      case rel => exact ⟨i + 1, by omega, by go_num, HRT.out trivial, HB6.out⟩
      case measure => simp [intOf]; omega
end ImplMeth
namespace ImplMeth
open Go.RowKit Go.Sort
open Strs Tree Soft TreeTo Go.Proofs.YtnlgdkfenipmfaaGreatDoor.Data Errs
open ImplTok (Part)
theorem unitOk_is (u : U) : unitOk u = (decide (u.classes.length <= 8) && u.classes.all classOk && mainOk u.main) := by
  unfold unitOk mainOk
  cases decide (u.classes.length <= 8) <;> cases decide (u.main.sel = mainText) <;> cases u.main.cls <;> cases decide (u.main.params.length = 0) <;> cases isExpr (bodyE u.main) <;> cases u.classes.all classOk <;> rfl
theorem meth_own {w : World} {m : M} {ds : List D} (hd : erases ds = plainM m) (ho : Own 0 w ds) : ∃ v2 v3 v4, ds.map val = [.string m.sel, .bool m.cls, v2, v3, v4] /\ MSt w m v2 v3 v4 := by
  obtain ⟨v2, v3, v4, hag, hm⟩ := meth_at hd ho.holds ho.strict
  obtain ⟨t2, t3, t4, w2, w3, w4, d4, rfl, h4⟩ := meth_form hd
  have hsoft : SoftKids 0 w m.body w4 := softkids_of h4 (row_iff.1 (Own.right (a := [.str m.sel, .bool m.cls, .row t2 1 w2 (strs m.params), .row t3 1 w3 (strs m.temps)]) (b := [.row t4 5 w4 d4]) ho))
  have hvv : v2 = w2 /\ v3 = w3 /\ v4 = w4 := by
    have := congrArg Array.toList (Value.agg.inj hag)
    simp [vals, val] at this
    exact ⟨this.1.symm, this.2.1.symm, this.2.2.symm⟩
  obtain ⟨rfl, rfl, rfl⟩ := hvv
  exact ⟨v2, v3, v4, rfl, hm, hsoft⟩
theorem row_cells {w : World} {t k : Nat} {a : Option Addr} {n c : Nat} {ds A x B : List D} {i : Nat} (h : Row 0 w t k (.slice a n c) ds) (hd : ds = A ++ (x ++ B)) (hal : A.length = i * k) (hx : 0 < x.length) :
    ∃ b o, a = some ⟨b, o, none⟩ /\ ∀ j (hj : j < x.length), w.cell? ⟨b, o + i * k + j, none⟩ = some (val x[j]) := by
  have hh := (row_iff.2 h).holds
  simp only [Holdss, and_true] at hh
  rw [Go.Proofs.YtnlgdkfenipmfaaGreatDoor.Data.Holds] at hh
  obtain ⟨⟨a', n', c', e, hk, hl, hn, hc, hcell⟩, -⟩ := hh
  cases e
  have hpos : 0 < n := by
    rcases Nat.eq_zero_or_pos n with h0 | h0
    · rw [h0, Nat.zero_mul] at hl
      rw [hd] at hl
      simp at hl
      rw [hl.2.1] at hx
      simp at hx
    · exact h0
  obtain ⟨b, o, rfl, -, hcc⟩ := hcell hpos
  refine ⟨b, o, rfl, fun j hj => ?_⟩
  have hjl : i * k + j < ds.length := by rw [hd, List.length_append, List.length_append, hal]; omega
  rw [Nat.add_assoc, hcc _ hjl]
  congr 2
  subst hd
  rw [List.getElem_append_right (by omega), List.getElem_append_left (by omega)]
  congr 1
  omega
theorem own_mid {w : World} {A x B : List D} (h : Own 0 w (A ++ (x ++ B))) : Own 0 w x := h.right.left
theorem class_own {w : World} {c : C} {ds : List D} (hd : erases ds = plainC c) (ho : Own 0 w ds) (hw : Data.weights (plainC c) <= 1048576) : ∃ v2 ma mc, ds.map val = [.string c.name, .string c.parent, v2, .slice ma c.methods.length mc] /\ CSt w c v2 ma mc := by
  obtain ⟨t2, t3, f2, f3, dm, rfl, hm3⟩ := class_form hd
  rw [plainC_weight] at hw
  have hr3 : Row 0 w t3 5 f3 dm := row_iff.1 (Own.right (a := [.str c.name, .str c.parent, .row t2 1 f2 (strs c.fields)]) (b := [.row t3 5 f3 dm]) ho)
  have hhs := ho.holds
  simp only [Holdss, and_true] at hhs
  obtain ⟨g0, g1, g2, g3⟩ := hhs
  rw [Go.Proofs.YtnlgdkfenipmfaaGreatDoor.Data.Holds] at g3
  obtain ⟨⟨ma, mn, mc, rfl, -, hml, hmn, hmc, hmcell⟩, hmh⟩ := g3
  have hmlen := congrArg List.length hm3
  rw [zad, plainMs_len] at hmlen
  obtain rfl : mn = c.methods.length := by omega
  refine ⟨f2, ma, mc, rfl, zav g2, ⟨hmn, hmc⟩, fun k m hk => ?_⟩
  obtain ⟨h, rfl⟩ := List.getElem?_eq_some_iff.1 hk
  obtain ⟨A, x, B, hdx, hal, hx⟩ := meths_at c.methods dm hm3 k h
  have hxl : x.length = 5 := by
    have := congrArg List.length hx
    rw [zad, plainM_len] at this
    exact this
  obtain ⟨b, o, e, hc⟩ := row_cells hr3 hdx hal (by omega)
  have hxo : Own 0 w x := own_mid (hdx ▸ hr3.kids)
  obtain ⟨v2, v3, v4, hxv, hst⟩ := meth_own hx hxo
  have hval : ∀ j v (hj : j < x.length), [Value.string c.methods[k].sel, .bool c.methods[k].cls, v2, v3, v4][j]? = some v -> val x[j] = v := fun j v hj e => by
    rw [<- hxv] at e
    simpa [hj] using e
  have hwm := plainMs_weight c.methods k h
  rw [plainM_weight] at hwm
  refine ⟨b, o, v2, v3, v4, e, ⟨?_, ?_, ?_, ?_, ?_⟩, hst, by omega⟩
  · have := hc 0 (by omega); rw [hval 0 _ (by omega) rfl] at this; exact this
  · have := hc 1 (by omega); rw [hval 1 _ (by omega) rfl] at this; exact this
  · have := hc 2 (by omega); rw [hval 2 _ (by omega) rfl] at this; exact this
  · have := hc 3 (by omega); rw [hval 3 _ (by omega) rfl] at this; exact this
  · have := hc 4 (by omega); rw [hval 4 _ (by omega) rfl] at this; exact this
theorem unit_own {w : World} {u : U} {ds : List D} (hd : erases ds = plainU u) (ho : Own 0 w ds) (hw : Data.weights (plainU u) <= 1048576) :
    ∃ ca cc v2 v3 v4, ds.map val = [.slice ca u.classes.length cc, .string u.main.sel, .bool u.main.cls, v2, v3, v4] /\ MSt w u.main v2 v3 v4 /\ u.main.sel.size + Tree.weight (bodyE u.main) <= 1048576 /\ (u.classes.length <= cc /\ cc <= maxLen) /\
      ∀ k c, u.classes[k]? = some c -> ∃ b o v2 ma mc, ca = some ⟨b, o, none⟩ /\ CCell w b (o + k * 4) c v2 ma mc /\ CSt w c v2 ma mc := by
  obtain ⟨t0, v0, d0, ms, rfl, h0, h1⟩ := unit_form hd
  rw [plainU_weight, plainM_weight] at hw
  have hr0 : Row 0 w t0 4 v0 d0 := row_iff.1 (Own.left (a := [.row t0 4 v0 d0]) (b := ms) ho)
  have hms : Own 0 w ms := Own.right (a := [.row t0 4 v0 d0]) (b := ms) ho
  obtain ⟨v2, v3, v4, hmv, hst⟩ := meth_own h1 hms
  have hhs := (row_iff.2 hr0).holds
  simp only [Holdss, and_true] at hhs
  rw [Go.Proofs.YtnlgdkfenipmfaaGreatDoor.Data.Holds] at hhs
  obtain ⟨⟨ca, cn, cc, rfl, -, hcl, hcn, hcc, hccell⟩, -⟩ := hhs
  have hclen := congrArg List.length h0
  rw [zad, plainCs_len] at hclen
  obtain rfl : cn = u.classes.length := by omega
  refine ⟨ca, cc, v2, v3, v4, by rw [List.map_cons, hmv]; rfl, hst, by omega, ⟨hcn, hcc⟩, fun k c hk => ?_⟩
  obtain ⟨h, rfl⟩ := List.getElem?_eq_some_iff.1 hk
  obtain ⟨A, x, B, hdx, hal, hx⟩ := classes_at u.classes d0 h0 k h
  have hxl : x.length = 4 := by
    have := congrArg List.length hx
    rw [zad, plainC_len] at this
    exact this
  obtain ⟨b, o, e, hc⟩ := row_cells hr0 hdx hal (by omega)
  have hxo : Own 0 w x := own_mid (hdx ▸ hr0.kids)
  have hwc := plainCs_weight u.classes k h
  obtain ⟨v2, ma, mc, hxv, hcs⟩ := class_own hx hxo (by omega)
  have hval : ∀ j v (hj : j < x.length), [Value.string u.classes[k].name, .string u.classes[k].parent, v2, .slice ma u.classes[k].methods.length mc][j]? = some v -> val x[j] = v := fun j v hj e => by
    rw [<- hxv] at e
    simpa [hj] using e
  refine ⟨b, o, v2, ma, mc, e, ⟨?_, ?_, ?_, ?_⟩, hcs⟩
  · have := hc 0 (by omega); rw [hval 0 _ (by omega) rfl] at this; exact this
  · have := hc 1 (by omega); rw [hval 1 _ (by omega) rfl] at this; exact this
  · have := hc 2 (by omega); rw [hval 2 _ (by omega) rfl] at this; exact this
  · have := hc 3 (by omega); rw [hval 3 _ (by omega) rfl] at this; exact this
structure UCell (w : World) (b : Nat) (u : U) (ca : Option Addr) (cc : Nat) (v2 v3 v4 : Value) : Prop where
  c0 : w.cell? ⟨b, 0, none⟩ = some (.slice ca u.classes.length cc)
  m : MCell w b 1 u.main v2 v3 v4
theorem UCell.step {w w' : World} {b : Nat} {u : U} {ca : Option Addr} {cc : Nat} {v2 v3 v4 : Value} (h : UCell w b u ca cc v2 v3 v4) (hb : Below w.heap.size w w') : UCell w' b u ca cc v2 v3 v4 := ⟨cell_keep hb h.c0, h.m.step hb⟩
set_option maxRecDepth 10000 in
set_option maxHeartbeats 8000000 in
theorem unit_check {w : World} {u : U} {ca : Option Addr} {cc ub : Nat} {v2 v3 v4 : Value} {a : Addr} (h : UCell w ub u ca cc v2 v3 v4) (hm : MSt w u.main v2 v3 v4) (hw : u.main.sel.size + Tree.weight (bodyE u.main) <= 1048576) (hcc : u.classes.length <= cc /\ cc <= maxLen)
    (hcs : ∀ k c, u.classes[k]? = some c -> ∃ b o v2 ma mc, ca = some ⟨b, o, none⟩ /\ CCell w b (o + k * 4) c v2 ma mc /\ CSt w c v2 ma mc) (he : Err w a) :
    Calls Tryz.prog 30 #[.pointer (some ⟨ub, 0, none⟩)] w fun r w' => r = .returned (errV (unitOk u) a) /\ Below w.heap.size w w' := by
  have KM := fun w' (hb : Below w.heap.size w w') => zH (main_check (hm.below hb) (h.m.step hb) hw (he.keep hb))
  have HV : Hid (unitOk u = (decide (u.classes.length <= 8) && u.classes.all classOk && mainOk u.main)) := zH (unitOk_is u)
  have HK := zH h
  have HER := zH he
  have HM : Hid (∀ q c, u.classes[q]? = some c -> ∃ b o, ca = some ⟨b, o, none⟩ /\ ∀ w', Below w.heap.size w w' -> Hid (Calls Tryz.prog 69 #[.pointer (some ⟨b, o + q * 4, none⟩)] w' fun r w'' => r = .returned (errV (classOk c) a) /\ Below w'.heap.size w' w'')) := zH fun q c hq => by
    obtain ⟨b', o', x2, ma, mc, e, h1, h2⟩ := hcs q c hq
    exact ⟨b', o', e, fun w' hb => zH (class_check (h2.below hb) (h1.step hb) (he.keep hb))⟩
  have hcc2 := hcc
  unfold maxLen at hcc2
  have c0 := h.c0
  have g0 := he.2
  clear h he hm hw hcs
  generalize unitOk u = R at *
  generalize hN : u.classes.length = N at *
  have HN := zH hN
  clear hN
  by_cases hn8 : (N : Int) <= 8
  case neg =>
    have hR : R = false := by rw [HV.out, decide_eq_false (by omega)]; rfl
    subst hR
    clear HV HM KM
    go_enter Tryz.func30, Tryz.ntmps30
    go_wp2_with fail
    go_ret
    exact ⟨rfl, zB _ _⟩
  have HVA : Hid (R = (u.classes.all classOk && mainOk u.main)) := zH (by rw [HV.out, decide_eq_true (show N <= 8 by omega), Bool.true_and])
  clear HV
  go_enter Tryz.func30, Tryz.ntmps30
  go_wp2_with fail
  go_loopw [17] (fun j wr => ∃ i : Nat, i <= N /\ j = .int .i64 i /\ (u.classes.take i).all classOk = true /\ Below w.heap.size w wr) (fun j _ => N - (intOf j).toNat)
  case atStart => exact ⟨0, Nat.zero_le _, rfl, rfl, zB _ _⟩
  case round =>
    clear c0 g0
    obtain ⟨i, hi, rfl, hall, hbw⟩ := hrel
    have HALL := zH hall
    have HBW := zH hbw
    have g4 := (HER.out.keep hbw).2
    have c0 := (HK.out.step hbw).c0
    rw [HN.out] at c0
    clear hall hbw
    by_cases hlt : i < N
    case neg =>
      have hiN : i = N := by omega
      have HR : Hid (R = mainOk u.main) := zH (by
        rw [HVA.out]
        have := HALL.out
        rw [hiN, <- HN.out, List.take_length] at this
        rw [this, Bool.true_and])
      have KM2 := KM wr HBW.out
      clear hiN HVA KM HM
      generalize mainOk u.main = X at *
      have hR := HR.out
      subst hR
      clear HR
      go_wp2_with fail
      refine KM2.out.mono ?_
      rintro e w6 ⟨rfl, hb6⟩
      have HB6 := zH (HBW.out.trans (hb6.mono HBW.out.size))
      clear hb6 KM2
      go_wp2_with fail
      go_ret
      exact ⟨rfl, HB6.out⟩
    have hil : i < u.classes.length := by rw [HN.out]; exact hlt
    obtain ⟨b', o', hma, hmk⟩ := HM.out i _ (List.getElem?_eq_getElem hil)
    subst hma
    have KC := hmk wr HBW.out
    have HRF : Hid (classOk u.classes[i] = false -> R = false) := zH fun h => by rw [HVA.out, all_no _ _ _ hil h]; rfl
    have HRT : Hid (classOk u.classes[i] = true -> (u.classes.take (i + 1)).all classOk = true) := zH fun h => all_take _ _ _ hil HALL.out h
    clear hmk HALL HM KM
    generalize classOk u.classes[i] = b5 at *
    cases b5 with
    | false =>
      have hR : R = false := HRF.out rfl
      subst hR
      clear HRF HRT HVA
      go_wp2_with fail
      refine KC.out.mono ?_
      rintro e w6 ⟨rfl, hb6⟩
      have HB6 := zH (HBW.out.trans (hb6.mono HBW.out.size))
      clear hb6 KC
      unfold errV
      go_wp2_with fail
      go_ret
      exact ⟨rfl, HB6.out⟩
    | true =>
      go_wp2_with fail
      refine KC.out.mono ?_
      rintro e w6 ⟨rfl, hb6⟩
      have HB6 := zH (HBW.out.trans (hb6.mono HBW.out.size))
      clear hb6 KC
      unfold errV
      go_wp2_with fail
      go_roundw
      case rel => exact ⟨i + 1, by omega, by go_num, HRT.out trivial, HB6.out⟩
      case measure => simp [intOf]; omega
set_option maxRecDepth 10000 in
set_option maxHeartbeats 8000000 in
theorem is_unit {w : World} {u : U} {ds : List D} {a : Addr} (hd : erases ds = plainU u) (ho : Own 0 w ds) (hw : Data.weights (erases ds) <= 1048576) (he : Err w a) :
    Calls Tryz.prog 8 #[agg ds] w fun r w' => r = .returned (.bool (unitOk u)) /\ Below w.heap.size w w' := by
  rw [hd] at hw
  obtain ⟨ca, cc, v2, v3, v4, hv, hm, hwm, hcc, hcs⟩ := unit_own hd ho hw
  have hag : agg ds = .agg #[.slice ca u.classes.length cc, .string u.main.sel, .bool u.main.cls, v2, v3, v4] := by
    show Value.agg (vals ds).toArray = _
    unfold vals
    rw [hv]
  rw [hag]
  have hb0 : Below w.heap.size w (w.alloc (.cells #[.slice ca u.classes.length cc, .string u.main.sel, .bool u.main.cls, v2, v3, v4] 30)) := (zB _ _).alloc (zL _) _
  have hz := zab w [.row 0 4 (.slice ca u.classes.length cc) [], .str u.main.sel, .bool u.main.cls, .row 0 1 v2 [], .row 0 1 v3 [], .row 0 5 v4 []] 30
  have z0 := hz.at 0 (.row 0 4 (.slice ca u.classes.length cc) []) rfl
  have z1 := hz.at 1 (.str u.main.sel) rfl
  have z2 := hz.at 2 (.bool u.main.cls) rfl
  have z3 := hz.at 3 (.row 0 1 v2 []) rfl
  have z4 := hz.at 4 (.row 0 1 v3 []) rfl
  have z5 := hz.at 5 (.row 0 5 v4 []) rfl
  have hc : UCell (w.alloc (.cells #[.slice ca u.classes.length cc, .string u.main.sel, .bool u.main.cls, v2, v3, v4] 30)) w.heap.size u ca cc v2 v3 v4 := ⟨z0, z1, z2, z3, z4, z5⟩
  have hcs2 : ∀ w', Below w.heap.size w w' -> ∀ k c, u.classes[k]? = some c -> ∃ b o v2 ma mc, ca = some ⟨b, o, none⟩ /\ CCell w' b (o + k * 4) c v2 ma mc /\ CSt w' c v2 ma mc := fun w' hb k c hk => by
    obtain ⟨b', o', x2, ma, mc, e, h1, h2⟩ := hcs k c hk
    exact ⟨b', o', x2, ma, mc, e, h1.step hb, h2.below hb⟩
  have KC := fun d os => zH (Calls.regrown_of (w := w.alloc (.cells #[.slice ca u.classes.length cc, .string u.main.sel, .bool u.main.cls, v2, v3, v4] 30)) (d := d) (os := os) (unit_check (hc.step (below_regrown _ d os)) ((hm.below hb0).below (below_regrown _ d os)) hwm hcc (hcs2 _ (hb0.trans ((below_regrown _ d os).mono hb0.size))) ((he.keep hb0).keep (below_regrown _ d os))))
  have KI := fun d os => zH (Calls.regrown_of (w := w.alloc (.cells #[.slice ca u.classes.length cc, .string u.main.sel, .bool u.main.cls, v2, v3, v4] 30)) (d := d) (os := os) ((is_any (unitOk u) a _).mono (fun e w' h => (⟨h.1, by rw [h.2]; exact zB _ _⟩ : e = .returned (.bool (!unitOk u)) /\ Below _ _ w'))))
  have ke := err_regrown (he.keep hb0)
  have HB0 := zH hb0
  clear hd ho hw he hag hm hwm hcs hcs2 hcc hb0 hz z0 z1 z2 z3 z4 z5 hc hv
  generalize unitOk u = R at *
  generalize u.classes.length = N at *
  go_enter Tryz.func8, Tryz.ntmps8
  go_wp2_with fail
  refine wp_region_quiet_below (by kernel_rfl) (by kernel_rfl) ?_
  repeat (go_big_quiet_step (first | (go_at_call 30; exact (KC _ _).out) | (go_at_call 29; exact (KI _ _).out)))
  refine wpQuiet_nil ?_
  intro w5 hw5
  have HB5 := zH (HB0.out.trans ((regrown_low hw5).mono HB0.out.size))
  clear hw5 KC KI ke
  go_wp2_with fail
  go_ret
  exact ⟨by simp, HB5.out⟩
end ImplMeth
end Go.Proofs.YtnlgdkfenipmfaaGreatDoor
