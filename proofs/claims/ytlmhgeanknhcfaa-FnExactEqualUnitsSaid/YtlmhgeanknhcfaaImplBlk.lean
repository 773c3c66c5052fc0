/-
  impl's block of a method (the text of XImplMeth, for a program without errors.Is).
-/
import Derived.Test.YtlmhgeanknhcfaaSpecMeth
import Derived.Test.YtlmhgeanknhcfaaImplConcat
import Derived.Test.YtlmhgeanknhcfaaSoft
import Derived.Test.YtlmhgeanknhcfaaTreeTo
import Derived.Deep.RegionHeld3
namespace Go.Proofs.Ytlmhgeanknhcfaa.ImplMeth
open Go.RowKit Go.Sort
open Strs Tree Soft TreeTo Go.Proofs.Ytlmhgeanknhcfaa.Data

/-- What a method's cells lead to, its statements in open blocks. -/
structure MSt (w : World) (m : M) (v2 v3 v4 : Value) : Prop where
  at_ : MAt 0 w m v2 v3 v4
  soft : SoftKids 0 w m.body v4
theorem MSt.below {w w' : World} {m : M} {v2 v3 v4 : Value} (h : MSt w m v2 v3 v4) (hb : Below w.heap.size w w') : MSt w' m v2 v3 v4 := ⟨h.at_.below hb, h.soft.keep (Nat.le_refl _) (keptF_below hb)⟩
/-- A method's cells at an address. -/
structure MCell (w : World) (b o : Nat) (m : M) (v2 v3 v4 : Value) : Prop where
  c0 : w.cell? ⟨b, o, none⟩ = some (.string m.sel)
  c1 : w.cell? ⟨b, o + 1, none⟩ = some (.bool m.cls)
  c2 : w.cell? ⟨b, o + 2, none⟩ = some v2
  c3 : w.cell? ⟨b, o + 3, none⟩ = some v3
  c4 : w.cell? ⟨b, o + 4, none⟩ = some v4
theorem MCell.step {w w' : World} {b o : Nat} {m : M} {v2 v3 v4 : Value} (h : MCell w b o m v2 v3 v4) (hb : Below w.heap.size w w') : MCell w' b o m v2 v3 v4 := ⟨cell_keep hb h.c0, cell_keep hb h.c1, cell_keep hb h.c2, cell_keep hb h.c3, cell_keep hb h.c4⟩

theorem keep5 {w : World} {g b o : Nat} {v : Value} (h : w.cell? ⟨b, o, none⟩ = some v) (hg : b ≠ g) (a0 a1 a2 a3 a4 : Value) : (((((w.setCell ⟨g, 0, none⟩ a0).setCell ⟨g, 1, none⟩ a1).setCell ⟨g, 2, none⟩ a2).setCell ⟨g, 3, none⟩ a3).setCell ⟨g, 4, none⟩ a4).cell? ⟨b, o, none⟩ = some v :=
  have go : ∀ (u : World) (q : Nat) (x : Value), u.cell? ⟨b, o, none⟩ = some v → (u.setCell ⟨g, q, none⟩ x).cell? ⟨b, o, none⟩ = some v := fun u q x hu => (World.cell?_setCell_other _ _ _ _ (by intro e; injection e with e1; exact hg e1.symm)).trans hu
  go _ _ _ (go _ _ _ (go _ _ _ (go _ _ _ (go _ _ _ h))))
set_option maxRecDepth 10000 in
set_option maxHeartbeats 8000000 in
theorem block_any {w : World} {m : M} {v2 v3 v4 : Value} {b o : Nat} (h : MSt w m v2 v3 v4) (c : MCell w b o m v2 v3 v4) (hl : m.params.length + m.temps.length ≤ 4398046511104) :
    Calls Try.prog 22 #[.pointer (some ⟨b, o, none⟩)] w fun r w' => ∃ vn, r = .returned (.agg #[.int .i64 8, .string ⟨#[]⟩, .int .i64 (m.params.length : Int), vn, v4]) ∧ NodeAt 0 w' (bodyE m) vn v4 ∧ SoftKids 0 w' m.body v4 ∧ Below w.heap.size w w' := by
  have hb0 : Below w.heap.size w (w.alloc (.cells #[.int .i64 0, .string ⟨#[]⟩, .int .i64 0, .slice none 0 0, .slice none 0 0] 47)) := (Below.refl _ _).alloc (Nat.le_refl _) _
  have hz : Cells w.heap.size zeroE (w.alloc (.cells #[.int .i64 0, .string ⟨#[]⟩, .int .i64 0, .slice none 0 0, .slice none 0 0] 47)) := cells_new w zeroE _
  have hfz : ∀ o, (w.alloc (.cells #[.int .i64 0, .string ⟨#[]⟩, .int .i64 0, .slice none 0 0, .slice none 0 0] 47)).frozen? ⟨w.heap.size, o, none⟩ = false := fun o => by go_simp
  obtain ⟨c0, c1, c2, c3, c4⟩ := c.step hb0
  have hm0 := h.below hb0
  obtain ⟨pa, pc, hp2, -⟩ := id h.at_.params
  obtain ⟨ta, tc, ht2, -⟩ := id h.at_.temps
  obtain ⟨ka, kc, hk2, -⟩ := id h.at_.body
  subst hp2 ht2 hk2
  obtain ⟨W1, hW1⟩ : ∃ W1, W1 = ((w.alloc (.cells #[.int .i64 0, .string ⟨#[]⟩, .int .i64 0, .slice none 0 0, .slice none 0 0] 47)).alloc (.cells #[.slice pa m.params.length pc, .slice ta m.temps.length tc] 22)).drew := ⟨_, rfl⟩
  have hs0 : (w.alloc (.cells #[.int .i64 0, .string ⟨#[]⟩, .int .i64 0, .slice none 0 0, .slice none 0 0] 47)).heap.size = w.heap.size + 1 := by simp
  have hb1 : Below (w.alloc (.cells #[.int .i64 0, .string ⟨#[]⟩, .int .i64 0, .slice none 0 0, .slice none 0 0] 47)).heap.size (w.alloc (.cells #[.int .i64 0, .string ⟨#[]⟩, .int .i64 0, .slice none 0 0, .slice none 0 0] 47)) W1 := by rw [hW1]; exact ((Below.refl _ _).alloc (Nat.le_refl _) _).drew
  have g0 : W1.cell? ⟨w.heap.size + 1, 0, none⟩ = some (.slice pa m.params.length pc) := by rw [hW1, ← hs0]; go_simp
  have g1 : W1.cell? ⟨w.heap.size + 1, 1, none⟩ = some (.slice ta m.temps.length tc) := by rw [hW1, ← hs0]; go_simp
  have hm1 := hm0.below hb1
  have KC := Lib.hid (ImplConcat.concat_any (c := 2) hm1.at_.params hm1.at_.fparams hm1.at_.temps hm1.at_.ftemps g0 g1 hl)
  have HM1 := Lib.hid hm1
  have HB1 := Lib.hid (hb0.trans (hb1.mono hb0.size))
  have HZ1 := Lib.hid (hz.step hb1)
  have HF1 := Lib.hid (fun o => (hb1.frozen (p := ⟨w.heap.size, o, none⟩) hz.1).trans (hfz o))
  have d2 := cell_keep hb1 c2
  have d3 := cell_keep hb1 c3
  have d4 := cell_keep hb1 c4
  have HD2 := Lib.hid d2
  have HD3 := Lib.hid d3
  have HD4 := Lib.hid d4
  have hbl : b < (w.alloc (.cells #[.int .i64 0, .string ⟨#[]⟩, .int .i64 0, .slice none 0 0, .slice none 0 0] 47)).heap.size := cell_lt c2
  have HNE : Hid (b ≠ w.heap.size) := Lib.hid (by have := cell_lt c.c2; have e : b < w.heap.size := this; omega)
  have k2 : ∀ X, ((w.alloc (.cells #[.int .i64 0, .string ⟨#[]⟩, .int .i64 0, .slice none 0 0, .slice none 0 0] 47)).alloc X).cell? ⟨b, o + 2, none⟩ = some (.slice pa m.params.length pc) := fun X => cell_keep ((Below.refl _ _).alloc (Nat.le_refl _) X) c2
  have k3 : ∀ X, ((w.alloc (.cells #[.int .i64 0, .string ⟨#[]⟩, .int .i64 0, .slice none 0 0, .slice none 0 0] 47)).alloc X).cell? ⟨b, o + 3, none⟩ = some (.slice ta m.temps.length tc) := fun X => cell_keep ((Below.refl _ _).alloc (Nat.le_refl _) X) c3
  have k4 : ∀ X, ((w.alloc (.cells #[.int .i64 0, .string ⟨#[]⟩, .int .i64 0, .slice none 0 0, .slice none 0 0] 47)).alloc X).cell? ⟨b, o + 4, none⟩ = some (.slice ka m.body.length kc) := fun X => cell_keep ((Below.refl _ _).alloc (Nat.le_refl _) X) c4
  have hpm : (m.params.length : Int) ≤ 4398046511104 := by omega
  rw [hW1] at KC
  have HW1 := Lib.hid hW1
  have HS1 : Hid (w.heap.size < W1.heap.size) := Lib.hid (by have := hb1.size; omega)
  have HMS := Lib.hid h
  clear h c hb0 hz hfz hm0 hm1 hb1 g0 g1 d2 d3 d4 hW1
  go_enter Try.func22, Try.ntmps22
  go_wp2_with fail
  go_region_held3 (fun w' => w'.cell? ⟨b, o + 2, none⟩ = some (Value.slice pa m.params.length pc) ∧ w'.cell? ⟨b, o + 3, none⟩ = some (Value.slice ta m.temps.length tc) ∧ w'.cell? ⟨b, o + 4, none⟩ = some (Value.slice ka m.body.length kc))
    (first | with_reducible exact HE.out | with_reducible exact ⟨keep5 HE.out.1 HNE.out _ _ _ _ _, keep5 HE.out.2.1 HNE.out _ _ _ _ _, keep5 HE.out.2.2 HNE.out _ _ _ _ _⟩ | with_reducible exact ⟨k2 _, k3 _, k4 _⟩ | exact ⟨k2 _, k3 _, k4 _⟩ | exact ⟨c2, c3, c4⟩ | go_keep)
    (first
      | (go_at_call 35
         refine KC.out.mono ?_
         rw [← HW1.out]
         rintro e w3 ⟨ra, rc, rfl, ht, hb3⟩
         have hz3 := HZ1.out.step hb3
         have fz : ∀ o, w3.frozen? ⟨w.heap.size, o, none⟩ = false := fun o => (hb3.frozen (p := ⟨w.heap.size, o, none⟩) HZ1.out.1).trans (HF1.out o)
         have z0 := hz3.at 0 (.int 0) rfl
         have z1 := hz3.at 1 (.str ⟨#[]⟩) rfl
         have z2 := hz3.at 2 (.int 0) rfl
         have z3 := hz3.at 3 (.row 0 1 (.slice none 0 0) []) rfl
         have z4 := hz3.at 4 (.row 0 5 (.slice none 0 0) []) rfl
         simp only [val] at z0 z1 z2 z3 z4
         have HE := Lib.hid (And.intro (cell_keep hb3 HD2.out) (And.intro (cell_keep hb3 HD3.out) (cell_keep hb3 HD4.out)))
         clear c0 c1 c2 c3 c4 k2 k3 k4 hs0 hbl))
  all_goals
    have HT3 := Lib.hid ht
    have HB3 := Lib.hid (HB1.out.trans (hb3.mono HB1.out.size))
    clear ht hb3 hz3 KC HM1 HB1 HZ1 HF1 HD2 HD3 HD4 HE HW1
    go_wp2_with fail
    have hbf := puts_below (Nat.le_refl w.heap.size) [.int .i64 8, .string ⟨#[]⟩, .int .i64 m.params.length, .slice ra (m.params.length + m.temps.length) rc, .slice ka m.body.length kc] w w3 0 HB3.out
    have hkp : Tree.Kept W1.heap.size w3 (puts w3 w.heap.size 0 [.int .i64 8, .string ⟨#[]⟩, .int .i64 m.params.length, .slice ra (m.params.length + m.temps.length) rc, .slice ka m.body.length kc]) := by
      have l2 : w.heap.size < W1.heap.size := HS1.out
      exact ((((Tree.kept_set _ _ _ l2).trans (Tree.kept_set _ _ _ l2)).trans (Tree.kept_set _ _ _ l2)).trans (Tree.kept_set _ _ _ l2)).trans (Tree.kept_set _ _ _ l2)
    have hmf := HMS.out.below hbf
    refine bodyPost_ret (v := .agg #[.int .i64 8, .string ⟨#[]⟩, .int .i64 m.params.length, .slice ra (m.params.length + m.temps.length) rc, .slice ka m.body.length kc]) (by simp [results, Try.results22, go_sem, *]) rfl ⟨_, rfl, node_iff.2 ⟨by rfl, ?_, Nat.zero_le _, HT3.out.keep (Nat.zero_le _) hkp, hmf.at_.body⟩, hmf.soft, hbf⟩
    show (Lit.int .i64 (m.params.length : Int)).wf = true
    go_wf
end Go.Proofs.Ytlmhgeanknhcfaa.ImplMeth
