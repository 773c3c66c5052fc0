/-
  impl's isRight of a block: a level is put behind the others; isRight of every node.
-/
import Derived.Test.YtekeondbbikkpaaGreatBImplCoreS
import Derived.Deep.RegionLaw
import Derived.Deep.RegionLawGrows
import Derived.Deep.RegionHeld3
import Derived.Deep.DrawnRows
namespace Go.Proofs.YtekeondbbikkpaaGreat.ImplCore
open Go.RowKit
open Strs Tree Core
open SpecCore (draws_low text0 nat0 args_ge args_le LOk regrown_below)
open Go.Proofs.YtekeondbbikkpaaGreat.Data (add_at)
set_option linter.unusedVariables false
attribute [local go_sem ↓] Go.wp_at_zero Go.wp_at_succ
def pvals : Lv → List Value
  | [] => []
  | q :: L => .int .i64 q.1 :: .int .i64 q.2 :: pvals L
theorem pvals_len (L : Lv) : (pvals L).length = L.length * 2 := by
  induction L with
  | nil => rfl
  | cons q L ih => rw [pvals, List.length_cons, List.length_cons, ih, List.length_cons]; omega
theorem pvals_append (a b : Lv) : pvals (a ++ b) = pvals a ++ pvals b := by
  induction a with
  | nil => rfl
  | cons q L ih => rw [List.cons_append, pvals, pvals, ih]; rfl
theorem pvals_at : ∀ (L : Lv) (j : Nat) (q : Int × Int), L[j]? = some q → (pvals L)[j * 2]? = some (.int .i64 q.1) ∧ (pvals L)[j * 2 + 1]? = some (.int .i64 q.2) := by
  intro L
  induction L with
  | nil => intro j q h; simp at h
  | cons p L ih =>
    intro j q h
    cases j with
    | zero => simp at h; subst h; exact ⟨rfl, rfl⟩
    | succ j =>
      rw [List.getElem?_cons_succ] at h
      obtain ⟨h1, h2⟩ := ih j q h
      rw [pvals, show (j + 1) * 2 = j * 2 + 1 + 1 by omega]
      exact ⟨h1, h2⟩
theorem pvals_of : ∀ (L : Lv) (i : Nat) (u : Value), (pvals L)[i]? = some u → ∃ j q, L[j]? = some q ∧ ((i = j * 2 ∧ u = .int .i64 q.1) ∨ (i = j * 2 + 1 ∧ u = .int .i64 q.2)) := by
  intro L
  induction L with
  | nil => intro i u h; simp [pvals] at h
  | cons p L ih =>
    intro i u h
    rw [pvals] at h
    match i, h with
    | 0, h => simp at h; exact ⟨0, p, rfl, .inl ⟨rfl, h.symm⟩⟩
    | 1, h => simp at h; exact ⟨0, p, rfl, .inr ⟨rfl, h.symm⟩⟩
    | i + 2, h =>
      rw [List.getElem?_cons_succ, List.getElem?_cons_succ] at h
      obtain ⟨j, q, hj, hq⟩ := ih i u h
      refine ⟨j + 1, q, by simpa using hj, ?_⟩
      rcases hq with ⟨e, h⟩ | ⟨e, h⟩
      · exact .inl ⟨by omega, h⟩
      · exact .inr ⟨by omega, h⟩
theorem ck_own {w : World} {g C base : Nat} {T : TypeId} {v : Value} {L : Lv} (hg : w.cell? ⟨g, 0, none⟩ = some (.int .i64 C)) (h1 : w.cell? ⟨g, 1, none⟩ = some v) (h : w.ownsRow base T 2 v L.length (pvals L)) : Ck w g C L := by
  refine ⟨hg, ?_⟩
  have h' := h
  obtain ⟨_, ⟨rfl, hn⟩ | ⟨gb, cap, cur, rfl, hbg, hgg, hnc, hcm, _, _⟩⟩ := h
  · exact ⟨none, 0, by rw [h1, hn], by rw [hn]; exact ⟨Nat.le_refl _, by unfold maxLen; omega⟩, fun hp => by omega⟩
  · refine ⟨_, cap, h1, ⟨hnc, hcm⟩, fun hp => ⟨gb, 0, rfl, fun j q hj => ?_⟩⟩
    have hl := (List.getElem?_eq_some_iff.1 hj).1
    obtain ⟨e1, e2⟩ := pvals_at L j q hj
    rw [Nat.zero_add]
    exact ⟨by rw [h'.cellAt (j * 2) (by omega)]; exact e1, by rw [h'.cellAt (j * 2 + 1) (by omega)]; exact e2⟩
theorem own_low {w : World} {base base' : Nat} {e : TypeId} {size : Nat} {v : Value} {n : Nat} {xs : List Value} (h : w.ownsRow base e size v n xs) (hb : base' ≤ base) : w.ownsRow base' e size v n xs := Data.own_base h fun b hb' => Nat.le_trans hb (Data.own_blk h b hb').1
theorem ck_finA {wA : World} {C base N : Nat} {T T2 : TypeId} {v : Value} {L : Lv} (hN : L.length = N) (h : wA.ownsRow base T 2 v N (pvals L)) : Ck (wA.alloc (.cells #[.int .i64 C, v] T2)) wA.heap.size C L := by
  subst hN
  exact ck_own (by go_simp) (by go_simp) (own_keep h ((Below.refl _ _).alloc (Nat.le_refl _) _))
theorem ck_finZ {wA : World} {C base N z : Nat} {T : TypeId} {v x0 x1 : Value} {L : Lv} (hN : L.length = N) (h : wA.ownsRow base T 2 v N (pvals L)) (hz : z < base) (z0 : wA.cell? ⟨z, 0, none⟩ = some x0) (z1 : wA.cell? ⟨z, 1, none⟩ = some x1) (zf : ∀ o, wA.frozen? ⟨z, o, none⟩ = false) : Ck ((wA.setCell ⟨z, 0, none⟩ (.int .i64 C)).setCell ⟨z, 1, none⟩ v) z C L := by
  subst hN
  have f0 := zf 0
  have f1 := zf 1
  refine ck_own (by go_simp) (by go_simp) (ownsRow_setCell_below (ownsRow_setCell_below h hz _) hz _)
theorem below_set2 {B z : Nat} {w wA : World} {a b : Value} (h : Below B w wA) (hz : B ≤ z) : Below B w ((wA.setCell ⟨z, 0, none⟩ a).setCell ⟨z, 1, none⟩ b) := (h.setCell (p := ⟨z, 0, none⟩) hz _).setCell (p := ⟨z, 1, none⟩) hz _
theorem infoSR : (Tryz.prog.info? 110).map (fun i => (i.zero, i.size, i.bytes)) = some (some (.agg #[.int .i64 0, .int .i64 0]), 2, 16) := by kernel_rfl
set_option maxHeartbeats 1000000 in
theorem clip_lv (b o n c : Nat) (w : World) (hn : n ≤ c) (hc : c ≤ maxLen) :
    Calls Tryz.prog 100 #[.slice (some ⟨b, o, none⟩) n c] w fun e w' => e = .returned (.slice (some ⟨b, o, none⟩) n n) ∧ w' = w := by
  unfold maxLen at hc
  go_enter Tryz.func100, Tryz.ntmps100
  go_wp2_with fail
  all_goals
    go_ret
    exact ⟨rfl, rfl⟩
set_option maxRecDepth 10000 in
set_option maxHeartbeats 16000000 in
theorem right_16 {C : Nat} {t : ByteArray} {n d : Int} {ks : List K} (ih : ∀ e, e ∈ ks → OkI C e) : OkI C (.mk 16 t n d ks) := by
  intro lo b o g w L hw hd hs hg hL hl
  rw [kweight] at hw
  rw [ksize] at hl
  have hdd : d ≤ 30 ∧ kdeeps ks ≤ 999 := by
    rw [kdeep] at hd
    split at hd
    · omega
    · rename_i h
      exact ⟨by omega, by omega⟩
  have ht : t.size ≤ 1048576 := by omega
  have KP := Lib.hid (plain_any hs)
  have KQ := fun (w' : World) (hb : Below w.heap.size w w') => Lib.hid (kids_any (hs.below hb) ht)
  have KF := fun (w' : World) (hb : Below w.heap.size w w') => Lib.hid (fields_any (hg.below hb) (by omega) (hs.below hb) ht)
  simp only [K.kind, K.text, K.num, K.dep, K.kids] at KP KQ KF
  have HV : Hid (kright C L (.mk 16 t n d ks) = ((plainB 16 t n d && (countB 16 t ks.length && fieldB C L 16 t n d)) && krights C (L ++ [(n, d)]) ks)) := Lib.hid (by rw [kright_mk]; rfl)
  generalize kright C L (.mk 16 t n d ks) = R at *
  have HFN : Hid (fieldB C L 16 t n d = true → 0 ≤ n ∧ n ≤ d) := Lib.hid (fun h => by simpa [fieldB] using h)
  generalize plainB 16 t n d = P at *
  generalize countB 16 t ks.length = Q at *
  generalize fieldB C L 16 t n d = F at *
  cases P with
  | false =>
    have hR : R = false := by rw [HV.out]; rfl
    subst hR
    go_enter Tryz.func77, Tryz.ntmps77
    go_wp2_with fail
    refine KP.out.mono ?_
    rintro r w1 ⟨rfl, hb1⟩
    have H1 := Lib.hid hb1; clear hb1
    go_wp2_with fail
    go_ret
    exact ⟨rfl, H1.out⟩
  | true =>
  cases Q with
  | false =>
    have hR : R = false := by rw [HV.out]; rfl
    subst hR
    go_enter Tryz.func77, Tryz.ntmps77
    go_wp2_with fail
    refine KP.out.mono ?_
    rintro r w1 ⟨rfl, hb1⟩
    have H1 := Lib.hid hb1; clear hb1
    go_wp2_with fail
    refine (KQ _ H1.out).out.mono ?_
    rintro r w2 ⟨rfl, hb2⟩
    have H2 := Lib.hid (H1.out.trans (hb2.mono H1.out.size)); clear hb2
    go_wp2_with fail
    go_ret
    exact ⟨rfl, H2.out⟩
  | true =>
  cases F with
  | false =>
    have hR : R = false := by rw [HV.out]; rfl
    subst hR
    go_enter Tryz.func77, Tryz.ntmps77
    go_wp2_with fail
    refine KP.out.mono ?_
    rintro r w1 ⟨rfl, hb1⟩
    have H1 := Lib.hid hb1; clear hb1
    go_wp2_with fail
    refine (KQ _ H1.out).out.mono ?_
    rintro r w2 ⟨rfl, hb2⟩
    have H2 := Lib.hid (H1.out.trans (hb2.mono H1.out.size)); clear hb2
    go_wp2_with fail
    refine (KF _ H2.out).out.mono ?_
    rintro r w3 ⟨rfl, hb3⟩
    have H3 := Lib.hid (H2.out.trans (hb3.mono H2.out.size)); clear hb3
    go_wp2_with fail
    go_ret
    exact ⟨rfl, H3.out⟩
  | true =>
  have hnd : 0 ≤ n ∧ n ≤ d := by first | exact HFN.out rfl | exact HFN.out trivial
  have hL' : LOk (L ++ [(n, d)]) := ⟨by simp, fun x hx => by
    rcases List.mem_append.1 hx with h | h
    · exact hL.q x h
    · simp only [List.mem_singleton] at h
      subst h
      exact ⟨hnd.1, hnd.2, hdd.1⟩⟩
  obtain ⟨vk, c0, c1, c2, c3, c4, hn⟩ := id hs
  obtain ⟨-, -, -, -, hks⟩ := kat_iff.1 hn
  simp only [K.kind, K.text, K.num, K.dep, K.kids] at c0 c1 c2 c3 hks
  have HKS := Lib.hid hks
  have HV2 : Hid (R = krights C (L ++ [(n, d)]) ks) := Lib.hid (by rw [HV.out]; rfl)
  have KR := fun (w' : World) (g' : Nat) (hb : Below w.heap.size w w') (hck : Ck w' g' C (L ++ [(n, d)])) => Lib.hid (rights_any (C := C) (ks := ks) ih (lo := lo) (g := g') (L := L ++ [(n, d)]) (by omega) hdd.2 (HKS.out.below hb) hck hL' (by rw [List.length_append]; simp; omega))
  obtain ⟨a, cap, rfl, hm, -⟩ := hks
  unfold maxLen at hm
  have HG := Lib.hid hg
  have hpos := hL.pos
  have hln : L.length ≤ 4194304 := by omega
  clear hn hg hw hd ht ih hs hL hL' hdd hnd HFN HV hl
  generalize krights C (L ++ [(n, d)]) ks = y at *
  generalize ks.length = N at *
  go_enter Tryz.func77, Tryz.ntmps77
  go_wp2_with fail
  refine KP.out.mono ?_
  rintro r w1 ⟨rfl, hb1⟩
  have H1 := Lib.hid hb1; clear hb1
  go_wp2_with fail
  refine (KQ _ H1.out).out.mono ?_
  rintro r w2 ⟨rfl, hb2⟩
  have H2 := Lib.hid (H1.out.trans (hb2.mono H1.out.size)); clear hb2
  go_wp2_with fail
  refine (KF _ H2.out).out.mono ?_
  rintro r w3 ⟨rfl, hb3⟩
  have H3 := Lib.hid (H2.out.trans (hb3.mono H2.out.size)); clear hb3
  have e0 := cell_keep H3.out c0
  have e2 := cell_keep H3.out c2
  have e3 := cell_keep H3.out c3
  have C4 := Lib.hid c4
  obtain ⟨g0, la, lc, g1, hlm, hlc⟩ := HG.out.below H3.out
  obtain ⟨lb, lo', rfl, hcell⟩ := hlc (by omega)
  have HCELL := Lib.hid hcell
  clear c0 c1 c2 c3 c4 KP KQ KF hlc hcell
  go_upto_region 5 with fail
  go_cut [5] from 26 to 46 (fun v wx => ∃ g', v = .pointer (some ⟨g', 0, none⟩) ∧ Ck wx g' C (L ++ [(n, d)]) ∧ Below w.heap.size w wx)
  case first =>
    have ltg : g < w3.heap.size := World.block_lt_of_cell? _ _ g0
    have ltb : b < w3.heap.size := World.block_lt_of_cell? _ _ e2
    have ng0 : ¬ g = w3.heap.size := by omega
    have ng1 : ¬ g = w3.heap.size + 1 := by omega
    have ng2 : ¬ w3.heap.size = g := by omega
    have ng3 : ¬ w3.heap.size + 1 = g := by omega
    have nb0 : ¬ b = w3.heap.size := by omega
    have nb1 : ¬ b = w3.heap.size + 1 := by omega
    have nb2 : ¬ w3.heap.size = b := by omega
    have nb3 : ¬ w3.heap.size + 1 = b := by omega
    have HNL : Hid ((L ++ [(n, d)]).length = L.length + 1) := Lib.hid (by rw [List.length_append]; rfl)
    have hcl := fun w' => Lib.hid (clip_lv lb lo' L.length lc w' hlm.1 hlm.2)
    have hbA : Below w3.heap.size w3 (w3.alloc (.cells #[.int .i64 n, .int .i64 d] 110)).drew := ((Below.refl _ _).alloc (Nat.le_refl _) _).drew
    have q0A := cell_keep hbA g0; have q1A := cell_keep hbA g1; have q2A := cell_keep hbA e2; have q3A := cell_keep hbA e3
    have HLITA : Hid ((w3.alloc (.cells #[.int .i64 n, .int .i64 d] 110)).drew.cell? ⟨w3.heap.size, 0, none⟩ = some (.int .i64 n) ∧ (w3.alloc (.cells #[.int .i64 n, .int .i64 d] 110)).drew.cell? ⟨w3.heap.size, 1, none⟩ = some (.int .i64 d)) := Lib.hid (by constructor <;> go_simp)
    have HBA := Lib.hid hbA
    clear hbA
    have hbB : Below w3.heap.size w3 ((w3.alloc (.cells #[.int .i64 n, .int .i64 d] 110)).alloc (.cells #[.int .i64 0, .slice none 0 0] 113)).drew := (((Below.refl _ _).alloc (Nat.le_refl _) _).alloc (by simp) _).drew
    have q0B := cell_keep hbB g0; have q1B := cell_keep hbB g1; have q2B := cell_keep hbB e2; have q3B := cell_keep hbB e3
    have HLITB : Hid (((w3.alloc (.cells #[.int .i64 n, .int .i64 d] 110)).alloc (.cells #[.int .i64 0, .slice none 0 0] 113)).drew.cell? ⟨w3.heap.size, 0, none⟩ = some (.int .i64 n) ∧ ((w3.alloc (.cells #[.int .i64 n, .int .i64 d] 110)).alloc (.cells #[.int .i64 0, .slice none 0 0] 113)).drew.cell? ⟨w3.heap.size, 1, none⟩ = some (.int .i64 d)) := Lib.hid (by constructor <;> go_simp)
    have HZB : Hid (((w3.alloc (.cells #[.int .i64 n, .int .i64 d] 110)).alloc (.cells #[.int .i64 0, .slice none 0 0] 113)).drew.cell? ⟨(w3.heap.size + 1), 0, none⟩ = some (.int .i64 0) ∧ ((w3.alloc (.cells #[.int .i64 n, .int .i64 d] 110)).alloc (.cells #[.int .i64 0, .slice none 0 0] 113)).drew.cell? ⟨(w3.heap.size + 1), 1, none⟩ = some (.slice none 0 0) ∧ ∀ o, ((w3.alloc (.cells #[.int .i64 n, .int .i64 d] 110)).alloc (.cells #[.int .i64 0, .slice none 0 0] 113)).drew.frozen? ⟨(w3.heap.size + 1), o, none⟩ = false) := Lib.hid ⟨by go_simp, by go_simp, fun o => by go_simp⟩
    have HBB := Lib.hid hbB
    clear hbB
    have hbC : Below w3.heap.size w3 ((w3.alloc (.cells #[.int .i64 0, .slice none 0 0] 113)).alloc (.cells #[.int .i64 n, .int .i64 d] 110)).drew := (((Below.refl _ _).alloc (Nat.le_refl _) _).alloc (by simp) _).drew
    have q0C := cell_keep hbC g0; have q1C := cell_keep hbC g1; have q2C := cell_keep hbC e2; have q3C := cell_keep hbC e3
    have HLITC : Hid (((w3.alloc (.cells #[.int .i64 0, .slice none 0 0] 113)).alloc (.cells #[.int .i64 n, .int .i64 d] 110)).drew.cell? ⟨(w3.heap.size + 1), 0, none⟩ = some (.int .i64 n) ∧ ((w3.alloc (.cells #[.int .i64 0, .slice none 0 0] 113)).alloc (.cells #[.int .i64 n, .int .i64 d] 110)).drew.cell? ⟨(w3.heap.size + 1), 1, none⟩ = some (.int .i64 d)) := Lib.hid (by constructor <;> go_simp)
    have HZC : Hid (((w3.alloc (.cells #[.int .i64 0, .slice none 0 0] 113)).alloc (.cells #[.int .i64 n, .int .i64 d] 110)).drew.cell? ⟨w3.heap.size, 0, none⟩ = some (.int .i64 0) ∧ ((w3.alloc (.cells #[.int .i64 0, .slice none 0 0] 113)).alloc (.cells #[.int .i64 n, .int .i64 d] 110)).drew.cell? ⟨w3.heap.size, 1, none⟩ = some (.slice none 0 0) ∧ ∀ o, ((w3.alloc (.cells #[.int .i64 0, .slice none 0 0] 113)).alloc (.cells #[.int .i64 n, .int .i64 d] 110)).drew.frozen? ⟨w3.heap.size, o, none⟩ = false) := Lib.hid ⟨by go_simp, by go_simp, fun o => by go_simp⟩
    have HBC := Lib.hid hbC
    clear hbC
    have hbZ : Below w3.heap.size w3 (w3.alloc (.cells #[.int .i64 0, .slice none 0 0] 113)).drew := ((Below.refl _ _).alloc (Nat.le_refl _) _).drew
    have q0Z := cell_keep hbZ g0; have q1Z := cell_keep hbZ g1; have q2Z := cell_keep hbZ e2; have q3Z := cell_keep hbZ e3
    clear hbZ
    obtain ⟨i0, hi, hz0, hz1, hz2⟩ := info_parts infoSR
    have HLEN := Lib.hid hln
    have HNP : Hid (pvals (L ++ [(n, d)]) = pvals L ++ [.int .i64 n, .int .i64 d]) := Lib.hid (by rw [pvals_append]; rfl)
    go_region_held3 (fun w' => (w'.cell? ⟨g, 0, none⟩ = some (.int .i64 C) ∧ w'.cell? ⟨g, 1, none⟩ = some (.slice (some ⟨lb, lo', none⟩) L.length lc)) ∧ w'.cell? ⟨b, o + 2, none⟩ = some (.int .i64 n) ∧ w'.cell? ⟨b, o + 3, none⟩ = some (.int .i64 d)) (go_keep) (first
      | (go_at_call 100
         refine (hcl _).out.mono ?_
         rintro e wC ⟨rfl, rfl⟩)
      | (refine step_append_grows rfl _ _ 111 rfl 110 i0 (.agg #[.int .i64 0, .int .i64 0]) 2 16 Tryz.underlying111 hi hz0 hz1 hz2 rfl (by decide) (some ⟨lb, lo', none⟩) L.length L.length (pvals L) rfl (fun h => by cases h) (pvals_len L) (fun bb hbb j u hj => by
           cases hbb
           obtain ⟨i, q, hq, h⟩ := pvals_of L j u hj
           rw [add_at]
           rcases h with ⟨rfl, rfl⟩ | ⟨rfl, rfl⟩
           · exact cell_keep HBA.out (HCELL.out i q hq).1
           · rw [← Nat.add_assoc]; exact cell_keep HBA.out (HCELL.out i q hq).2) ⟨w3.heap.size, 0, none⟩ 1 1 [.int .i64 n, .int .i64 d] rfl rfl (fun j u hj => by
           match j, hj with
           | 0, hj => cases hj; exact HLITA.out.1
           | 1, hj => cases hj; exact HLITA.out.2) (fun u hu => by simp at hu; rcases hu with rfl | rfl <;> rfl) (by omega) (by unfold maxLen; have := HLEN.out; omega) (by have := HLEN.out; omega) ?_
         intro vA wA hoA hgA
         have HB9 := Lib.hid (Below.grown (Below.refl _ _) hgA (Nat.le_refl _) (fun k hk => by cases hk))
         have HBW := Lib.hid (HBA.out.trans (HB9.out.mono HBA.out.size))
         rw [← HNP.out] at hoA
         obtain ⟨va, vc, rfl⟩ := Kit.row_form hoA
         have HOA := Lib.hid (own_low (base' := w3.heap.size) hoA (by simp <;> omega))
         have p0 := cell_keep HBW.out g0
         have p1 := cell_keep HBW.out g1
         have p2 := cell_keep HBW.out e2
         have p3 := cell_keep HBW.out e3
         clear hoA hgA)
      | (refine step_append_grows rfl _ _ 111 rfl 110 i0 (.agg #[.int .i64 0, .int .i64 0]) 2 16 Tryz.underlying111 hi hz0 hz1 hz2 rfl (by decide) (some ⟨lb, lo', none⟩) L.length L.length (pvals L) rfl (fun h => by cases h) (pvals_len L) (fun bb hbb j u hj => by
           cases hbb
           obtain ⟨i, q, hq, h⟩ := pvals_of L j u hj
           rw [add_at]
           rcases h with ⟨rfl, rfl⟩ | ⟨rfl, rfl⟩
           · exact cell_keep HBB.out (HCELL.out i q hq).1
           · rw [← Nat.add_assoc]; exact cell_keep HBB.out (HCELL.out i q hq).2) ⟨w3.heap.size, 0, none⟩ 1 1 [.int .i64 n, .int .i64 d] rfl rfl (fun j u hj => by
           match j, hj with
           | 0, hj => cases hj; exact HLITB.out.1
           | 1, hj => cases hj; exact HLITB.out.2) (fun u hu => by simp at hu; rcases hu with rfl | rfl <;> rfl) (by omega) (by unfold maxLen; have := HLEN.out; omega) (by have := HLEN.out; omega) ?_
         intro vA wA hoA hgA
         have HB9 := Lib.hid (Below.grown (Below.refl _ _) hgA (Nat.le_refl _) (fun k hk => by cases hk))
         have HBW := Lib.hid (HBB.out.trans (HB9.out.mono HBB.out.size))
         rw [← HNP.out] at hoA
         obtain ⟨va, vc, rfl⟩ := Kit.row_form hoA
         have HOA := Lib.hid (own_low (base' := w3.heap.size + 2) hoA (by simp <;> omega))
         have p0 := cell_keep HBW.out g0
         have p1 := cell_keep HBW.out g1
         have p2 := cell_keep HBW.out e2
         have p3 := cell_keep HBW.out e3
         have HZA : Hid (∃ zb, zb = (w3.heap.size + 1) ∧ wA.cell? ⟨zb, 0, none⟩ = some (.int .i64 0)) := Lib.hid ⟨_, rfl, cell_keep HB9.out HZB.out.1⟩
         have z0 := cell_keep HB9.out HZB.out.1
         have z1 := cell_keep HB9.out HZB.out.2.1
         have zf : ∀ o, wA.frozen? ⟨(w3.heap.size + 1), o, none⟩ = false := fun o => (HB9.out.frozen (p := ⟨(w3.heap.size + 1), o, none⟩) (by simp <;> omega)).trans (HZB.out.2.2 o)
         clear hoA hgA)
      | (refine step_append_grows rfl _ _ 111 rfl 110 i0 (.agg #[.int .i64 0, .int .i64 0]) 2 16 Tryz.underlying111 hi hz0 hz1 hz2 rfl (by decide) (some ⟨lb, lo', none⟩) L.length L.length (pvals L) rfl (fun h => by cases h) (pvals_len L) (fun bb hbb j u hj => by
           cases hbb
           obtain ⟨i, q, hq, h⟩ := pvals_of L j u hj
           rw [add_at]
           rcases h with ⟨rfl, rfl⟩ | ⟨rfl, rfl⟩
           · exact cell_keep HBC.out (HCELL.out i q hq).1
           · rw [← Nat.add_assoc]; exact cell_keep HBC.out (HCELL.out i q hq).2) ⟨(w3.heap.size + 1), 0, none⟩ 1 1 [.int .i64 n, .int .i64 d] rfl rfl (fun j u hj => by
           match j, hj with
           | 0, hj => cases hj; exact HLITC.out.1
           | 1, hj => cases hj; exact HLITC.out.2) (fun u hu => by simp at hu; rcases hu with rfl | rfl <;> rfl) (by omega) (by unfold maxLen; have := HLEN.out; omega) (by have := HLEN.out; omega) ?_
         intro vA wA hoA hgA
         have HB9 := Lib.hid (Below.grown (Below.refl _ _) hgA (Nat.le_refl _) (fun k hk => by cases hk))
         have HBW := Lib.hid (HBC.out.trans (HB9.out.mono HBC.out.size))
         rw [← HNP.out] at hoA
         obtain ⟨va, vc, rfl⟩ := Kit.row_form hoA
         have HOA := Lib.hid (own_low (base' := w3.heap.size + 2) hoA (by simp <;> omega))
         have p0 := cell_keep HBW.out g0
         have p1 := cell_keep HBW.out g1
         have p2 := cell_keep HBW.out e2
         have p3 := cell_keep HBW.out e3
         have HZA : Hid (∃ zb, zb = w3.heap.size ∧ wA.cell? ⟨zb, 0, none⟩ = some (.int .i64 0)) := Lib.hid ⟨_, rfl, cell_keep HB9.out HZC.out.1⟩
         have z0 := cell_keep HB9.out HZC.out.1
         have z1 := cell_keep HB9.out HZC.out.2.1
         have zf : ∀ o, wA.frozen? ⟨w3.heap.size, o, none⟩ = false := fun o => (HB9.out.frozen (p := ⟨w3.heap.size, o, none⟩) (by simp <;> omega)).trans (HZC.out.2.2 o)
         clear hoA hgA))
    all_goals
      have HBT := Lib.hid (H3.out.trans (HBW.out.mono H3.out.size))
      have hge := H3.out.size
      go_wp2_with fail
      go_meet
      first
        | exact ⟨_, rfl, ck_finA HNL.out HOA.out, HBT.out.alloc HBT.out.size _⟩
        | exact ⟨_, rfl, ck_finZ HNL.out HOA.out (by omega) z0 z1 zf, below_set2 HBT.out (by omega)⟩
  case rest =>
  obtain ⟨g', rfl, hck, hbw⟩ := hcut
  have HBW := Lib.hid hbw
  have K := KR _ g' hbw hck
  have c4 := cell_keep hbw C4.out
  have hR := HV2.out
  subst hR
  clear hck hbw KR
  go_wp2_with fail
  refine K.out.mono ?_
  rintro r w5 ⟨rfl, hb5⟩
  have HB5 := Lib.hid (HBW.out.trans (hb5.mono HBW.out.size))
  clear hb5 c4 K
  go_wp2_with fail
  go_ret
  exact ⟨rfl, HB5.out⟩
end Go.Proofs.YtekeondbbikkpaaGreat.ImplCore
