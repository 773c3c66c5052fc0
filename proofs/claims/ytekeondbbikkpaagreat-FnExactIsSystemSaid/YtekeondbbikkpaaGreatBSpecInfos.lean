/-
  spec.l8Infos of a unit without classes: the built-in classes.
-/
import Derived.Test.YtekeondbbikkpaaGreatBDataCore
import Derived.Test.YtekeondbbikkpaaGreatBOutRow
import Derived.Test.YtekeondbbikkpaaGreatBSpecInts
import Derived.Test.YtekeondbbikkpaaGreatBSpecRtB
import Derived.Lib.QuietBelow
import Derived.Deep.DeepCutAuto
import Derived.Deep.CutRange
import Derived.Deep.RegionLaw
import Derived.Deep.AppendLies
namespace Go.Proofs.YtekeondbbikkpaaGreat.SpecCore
open Go.RowKit
open Strs Tree Core Ints Go.Proofs.YtekeondbbikkpaaGreat.Data
set_option linter.unusedVariables false
theorem low_draws (w : World) (k : Nat) : Below w.heap.size w (w.drewN k) := ⟨rfl, rfl, rfl, Nat.le_refl _, fun _ _ => rfl⟩
def builtins : List I := (List.range 16).map Core.builtin
theorem builtins_len : builtins.length = 16 := by simp [builtins]
theorem builtins_at (i : Nat) (h : i < 16) : builtins[i]? = some (Core.builtin i) := by simp [builtins, h]
theorem bfields_size (i : Nat) : ∀ x, x ∈ bfields i → x.size ≤ maxLen := by
  intro x hx
  unfold bfields at hx
  split at hx
  · simp at hx; subst hx; unfold maxLen; decide
  · simp at hx
def Fb (i : Nat) (w : World) (e : Ending) (w' : World) : Prop := ∃ v, e = .returned v ∧ w'.ownsRow w.heap.size 9 1 v (bfields i).length ((bfields i).map Value.string) ∧ Below w.heap.size w w'
set_option maxHeartbeats 4000000 in
theorem bfields_any (i : Nat) (hi : i < 16) (w : World) (U : Nat) :
    Calls Tryz.prog 55 #[.pointer (some ⟨U, 0, none⟩), .int .i64 i] w (Fb i w) := by
  by_cases h : i = 1 ∨ i = 2 ∨ i = 3 ∨ i = 4
  · have hR : Hid (bfields i = [⟨#[116, 101, 120, 116]⟩]) := Lib.hid (by unfold bfields; rw [if_pos (by omega)])
    have hl : Hid (Fb i w (.returned (.slice (some ⟨w.heap.size, 0, none⟩) 1 1)) (w.alloc (.cells #[.string ⟨#[116, 101, 120, 116]⟩] 9))) := Lib.hid (by
      unfold Fb
      rw [hR.out]
      exact ⟨_, rfl, World.ownsRow_lit w _ 1 (Nat.le_refl _) (by unfold maxLen; omega) rfl, (Below.refl _ _).alloc (Nat.le_refl _) _⟩)
    clear hR
    generalize Fb i w = Post at *
    rcases h with rfl | rfl | rfl | rfl
    all_goals
      go_enter Tryz.func55, Tryz.ntmps55
      go_wp2_with fail
      try go_ret
      exact hl.out
  · have hR : Hid (bfields i = []) := Lib.hid (by unfold bfields; rw [if_neg (by omega)])
    have hl : Hid (Fb i w (.returned (.slice (some ⟨w.heap.size, 0, none⟩) 0 0)) (w.alloc (.cells #[] 9))) := Lib.hid (by
      unfold Fb
      rw [hR.out]
      exact ⟨_, rfl, World.ownsRow_lit w _ 0 (Nat.le_refl _) (by unfold maxLen; omega) rfl, (Below.refl _ _).alloc (Nat.le_refl _) _⟩)
    clear hR
    have t1 : ((i : Int) == 1) = false := by rw [beq_eq_false_iff_ne]; omega
    have t2 : ((i : Int) == 2) = false := by rw [beq_eq_false_iff_ne]; omega
    have t3 : ((i : Int) == 3) = false := by rw [beq_eq_false_iff_ne]; omega
    have t4 : ((i : Int) == 4) = false := by rw [beq_eq_false_iff_ne]; omega
    have t5 : (i : Int) < 16 := by omega
    generalize Fb i w = Post at *
    clear h
    go_enter Tryz.func55, Tryz.ntmps55
    go_wp2_with fail
    try go_ret
    exact hl.out
theorem infoCI : (Tryz.prog.info? 76).map (fun i => (i.zero, i.size, i.bytes)) = some (some (.agg #[.string ByteArray.empty, .int .i64 0, .slice none 0 0]), 3, 48) := by kernel_rfl
theorem app_low2 {wr w' : World} {base : Nat} {e : TypeId} {o : Obj} {v : Value} {n sz : Nat} {xs : List Value} (hb : base ≤ wr.heap.size) (hown : wr.ownsRow base e sz v n xs) (hg : (wr.alloc o).grownBy w' v.ownBlock) : Below base wr w' :=
  ((Below.refl base wr).alloc hb o).grown hg (by simp; omega) (fun k hk => (hown.lt k hk).1)
theorem bnames_len : Builtin.names.length = 16 := rfl
set_option maxRecDepth 10000 in
set_option maxHeartbeats 16000000 in
theorem infos_any (w : World) (U : Nat) (hu0 : w.cell? ⟨U, 0, none⟩ = some (.slice none 0 0)) :
    Calls Tryz.prog 30 #[.pointer (some ⟨U, 0, none⟩)] w fun e w' => ∃ v ds, e = .returned v ∧ erases ds = plainIs builtins ∧ Holds 0 w' (.row 0 3 v ds) ∧ Stricts ds ∧ Below w.heap.size w w' := by
  have KB := fun w' => Lib.hid (Builtin.spec_any w')
  obtain ⟨i0, hi0, hz0, hz1, hz2⟩ := info_parts infoCI
  have H0 : Hid (Below w.heap.size w (w.alloc (.cells #[] 76))) := Lib.hid ((Below.refl _ _).alloc (Nat.le_refl _) _)
  have HO0 : Hid (OutS w.heap.size 76 3 (w.alloc (.cells #[] 76)) [] (.slice (some ⟨w.heap.size, 0, none⟩) 0 0)) := Lib.hid ⟨World.ownsRow_lit (base := w.heap.size) (e := 76) (size := 3) w #[] 0 (Nat.le_refl _) (Nat.zero_le _) (by simp), (fun _ h => nomatch h), (fun _ h => nomatch h)⟩
  have HU := Lib.hid hu0
  go_enter Tryz.func30, Tryz.ntmps30
  go_wp2_with fail
  refine (KB _).out.mono ?_
  rintro e w1 ⟨vn, rfl, hon, hb1⟩
  have H1 := Lib.hid (H0.out.trans (hb1.mono H0.out.size))
  have HO1 := Lib.hid (HO0.out.below hb1)
  obtain ⟨na, nc, rfl, hnm, hnc⟩ := id (at_own hon)
  rw [bnames_len] at hnm hnc ⊢
  obtain ⟨nb, no, rfl, hncell⟩ := hnc (by omega)
  have HNC := Lib.hid hncell
  have HNBL : Hid (w.heap.size + 1 ≤ nb ∧ nb < w1.heap.size) := Lib.hid (by
    have h := hon.lt nb rfl
    simpa using h)
  have HNBH : Hid (w.heap.size + 1 ≤ w1.heap.size) := Lib.hid (by have := hb1.size; simpa using this)
  clear KB H0 HO0 hb1 hon hnc hncell
  unfold maxLen at hnm
  have hpb : Below w1.heap.size w1 (w1.alloc (.cells #[.int .i64 (-1), .int .i64 0, .int .i64 1, .int .i64 2, .int .i64 2, .int .i64 0, .int .i64 0, .int .i64 0, .int .i64 0, .int .i64 0, .int .i64 0, .int .i64 0, .int .i64 0, .int .i64 0, .int .i64 0, .int .i64 0] 3)) := (Below.refl _ _).alloc (Nat.le_refl _) _
  have hnat : NAt (w1.alloc (.cells #[.int .i64 (-1), .int .i64 0, .int .i64 1, .int .i64 2, .int .i64 2, .int .i64 0, .int .i64 0, .int .i64 0, .int .i64 0, .int .i64 0, .int .i64 0, .int .i64 0, .int .i64 0, .int .i64 0, .int .i64 0, .int .i64 0] 3)) (.slice (some ⟨w1.heap.size, 0, none⟩) 16 16) bparents := nat_own (T := 3) (base := w1.heap.size) (xs := bparents) (World.ownsRow_lit w1 _ 16 (Nat.le_refl _) (by unfold maxLen; omega) rfl)
  have H2 := Lib.hid (H1.out.trans (hpb.mono H1.out.size))
  have HO2 := Lib.hid (HO1.out.below hpb)
  have HN2 : Hid (∀ j, j < 16 → (w1.alloc (.cells #[.int .i64 (-1), .int .i64 0, .int .i64 1, .int .i64 2, .int .i64 2, .int .i64 0, .int .i64 0, .int .i64 0, .int .i64 0, .int .i64 0, .int .i64 0, .int .i64 0, .int .i64 0, .int .i64 0, .int .i64 0, .int .i64 0] 3)).cell? ⟨nb, no + j, none⟩ = some (.string (Builtin.names.getD j ByteArray.empty))) := Lib.hid (fun j hj => cell_keep hpb (HNC.out j hj))
  have HU2 := Lib.hid (cell_keep H2.out HU.out)
  have HP2 := Lib.hid hnat
  have HNB : Hid (w.heap.size < nb ∧ nb < w1.heap.size ∧ w.heap.size < w1.heap.size) := Lib.hid (by
    have h1 := HNBL.out
    have h2 := HNBH.out
    omega)
  clear hpb HNC hnat hu0 H1 HO1
  obtain ⟨W, hW⟩ : ∃ W, W = w1.alloc (.cells #[.int .i64 (-1), .int .i64 0, .int .i64 1, .int .i64 2, .int .i64 2, .int .i64 0, .int .i64 0, .int .i64 0, .int .i64 0, .int .i64 0, .int .i64 0, .int .i64 0, .int .i64 0, .int .i64 0, .int .i64 0, .int .i64 0] 3) := ⟨_, rfl⟩
  rw [← hW] at H2 HO2 HN2 HU2 HP2
  have HWS : Hid (W.heap.size = w1.heap.size + 1) := Lib.hid (by rw [hW]; simp)
  have HWW := Lib.hid hW
  clear hW
  have HPN : Hid (Hid ((∀ j, j < 16 → W.cell? ⟨nb, no + j, none⟩ = some (.string (Builtin.names.getD j ByteArray.empty)) ∧ W.cell? ⟨w1.heap.size, j, none⟩ = some (.int .i64 (bparents.getD j 0))) ∧ ∀ k, (Value.slice (some ⟨w.heap.size, 0, none⟩) 0 0).ownBlock = some k → k = w.heap.size ∨ W.heap.size ≤ k) ∧ True) := Lib.hid ⟨Lib.hid ⟨fun j hj => ⟨HN2.out j hj, by
    obtain ⟨pb, po, hpe, hpc⟩ := HP2.out.at (i := j) (x := bparents.getD j 0) (by
      have : j < bparents.length := hj
      rw [List.getElem?_eq_getElem this, List.getD_eq_getElem?_getD, List.getElem?_eq_getElem this]; rfl)
    cases hpe
    rw [Nat.zero_add] at hpc
    exact hpc⟩, fun k hk => .inl (by simpa [Value.ownBlock] using hk.symm)⟩, trivial⟩
  go_upto_region 5 with fail
  rw [← HWW.out]
  go_loopw [3, 6] (fun s j wr => ∃ (i : Nat) (Ls : List (List D)) (va : Option Addr) (vc : Nat), i ≤ 16 ∧ j = .int .i64 i ∧ s = .slice va i vc ∧ Ls.length = i ∧ OutS w.heap.size 76 3 wr Ls (.slice va i vc) ∧ erases Ls.flatten = plainIs (builtins.take i) ∧ Stricts Ls.flatten ∧ Below w.heap.size w wr ∧ W.heap.size ≤ wr.heap.size ∧ Hid ((∀ j, j < 16 → wr.cell? ⟨nb, no + j, none⟩ = some (.string (Builtin.names.getD j ByteArray.empty)) ∧ wr.cell? ⟨w1.heap.size, j, none⟩ = some (.int .i64 (bparents.getD j 0))) ∧ ∀ k, (Value.slice va i vc).ownBlock = some k → k = w.heap.size ∨ W.heap.size ≤ k)) (fun _ j _ => 16 - (intOf j).toNat)
  case atStart => exact ⟨0, [], _, _, by omega, rfl, rfl, rfl, HO2.out, rfl, trivial, H2.out, Nat.le_refl _, HPN.out.1⟩
  case round =>
    obtain ⟨i, Ls, va, vc, hi, rfl, rfl, hll, hout, her, hst, hbw, hwsz, HCEL⟩ := hrel
    have HOUT := Lib.hid hout; have HER := Lib.hid her; have HST := Lib.hid hst; have HBW := Lib.hid hbw; have HLL := Lib.hid hll
    clear hout her hst hbw hll
    by_cases hlt : i < 16
    · have hn := (HCEL.out.1 i hlt).1
      have hp := (HCEL.out.1 i hlt).2
      have KF := fun w' => Lib.hid (bfields_any i hlt w' U)
      unfold Fb at KF
      have HNM : Hid ((Builtin.names.getD i ByteArray.empty).size ≤ maxLen ∧ (Lit.int .i64 (bparents.getD i 0)).wf = true) := Lib.hid (by
        have h : ∀ j : Fin 16, (Builtin.names.getD j.1 ByteArray.empty).size ≤ 100 ∧ (Lit.int .i64 (bparents.getD j.1 0)).wf = true := by decide
        have h2 := h ⟨i, hlt⟩
        simp only at h2
        exact ⟨Nat.le_trans h2.1 (by unfold maxLen; omega), h2.2⟩)
      have HBT : Hid (plainIs (builtins.take (i + 1)) = plainIs (builtins.take i) ++ [.str (Builtin.names.getD i ByteArray.empty), .int (bparents.getD i 0), .row 1 (strP (bfields i))]) := Lib.hid (by
        have hil : i < builtins.length := by rw [builtins_len]; exact hlt
        have he : builtins[i] = Core.builtin i := by
          have := builtins_at i hlt
          rw [List.getElem?_eq_getElem hil] at this
          exact Option.some.inj this
        rw [List.take_succ_eq_append_getElem hil, he]
        have happ : ∀ a b : List I, plainIs (a ++ b) = plainIs a ++ plainIs b := by
          intro a b
          induction a with
          | nil => rfl
          | cons c cs ih => rw [List.cons_append, plainIs, plainIs, ih, List.append_assoc]
        rw [happ]
        rfl)
      generalize Builtin.names.getD i ByteArray.empty = nm at *
      generalize bparents.getD i 0 = pr at *
      generalize hbf : bfields i = bf at *
      have HBS : Hid (∀ x, x ∈ bf → x.size ≤ maxLen) := Lib.hid (hbf ▸ bfields_size i)
      clear hbf
      have e1 : ∀ k, (wr.drewN k).cell? ⟨nb, no + i, none⟩ = some (.string nm) := fun k => cell_keep (low_draws wr k) hn
      have e2 : ∀ k, (wr.drewN k).cell? ⟨w1.heap.size, i, none⟩ = some (.int .i64 pr) := fun k => cell_keep (low_draws wr k) hp
      go_upto_region 7 with fail
      go_region_law (first
        | (unfold Oper.wp
           go_simp
           refine (KF _).out.mono ?_
           rintro e w8 ⟨vf, rfl, hof, hb8⟩
           have HB8 : Hid (Below wr.heap.size wr w8) := Lib.hid (by first | exact hb8 | exact ((Below.refl _ wr).drew).trans hb8)
           have HO8 := Lib.hid (HOUT.out.below HB8.out)
           obtain ⟨fa, fc, rfl⟩ := Kit.row_form hof
           have HX : Hid (Holdss wr.heap.size w8 [.str nm, .int pr, .row 9 1 (.slice fa bf.length fc) (strs bf)] ∧ Formed (.slice fa bf.length fc) bf.length) := Lib.hid (by
             have h1 := (row_iff.2 (strs_row hof HBS.out)).holds
             simp only [Holdss, and_true] at h1 ⊢
             refine ⟨⟨by rw [Holds]; exact HNM.out.1, by rw [Holds]; exact HNM.out.2, ?_⟩, own_formed hof⟩
             first | exact h1 | exact Holds.keep (hi := _) (by simp) (fun _ _ _ _ hc => hc) _ h1)
           have q1 := cell_keep HB8.out hn
           have q2 := cell_keep HB8.out hp
           have hown8 := HO8.out.own
           rw [HLL.out] at hown8
           have HOW8 := Lib.hid hown8
           have HSZ8 : Hid (w.heap.size ≤ w8.heap.size) := Lib.hid (Nat.le_trans HBW.out.size HB8.out.size)
           clear hof hb8 hown8)
        | (refine step_append_lies _ (by rfl) _ _ _ (by rfl) w.heap.size 76 i0 (.agg #[.string ByteArray.empty, .int .i64 0, .slice none 0 0]) 3 48 Tryz.underlying33 hi0 hz0 hz1 hz2 rfl (by decide) _ i (Data.vals Ls.flatten) (by rfl) (own_keep HOW8.out (by first | exact (Below.refl _ _).alloc (Nat.le_refl _) _ | exact ((Below.refl _ _).alloc (Nat.le_refl _) _).drew | exact ((Below.refl _ _).drew).alloc (Nat.le_refl _) _))
             ⟨w8.heap.size, 0, none⟩ 1 1 [.string nm, .int .i64 pr, .slice fa bf.length fc] (by rfl) (by rfl) (World.news_of_block (cs := #[.string nm, .int .i64 pr, .slice fa bf.length fc]) (t := 76) (fr := (0, 0)) (heap_alloc_new w8 _)) (by intro u hu; simp at hu; rcases hu with rfl | rfl | rfl <;> rfl)
             (by omega) (by unfold maxLen; omega) (by omega) (by have := HSZ8.out; simp; omega) (w8.heap.size + 1) (by simp) ?_
           intro g cap w9 hown hgrow hat hltg
           have HB9 : Hid (Below w.heap.size w8 w9) := Lib.hid (app_low2 (base := w.heap.size) HSZ8.out HOW8.out hgrow)
           skip))
      all_goals
        have HO9 : Hid (OutS w.heap.size 76 3 w9 (Ls ++ [[.str nm, .int pr, .row 9 1 (.slice fa bf.length fc) (strs bf)]]) (.slice (some ⟨g, 0, none⟩) (i + 1) cap)) := Lib.hid (HO8.out.app (x := [.str nm, .int pr, .row 9 1 (.slice fa bf.length fc) (strs bf)]) (l1 := wr.heap.size) (v' := .slice (some ⟨g, 0, none⟩) (i + 1) cap) rfl HX.out.1 HBW.out.size (fun k hk => (HOUT.out.own.lt k hk).2) (by rw [HLL.out]; exact hown) hgrow (hat.elim (fun e => .inl e.symm) (fun e => .inr (by rw [e]; rfl))))
        have HB9W := Lib.hid ((HBW.out.trans (HB8.out.mono HBW.out.size)).trans HB9.out)
        have HWS9 : Hid (W.heap.size ≤ w9.heap.size) := Lib.hid (by have h1 := HB8.out.size; have h2 := HB9.out.size; omega)
        have HC9 : Hid ((∀ j, j < 16 → w9.cell? ⟨nb, no + j, none⟩ = some (.string (Builtin.names.getD j ByteArray.empty)) ∧ w9.cell? ⟨w1.heap.size, j, none⟩ = some (.int .i64 (bparents.getD j 0))) ∧ ∀ k, (Value.slice (some ⟨g, 0, none⟩) (i + 1) cap).ownBlock = some k → k = w.heap.size ∨ W.heap.size ≤ k) := Lib.hid ⟨fun j hj => by
          obtain ⟨h1, h2⟩ := HCEL.out.1 j hj
          have hne : ∀ x, x = nb ∨ x = w1.heap.size → some x ≠ (Value.slice va i vc).ownBlock := fun x hx e => by
            have h3 := HCEL.out.2 x e.symm
            have h4 := HNB.out
            have h5 := HWS.out
            omega
          have hal : ∀ b o v, w8.cell? ⟨b, o, none⟩ = some v → (w8.alloc (.cells #[.string nm, .int .i64 pr, .slice fa bf.length fc] 76)).cell? ⟨b, o, none⟩ = some v := fun b o v hc => cell_keep ((Below.refl _ _).alloc (Nat.le_refl _) _) hc
          exact ⟨hgrow.cell (hal _ _ _ (cell_keep HB8.out h1)) (hne _ (.inl rfl)), hgrow.cell (hal _ _ _ (cell_keep HB8.out h2)) (hne _ (.inr rfl))⟩, fun k hk => by
          have hk' : g = k := by simpa [Value.ownBlock] using hk
          subst hk'
          rcases hat with e | e
          · exact HCEL.out.2 _ e
          · have h1 := HB8.out.size
            right; omega⟩
        have hln : (Ls ++ [[D.str nm, D.int pr, D.row 9 1 (.slice fa bf.length fc) (strs bf)]]).length = i + 1 := by rw [List.length_append, HLL.out]; rfl
        have HLN := Lib.hid hln
        clear hown hgrow hat hltg hln q1 q2 hn hp e1 e2
        go_wp2_with fail
        go_roundw
        case rel =>
          refine ⟨i + 1, Ls ++ [[.str nm, .int pr, .row 9 1 (.slice fa bf.length fc) (strs bf)]], some ⟨g, 0, none⟩, cap, by omega, by go_num, rfl, HLN.out, HO9.out, ?_, ?_, HB9W.out, HWS9.out, HC9⟩
          · rw [List.flatten_append, erases_append, HER.out, HBT.out]
            simp only [List.flatten_cons, List.flatten_nil, List.append_nil, erases, erase, strs_erases]
            rfl
          · rw [List.flatten_append, Stricts.append]
            refine ⟨HST.out, ?_⟩
            simp only [List.flatten_cons, List.flatten_nil, List.append_nil, Stricts, Strict, and_true, true_and]
            exact ⟨⟨bf.length, by rw [strs_len, Nat.mul_one], HX.out.2⟩, stricts_iff.2 (fun d hd => by
              simp only [strs, List.mem_map] at hd
              obtain ⟨x, -, rfl⟩ := hd
              rw [Strict]; trivial)⟩
        case measure => simp [intOf]; omega
    · obtain rfl : i = 16 := by omega
      have HFIN : Hid (erases Ls.flatten = plainIs builtins) := Lib.hid (by rw [HER.out, List.take_of_length_le (by rw [builtins_len]; omega)])
      have hu := cell_keep HBW.out HU.out
      go_wp2_with fail
      go_loopw [3, 7] (fun s j wx => s = .slice va 16 vc ∧ j = .int .i64 0 ∧ wx = wr) (fun _ _ _ => 0)
      case atStart => exact ⟨rfl, rfl, rfl⟩
      case round =>
        obtain ⟨rfl, rfl, rfl⟩ := hrel
        go_wp2_with fail
        go_ret
        exact ⟨_, _, rfl, HFIN.out, Holds.keep (Nat.zero_le _) (fun _ _ _ _ hc => hc) _ (HOUT.out.holds (by decide) 0), HST.out, HBW.out⟩
end Go.Proofs.YtekeondbbikkpaaGreat.SpecCore
