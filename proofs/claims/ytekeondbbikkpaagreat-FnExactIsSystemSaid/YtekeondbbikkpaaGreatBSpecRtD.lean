/-
  spec.l8Right at kind 16, a block: its level is put behind the others.
-/
import Derived.Test.YtekeondbbikkpaaGreatBSpecRtB
import Derived.Maps.AppendAt
import Derived.Deep.DeepCutAuto
import Derived.Deep.CutRange
import Derived.Deep.RegionLaw
namespace Go.Proofs.YtekeondbbikkpaaGreat.SpecCore
open Go.RowKit
open Strs Tree Core Ints Go.Proofs.YtekeondbbikkpaaGreat.Data
set_option linter.unusedVariables false
theorem step_append_ints {w : World} {ops : Array Oper} {o : Oper} {a : Act} {K : Act → World → Prop} {Q : Exit → Act → World → Prop} {E : Prop} (hgd : o.guard = none) (s x : Operand)
    (ho : o.op = .call { callee := .builtin .append, args := #[s, x], argTypes := #[80, 80] })
    (base : Nat) (v : Value) (xs : List Int) (hs : a.eval s = v) (hown : w.ownsRow base 3 1 v xs.length (xs.map (Value.int .i64)))
    (b of c : Nat) (ys : List Int) (hx : a.eval x = .slice (some ⟨b, of, none⟩) ys.length c) (hy : ∀ j y, ys[j]? = some y → w.cell? ⟨b, of + j, none⟩ = some (.int .i64 y)) (hbytes : xs.length + ys.length ≤ 17592186044416) (hbase : base ≤ w.heap.size)
    (h : ∀ v' w', w'.ownsRow base 3 1 v' (xs ++ ys).length ((xs ++ ys).map (Value.int .i64)) → Below base w w' → w.grownBy w' v.ownBlock → K (a.put o.dst v') w') :
    if Region.wanted o (yielded ops a.tmps) = true then Oper.wp Tryz.prog o a w K Q else E := by
  have hw : Region.wanted o (yielded ops a.tmps) = true := by simp [Region.wanted, hgd]
  rw [if_pos hw]
  obtain ⟨i0, hi, hz0, hz1, hz2⟩ := info_parts infoN
  obtain ⟨v', w', hr, h2, h3, -⟩ := run_append_own_at (P := Tryz.prog) w base 80 o.type 3 i0 (.int .i64 0) 1 8 Tryz.underlying80 hi hz0 hz1 hz2 rfl (by decide) v xs.length (xs.map (Value.int .i64)) hown ⟨b, of, none⟩ ys.length c (ys.map (Value.int .i64)) (by simp) (fun j u hj => by
    have hl := (List.getElem?_eq_some_iff.1 hj).1
    have hv := (List.getElem?_eq_some_iff.1 hj).2
    rw [List.length_map] at hl
    rw [List.getElem_map] at hv
    rw [add_at, hy j _ (List.getElem?_eq_getElem hl), hv]) (fun u hu => by
    obtain ⟨y, _, rfl⟩ := List.mem_map.1 hu
    rfl) (by unfold maxLen; omega) (by omega) hbase
  unfold Oper.wp execOp
  simp only [ho, resolve, invoke, builtin, Sem.run_bind, Sem.run_pure, Result.andThen_ok, List.map_toArray, List.map_cons, List.map_nil, hs, hx, hr]
  exact h v' w' (by rw [List.length_append, List.map_append]; exact h2) ((Below.refl _ _).grown h3 hbase (fun k hk => (hown.lt k hk).1)) h3
theorem lit_own0 (w : World) (base : Nat) (h : base ≤ w.heap.size) : (w.alloc (.cells #[] 3)).ownsRow base 3 1 (.slice (some ⟨w.heap.size, 0, none⟩) 0 0) 0 [] :=
  World.ownsRow_lit (base := base) (e := 3) (size := 1) w #[] 0 h (Nat.zero_le _) (by simp)
set_option maxRecDepth 10000 in
set_option maxHeartbeats 16000000 in
theorem r16 (C : Nat) (L : Lv) (t : ByteArray) (n d : Int) (ks : List K) (w : World) (vs vp : Value) (a : Option Addr) (N cap : Nat) (hN : ks.length = N) (hm : N ≤ cap ∧ cap ≤ 9223372036854775807) (hS : NAt w vs (L.map (·.2))) (hP : NAt w vp (L.map (·.1))) (hL : LOk L) (hln : L.length ≤ 4194304) (hd30 : d ≤ 30)
    (KK : ∀ (w' : World) (vs' vp' : Value) (n' d' : Int) (N' : Nat), n' = n → d' = d → N' = N → (0 ≤ n ∧ n ≤ d) → NAt w' vs' ((L ++ [(n, d)]).map (·.2)) → NAt w' vp' ((L ++ [(n, d)]).map (·.1)) → Below w.heap.size w w' → Hid (Calls Tryz.prog 60 #[.agg #[.int .i64 16, .string t, .int .i64 n', .int .i64 d', .slice a N' cap], .int .i64 C, vs', vp'] w' fun r w'' => r = .returned (.bool (krights C (L ++ [(n, d)]) ks)) ∧ Below w'.heap.size w' w'')) :
    Calls Tryz.prog 35 #[.agg #[.int .i64 16, .string t, .int .i64 n, .int .i64 d, .slice a N cap], .int .i64 C, vs, vp] w fun r w' => r = .returned (.bool (kright C L (.mk 16 t n d ks))) ∧ Below w.heap.size w w' := by
  have HV : Hid (kright C L (.mk 16 t n d ks) = (ownB C L 16 t n d N && krights C (L ++ [(n, d)]) ks)) := Lib.hid (by rw [kright_mk, hN]; rfl)
  generalize kright C L (.mk 16 t n d ks) = R at *
  generalize krights C (L ++ [(n, d)]) ks = Q at *
  clear hN
  have HO : Hid (ownB C L 16 t n d N = (decide (t.toList = []) && (decide ((N : Int) = 1) && decide (0 ≤ n ∧ n ≤ d)))) := Lib.hid (own_16 C L t n d N)
  generalize ownB C L 16 t n d N = O at *
  have hpos := hL.pos
  obtain ⟨sa, sc, rfl, hsm, hsc⟩ := hS
  obtain ⟨pa, pc, rfl, hpm, hpc⟩ := hP
  obtain ⟨sb, so, rfl, hsd⟩ := hsc (by rw [List.length_map]; omega)
  obtain ⟨pb, po, rfl, hpd⟩ := hpc (by rw [List.length_map]; omega)
  have HSD := Lib.hid hsd
  have HPD := Lib.hid hpd
  have KK2 : ∀ (w' : World) (vs' vp' : Value) (n' d' : Int) (N' : Nat), n' = n → d' = d → N' = N → (0 ≤ n ∧ n ≤ d) → NAt w' vs' (L.map (·.2) ++ [d]) → NAt w' vp' (L.map (·.1) ++ [n]) → Below w.heap.size w w' → Hid (Calls Tryz.prog 60 #[.agg #[.int .i64 16, .string t, .int .i64 n', .int .i64 d', .slice a N' cap], .int .i64 C, vs', vp'] w' fun r w'' => r = .returned (.bool Q) ∧ Below w'.heap.size w' w'') :=
    fun w' vs' vp' n' d' N' h1 h2 h3 h4 h5 h6 h7 => KK w' vs' vp' n' d' N' h1 h2 h3 h4 (by rw [List.map_append]; exact h5) (by rw [List.map_append]; exact h6) h7
  have HLN : Hid ((L.map (·.2)).length + 1 ≤ 17592186044416 ∧ (L.map (·.1)).length + 1 ≤ 17592186044416) := Lib.hid (by rw [List.length_map, List.length_map]; omega)
  unfold maxLen at hsm hpm
  clear KK hsc hpc hsd hpd hL hln hpos
  generalize L.map (·.2) = XS at *
  generalize L.map (·.1) = XP at *
  have HA := Lib.hid (arg5_new w 16 t n d (.slice a N cap) 37)
  have KI1 := fun w1 => Lib.hid (SpecTree.in_any d 0 30 w1)
  have KI2 := fun w1 => Lib.hid (SpecTree.in_any n 0 d w1)
  generalize hb0 : (decide (0 ≤ d ∧ d ≤ 30) : Bool) = b0 at *
  have HB0 := Lib.hid hb0; clear hb0
  generalize hb1 : (decide (0 ≤ n ∧ n ≤ d) : Bool) = b1 at *
  have HB1 := Lib.hid hb1; clear hb1
  have HBB : Hid ((b1 && decide ((N : Int) = 1)) = true → b0 = true ∧ (0 ≤ n ∧ n ≤ d)) := Lib.hid (fun h => by
    rw [Bool.and_eq_true] at h
    have h1 := HB1.out
    rw [h.1] at h1
    have h2 := of_decide_eq_true h1
    exact ⟨by rw [← HB0.out]; exact decide_eq_true (by omega), h2⟩)
  have HO2 : Hid (O = (decide (t.toList = []) && (b1 && decide ((N : Int) = 1)))) := Lib.hid (by rw [HO.out, Bool.and_comm b1])
  clear HO HB0 HB1
  go_enter Tryz.func35, Tryz.ntmps35
  go_wp2_with fail
  go_quiet (fail)
  have AR := Lib.hid (HA.out.step (draws_low _ nq))
  obtain ⟨wq, hwq⟩ : ∃ x, x = (w.alloc (Obj.cells #[Value.int IntKind.i64 16, Value.string t, Value.int IntKind.i64 n, Value.int IntKind.i64 d, .slice a N cap] 37)).drewN nq := ⟨_, rfl⟩
  rw [← hwq] at AR ⊢
  clear hwq
  have a0 := AR.out.a0; have a1 := AR.out.a1; have a2 := AR.out.a2; have a3 := AR.out.a3; have a4 := AR.out.a4
  go_wp2_with fail
  refine (KI1 _).out.mono ?_
  rintro e w1 ⟨rfl, rfl⟩
  go_upto_region 41 with fail
  go_cut [11] from 248 to 256 (fun v wx => v = .bool (b1 && decide ((N : Int) = 1)) ∧ Arg5 w 16 t n d (.slice a N cap) wx)
  case first =>
    cases b1
    all_goals
      go_wp2_with fail
      refine (KI2 _).out.mono ?_
      rintro e w1 ⟨rfl, rfl⟩
      go_wp2_with fail
      go_meet
      exact ⟨by congr 1, AR.out⟩
  case rest =>
  obtain ⟨rfl, har⟩ := hcut
  clear AR a0 a1 a2 a3 a4 KI1 KI2
  have AR := Lib.hid har
  clear har
  generalize (b1 && decide ((N : Int) = 1)) = B11 at *
  go_upto_region 42 with fail
  go_cut [2] from 257 to 263 (fun v wx => ∃ va vc, v = .slice va (XS.length + 1) vc ∧ NAt wx (.slice va (XS.length + 1) vc) (XS ++ [d]) ∧ Arg5 w 16 t n d (.slice a N cap) wx)
  case first =>
    have HQS : Hid (Below wc.heap.size wc ((wc.alloc (.cells #[] 3)).drew)) := Lib.hid (((Below.refl wc.heap.size wc).alloc (Nat.le_refl _) (.cells #[] 3)).drew)
    have HRS : Hid (Below wc.heap.size wc (((wc.alloc (.cells #[] 3)).alloc (.cells #[.int .i64 d] 3)).drew)) := Lib.hid ((((Below.refl wc.heap.size wc).alloc (Nat.le_refl _) (.cells #[] 3)).alloc (by simp) (.cells #[.int .i64 d] 3)).drew)
    have HCS := Lib.hid (AR.out.below.trans (HQS.out.mono AR.out.below.size))
    have HDS := Lib.hid (AR.out.below.trans (HRS.out.mono AR.out.below.size))
    have gS := cell_keep HQS.out AR.out.a3
    have HTS : Hid (Below wc.heap.size wc (((wc.alloc (.cells #[.int .i64 d] 3)).alloc (.cells #[] 3)).drew)) := Lib.hid ((((Below.refl wc.heap.size wc).alloc (Nat.le_refl _) (.cells #[.int .i64 d] 3)).alloc (by simp) (.cells #[] 3)).drew)
    have HES := Lib.hid (AR.out.below.trans (HTS.out.mono AR.out.below.size))
    have HMS : Hid (((wc.alloc (.cells #[.int .i64 d] 3)).alloc (.cells #[] 3)).drew.cell? ⟨wc.heap.size, 0, none⟩ = some (.int .i64 d)) := Lib.hid (by go_simp)
    have HWS : Hid (((wc.alloc (.cells #[.int .i64 d] 3)).alloc (.cells #[] 3)).drew.ownsRow wc.heap.size 3 1 (.slice (some ⟨wc.heap.size + 1, 0, none⟩) 0 0) 0 []) := Lib.hid (by
      have h := lit_own0 (wc.alloc (.cells #[.int .i64 d] 3)) wc.heap.size (by simp)
      rw [show (wc.alloc (.cells #[.int .i64 d] 3)).heap.size = wc.heap.size + 1 by simp] at h
      exact own_keep h ((Below.refl _ _).drew))
    have HLS : Hid (((wc.alloc (.cells #[] 3)).alloc (.cells #[.int .i64 d] 3)).drew.cell? ⟨wc.heap.size + 1, 0, none⟩ = some (.int .i64 d)) := Lib.hid (by go_simp)
    have a3 := AR.out.a3
    go_region_law (first
      | (refine step_append_ints rfl _ _ rfl wc.heap.size _ [] rfl (own_keep (lit_own0 wc _ (Nat.le_refl _)) ((Below.refl _ _).drew)) sb so sc XS rfl (fun j y hj => cell_keep HCS.out (HSD.out j y hj)) (by have := HLN.out; simp; omega) (by simp) ?_
         intro vAS wAS hoA hbA hgA
         rw [List.nil_append] at hoA
         have HOAS := Lib.hid hoA
         have HBS := Lib.hid (HQS.out.trans hbA)
         have gS2 := cell_keep HBS.out AR.out.a3
         clear hoA hbA hgA)
      | (refine step_append_ints rfl _ _ rfl wc.heap.size _ [] rfl (own_keep (lit_own0 wc _ (Nat.le_refl _)) (((Below.refl _ _).alloc (Nat.le_refl _) _).drew)) sb so sc XS rfl (fun j y hj => cell_keep HDS.out (HSD.out j y hj)) (by have := HLN.out; simp; omega) (by simp; omega) ?_
         intro vAS wAS hoA hbA hgA
         rw [List.nil_append] at hoA
         have HOAS := Lib.hid hoA
         have HBS := Lib.hid (HRS.out.trans hbA)
         have gS2 := hgA.cell HLS.out (fun e => by
           have e2 : some (wc.heap.size + 1) = some wc.heap.size := e
           simp at e2)
         have HGS := Lib.hid gS2
         clear hoA hbA hgA)
      | (refine step_append_ints rfl _ _ rfl wc.heap.size _ [] rfl HWS.out sb so sc XS rfl (fun j y hj => cell_keep HES.out (HSD.out j y hj)) (by have := HLN.out; simp; omega) (by simp; omega) ?_
         intro vAS wAS hoA hbA hgA
         rw [List.nil_append] at hoA
         have HOAS := Lib.hid hoA
         have HBS := Lib.hid (HTS.out.trans hbA)
         have gS2 := hgA.cell HMS.out (fun e => by
           have e2 : some wc.heap.size = some (wc.heap.size + 1) := e
           simp at e2)
         have HGS := Lib.hid gS2
         clear hoA hbA hgA)
      | (refine step_append_ints rfl _ _ rfl wc.heap.size vAS XS rfl (own_keep HOAS.out ((Below.refl _ _).alloc (Nat.le_refl _) _)) wAS.heap.size 0 1 [d] rfl (fun j y hj => by
           match j, hj with
           | 0, hj => cases hj; go_simp) (by have := HLN.out; simp; omega) (by have := HBS.out.size; simp; omega) ?_
         intro vBS wBS hoB hbB hgB
         have HOBS := Lib.hid (nat_own hoB)
         replace AR := Lib.hid (AR.out.step ((HBS.out.alloc HBS.out.size _).trans hbB))
         clear hoB hbB hgB gS gS2)
      | (refine step_append_ints rfl _ _ rfl wc.heap.size vAS XS rfl HOAS.out (wc.heap.size + 1) 0 1 [d] rfl (fun j y hj => by
           match j, hj with
           | 0, hj => cases hj; exact HGS.out) (by have := HLN.out; simp; omega) HBS.out.size ?_
         intro vBS wBS hoB hbB hgB
         have HOBS := Lib.hid (nat_own hoB)
         replace AR := Lib.hid (AR.out.step (HBS.out.trans hbB))
         clear hoB hbB hgB gS gS2)
      | (refine step_append_ints rfl _ _ rfl wc.heap.size vAS XS rfl HOAS.out wc.heap.size 0 1 [d] rfl (fun j y hj => by
           match j, hj with
           | 0, hj => cases hj; exact HGS.out) (by have := HLN.out; simp; omega) HBS.out.size ?_
         intro vBS wBS hoB hbB hgB
         have HOBS := Lib.hid (nat_own hoB)
         replace AR := Lib.hid (AR.out.step (HBS.out.trans hbB))
         clear hoB hbB hgB gS gS2))
    all_goals
      have hnn := HOBS.out
      obtain ⟨va, vc, rfl, -, -⟩ := id hnn
      rw [show (XS ++ [d]).length = XS.length + 1 by simp] at hnn ⊢
      go_wp2_with fail
      go_meet
      exact ⟨va, vc, rfl, hnn, AR.out⟩
  case rest =>
    obtain ⟨va, vc, rfl, hnn, har⟩ := hcut
    clear AR
    have AR := Lib.hid har
    have HNS := Lib.hid hnn
    clear har hnn
    go_upto_region 43 with fail
    have HQP : Hid (Below wc.heap.size wc ((wc.alloc (.cells #[] 3)).drew)) := Lib.hid (((Below.refl wc.heap.size wc).alloc (Nat.le_refl _) (.cells #[] 3)).drew)
    have HRP : Hid (Below wc.heap.size wc (((wc.alloc (.cells #[] 3)).alloc (.cells #[.int .i64 n] 3)).drew)) := Lib.hid ((((Below.refl wc.heap.size wc).alloc (Nat.le_refl _) (.cells #[] 3)).alloc (by simp) (.cells #[.int .i64 n] 3)).drew)
    have HCP := Lib.hid (AR.out.below.trans (HQP.out.mono AR.out.below.size))
    have HDP := Lib.hid (AR.out.below.trans (HRP.out.mono AR.out.below.size))
    have gP := cell_keep HQP.out AR.out.a2
    have HTP : Hid (Below wc.heap.size wc (((wc.alloc (.cells #[.int .i64 n] 3)).alloc (.cells #[] 3)).drew)) := Lib.hid ((((Below.refl wc.heap.size wc).alloc (Nat.le_refl _) (.cells #[.int .i64 n] 3)).alloc (by simp) (.cells #[] 3)).drew)
    have HEP := Lib.hid (AR.out.below.trans (HTP.out.mono AR.out.below.size))
    have HMP : Hid (((wc.alloc (.cells #[.int .i64 n] 3)).alloc (.cells #[] 3)).drew.cell? ⟨wc.heap.size, 0, none⟩ = some (.int .i64 n)) := Lib.hid (by go_simp)
    have HWP : Hid (((wc.alloc (.cells #[.int .i64 n] 3)).alloc (.cells #[] 3)).drew.ownsRow wc.heap.size 3 1 (.slice (some ⟨wc.heap.size + 1, 0, none⟩) 0 0) 0 []) := Lib.hid (by
      have h := lit_own0 (wc.alloc (.cells #[.int .i64 n] 3)) wc.heap.size (by simp)
      rw [show (wc.alloc (.cells #[.int .i64 n] 3)).heap.size = wc.heap.size + 1 by simp] at h
      exact own_keep h ((Below.refl _ _).drew))
    have HLP : Hid (((wc.alloc (.cells #[] 3)).alloc (.cells #[.int .i64 n] 3)).drew.cell? ⟨wc.heap.size + 1, 0, none⟩ = some (.int .i64 n)) := Lib.hid (by go_simp)
    have a2 := AR.out.a2
    go_region_law (first
      | (refine step_append_ints rfl _ _ rfl wc.heap.size _ [] rfl (own_keep (lit_own0 wc _ (Nat.le_refl _)) ((Below.refl _ _).drew)) pb po pc XP rfl (fun j y hj => cell_keep HCP.out (HPD.out j y hj)) (by have := HLN.out; simp; omega) (by simp) ?_
         intro vAP wAP hoA hbA hgA
         rw [List.nil_append] at hoA
         have HOAP := Lib.hid hoA
         have HBP := Lib.hid (HQP.out.trans hbA)
         have gP2 := cell_keep HBP.out AR.out.a2
         clear hoA hbA hgA)
      | (refine step_append_ints rfl _ _ rfl wc.heap.size _ [] rfl (own_keep (lit_own0 wc _ (Nat.le_refl _)) (((Below.refl _ _).alloc (Nat.le_refl _) _).drew)) pb po pc XP rfl (fun j y hj => cell_keep HDP.out (HPD.out j y hj)) (by have := HLN.out; simp; omega) (by simp; omega) ?_
         intro vAP wAP hoA hbA hgA
         rw [List.nil_append] at hoA
         have HOAP := Lib.hid hoA
         have HBP := Lib.hid (HRP.out.trans hbA)
         have gP2 := hgA.cell HLP.out (fun e => by
             have e2 : some (wc.heap.size + 1) = some wc.heap.size := e
             simp at e2)
         have HGP := Lib.hid gP2
         clear hoA hbA hgA)
      | (refine step_append_ints rfl _ _ rfl wc.heap.size _ [] rfl HWP.out pb po pc XP rfl (fun j y hj => cell_keep HEP.out (HPD.out j y hj)) (by have := HLN.out; simp; omega) (by simp; omega) ?_
         intro vAP wAP hoA hbA hgA
         rw [List.nil_append] at hoA
         have HOAP := Lib.hid hoA
         have HBP := Lib.hid (HTP.out.trans hbA)
         have gP2 := hgA.cell HMP.out (fun e => by
           have e2 : some wc.heap.size = some (wc.heap.size + 1) := e
           simp at e2)
         have HGP := Lib.hid gP2
         clear hoA hbA hgA)
      | (refine step_append_ints rfl _ _ rfl wc.heap.size vAP XP rfl (own_keep HOAP.out ((Below.refl _ _).alloc (Nat.le_refl _) _)) wAP.heap.size 0 1 [n] rfl (fun j y hj => by
           match j, hj with
           | 0, hj => cases hj; go_simp) (by have := HLN.out; simp; omega) (by have := HBP.out.size; simp; omega) ?_
         intro vBP wBP hoB hbB hgB
         have HOBP := Lib.hid (nat_own hoB)
         have HSP : Hid (Below wc.heap.size wc wBP) := Lib.hid ((HBP.out.alloc HBP.out.size _).trans hbB)
         replace AR := Lib.hid (AR.out.step HSP.out)
         clear hoB hbB hgB gP gP2)
      | (refine step_append_ints rfl _ _ rfl wc.heap.size vAP XP rfl HOAP.out (wc.heap.size + 1) 0 1 [n] rfl (fun j y hj => by
           match j, hj with
           | 0, hj => cases hj; exact HGP.out) (by have := HLN.out; simp; omega) HBP.out.size ?_
         intro vBP wBP hoB hbB hgB
         have HOBP := Lib.hid (nat_own hoB)
         have HSP : Hid (Below wc.heap.size wc wBP) := Lib.hid (HBP.out.trans hbB)
         replace AR := Lib.hid (AR.out.step HSP.out)
         clear hoB hbB hgB gP gP2)
      | (refine step_append_ints rfl _ _ rfl wc.heap.size vAP XP rfl HOAP.out wc.heap.size 0 1 [n] rfl (fun j y hj => by
           match j, hj with
           | 0, hj => cases hj; exact HGP.out) (by have := HLN.out; simp; omega) HBP.out.size ?_
         intro vBP wBP hoB hbB hgB
         have HOBP := Lib.hid (nat_own hoB)
         have HSP : Hid (Below wc.heap.size wc wBP) := Lib.hid (HBP.out.trans hbB)
         replace AR := Lib.hid (AR.out.step HSP.out)
         clear hoB hbB hgB gP gP2))
    all_goals
      have hnp := HOBP.out
      replace HNS := Lib.hid (HNS.out.below HSP.out)
      have a0 := AR.out.a0; have a1 := AR.out.a1; have a2 := AR.out.a2; have a3 := AR.out.a3; have a4 := AR.out.a4
      obtain ⟨ua, uc, rfl, -, -⟩ := id hnp
      rw [show (XP ++ [n]).length = XP.length + 1 by simp] at hnp
      have HNP := Lib.hid hnp
      clear hnp HOBP
      cases B11 with
      | false =>
        have HRF : Hid (R = false) := Lib.hid (by rw [HV.out, HO2.out]; simp)
        clear HBB HV HO2 KK2
        go_wp2_with fail
        all_goals
          go_ret
          exact ⟨by rw [HRF.out]; rfl, AR.out.below⟩
      | true =>
        have hbb := HBB.out (by first | rfl | trivial)
        obtain ⟨rfl, hnd⟩ := hbb
        have HND := Lib.hid hnd
        clear HBB hnd
        have HOT : Hid (R = (decide (t.toList = []) && Q)) := Lib.hid (by rw [HV.out, HO2.out]; simp)
        clear HV HO2
        go_wp2_with fail
        all_goals first
          | (refine (KK2 _ _ _ _ _ _ rfl rfl rfl HND.out HNS.out HNP.out AR.out.below).out.mono ?_
             rintro e w9 ⟨rfl, hb9⟩
             have H9 := Lib.hid (AR.out.below.trans (hb9.mono AR.out.below.size))
             clear hb9
             go_wp2_with fail
             go_ret
             exact ⟨by rw [HOT.out]; simp [*], H9.out⟩)
          | (go_ret
             exact ⟨by rw [HOT.out]; simp [*], AR.out.below⟩)
end Go.Proofs.YtekeondbbikkpaaGreat.SpecCore
