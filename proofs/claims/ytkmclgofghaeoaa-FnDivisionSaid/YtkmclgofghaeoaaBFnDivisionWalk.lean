/-
  The walk of laws.FnDivision: it returns true at every code.
-/
import Derived.Test.YtkmclgofghaeoaaBBasAns
import Derived.Test.YtkmclgofghaeoaaBDrawMsg
import Derived.Test.YtkmclgofghaeoaaBImplBas
import Derived.Test.YtkmclgofghaeoaaBTail
import Derived.OpenShut
namespace Go.Proofs.Ytkmclgofghaeoaa.fnDivisionW
open Go.RowKit
open Strs Sto Bas SpecBas BasAns Tail Go.Proofs.Ytkmclgofghaeoaa.Data
set_option linter.unusedVariables false
theorem vs_one (w : World) (x : V) (T : TypeId) (hk : (Lit.int .i64 x.kind).wf = true) (hn : (Lit.int .i64 x.num).wf = true) (ht : x.text.size ≤ maxLen) : VsAt 0 (w.alloc (.cells #[.int .i64 x.kind, .int .i64 x.num, .string x.text] T)) (.slice (some ⟨w.heap.size, 0, none⟩) 1 1) [x] := by
  refine ⟨_, 1, rfl, ⟨by simp, by unfold maxLen; omega⟩, fun _ => ⟨w.heap.size, 0, rfl, Nat.zero_le _, fun i y hi => ?_⟩⟩
  match i, hi with
  | 0, hi =>
    simp at hi
    subst hi
    exact ⟨by go_simp, by go_simp, by go_simp, hk, hn, ht⟩
theorem field_code (c k n : Int) (t x : ByteArray) (w : World) : (Instr.field 31 (.agg #[.int .i64 c, .int .i64 k, .int .i64 n, .string t, .string x]) 0).run Try.prog w = .ok (.int .i64 c) w := by kernel_rfl
theorem kind_wf {x : V} (h : valB x = true) : (Lit.int .i64 x.kind).wf = true := by
  have := val_kind h
  rcases this with e | e | e | e | e | e | e | e <;> rw [e] <;> decide
theorem sq_lt {r b : Int} (h : r.natAbs < b.natAbs) : r * r < b * b := by
  have h1 : (r * r).natAbs = r.natAbs * r.natAbs := Int.natAbs_mul r r
  have h2 : (b * b).natAbs = b.natAbs * b.natAbs := Int.natAbs_mul b b
  have h3 : r.natAbs * r.natAbs < b.natAbs * b.natAbs := Nat.mul_self_lt_mul_self h
  have h4 : 0 ≤ r * r := by rw [← Int.natAbs_mul_self]; omega
  have h5 : 0 ≤ b * b := by rw [← Int.natAbs_mul_self]; omega
  omega
set_option maxRecDepth 10000 in
set_option maxHeartbeats 16000000 in
theorem walk (w : World) (a : Option Addr) (len cap : Nat) (zs : List Int) (hz : Kit.IsRow .u8 w a len cap zs) :
    Calls Try.prog 3 #[.slice a len cap] w fun e w' => e = .returned (.bool true) ∧ Below w.heap.size w w' := by
  have hm : len ≤ cap ∧ cap ≤ maxLen := by
    rcases hz with ⟨_, rfl, rfl, _⟩ | ⟨x, _, hl, hm, _⟩
    · exact ⟨Nat.le_refl _, Nat.zero_le _⟩
    · exact ⟨by omega, by omega⟩
  have HR := Lib.hid (Draw.raw_of hz)
  clear hz
  obtain ⟨hcap, hm⟩ := hm
  by_cases hbig : (1048576 : Int) < (len : Int)
  · unfold maxLen at hm
    go_enter Try.func3, Try.ntmps3
    go_wp2
    go_ret
    exact ⟨rfl, Below.refl _ _⟩
  have hlen : len ≤ 1048576 := by omega
  have KT := fun (w' : World) (hb : Below w.heap.size w w') => Lib.hid (tail_any a len cap w' hlen hcap hm (HR.out.keep hb))
  unfold Rest at KT
  unfold maxLen at hm
  go_enter Try.func3, Try.ntmps3
  go_wp2_with (first | (go_at_call 5; go_in) | fail)
  refine (DrawVal.msg_any a len cap w hlen HR.out).mono ?_
  rintro e w1 ⟨v, s1, u1, hv, hvs, rfl, hb1⟩
  have HB1 := Lib.hid hb1
  have HV := Lib.hid (And.intro hv hvs)
  clear hb1 hv hvs
  obtain ⟨W2, hW2⟩ : ∃ W2, w1.alloc (.cells #[.int .i64 v.kind, .int .i64 v.num, .string v.text] 25) = W2 := ⟨_, rfl⟩
  have hb2 : Below w1.heap.size w1 W2 := by subst hW2; exact (Below.refl _ _).alloc (Nat.le_refl _) _
  have HB2 := Lib.hid (HB1.out.trans (hb2.mono HB1.out.size))
  have VX2 : Hid (VB w1.heap.size v W2) := Lib.hid (by subst hW2; exact vb_new _ _ _)
  have HW2 := Lib.hid hW2
  clear hb2 hW2
  obtain ⟨vb, hvb⟩ : ∃ vb, w1.heap.size = vb := ⟨_, rfl⟩
  have HVB := Lib.hid hvb
  rw [hvb] at VX2
  clear hvb
  go_upto_region 4 with fail
  rw [HW2.out, HVB.out]
  clear HW2 HVB HB1
  go_wp2_with fail
  refine (KT _ HB2.out).out.mono ?_
  rintro e w3 ⟨a', len', cap', rfl, hl', hr', rfl⟩
  have KD := Lib.hid (DrawVal.msg_any a' len' cap' W2 (by omega) hr')
  clear KT hr' HR
  go_wp2_with fail
  refine KD.out.mono ?_
  rintro e w3 ⟨x, s3, u3, hx, hxs, rfl, hb3⟩
  have HB3 := Lib.hid (HB2.out.trans (hb3.mono HB2.out.size))
  have VX3 := Lib.hid (VX2.out.step hb3)
  have HX := Lib.hid (And.intro hx hxs)
  clear hb3 hx hxs KD VX2 HB2
  obtain ⟨W4, hW4⟩ : ∃ W4, w3.alloc (.cells #[.int .i64 x.kind, .int .i64 x.num, .string x.text] 25) = W4 := ⟨_, rfl⟩
  have hb4 : Below w3.heap.size w3 W4 := by subst hW4; exact (Below.refl _ _).alloc (Nat.le_refl _) _
  have HB4 := Lib.hid (HB3.out.trans (hb4.mono HB3.out.size))
  have VX4 := Lib.hid (VX3.out.step hb4)
  have UX4 : Hid (VB w3.heap.size x W4) := Lib.hid (by subst hW4; exact vb_new _ _ _)
  have HW4 := Lib.hid hW4
  clear hb4 hW4
  obtain ⟨ub, hub⟩ : ∃ ub, w3.heap.size = ub := ⟨_, rfl⟩
  have HUB := Lib.hid hub
  rw [hub] at UX4
  clear hub
  go_upto_region 5 with fail
  rw [HW4.out, HUB.out]
  clear HW4 HUB HB3 VX3
  have hb5 : ∀ w' : World, Below w'.heap.size w' (w'.alloc (.cells #[.int .i64 x.kind, .int .i64 x.num, .string x.text] 25)) := fun w' => (Below.refl _ _).alloc (Nat.le_refl _) _
  have HS5 := fun w' => Lib.hid (vs_one w' x 25 (kind_wf HX.out.1) HX.out.2.2 (by have := HX.out.2.1; unfold maxLen; omega))
  have HQ := Lib.hid (fun (sel : ByteArray) (s : Value) (w' : World) (hs : VsAt 0 w' s [x]) (hl : sel.size ≤ 1048576) => ImplBas.msg_any v sel [x] s 0 w' hs (by have := HV.out.2.1; omega) (fun y hy => by rw [List.mem_singleton.1 hy]; have := HX.out.2.1; omega) hl)
  obtain ⟨v0, v1, v2⟩ := VX4.out
  obtain ⟨u0, u1', u2⟩ := UX4.out
  by_cases hboth : v.kind = 2 ∧ x.kind = 2
  case neg =>
    have hno := plus_no (v := v) (x := x) hboth
    generalize hr : answer v ⟨#[43]⟩ [x] = r at *
    have HNO : Hid ((r.code != 0) = true) := Lib.hid (by rcases hno with e | e <;> rw [e] <;> rfl)
    have K := Lib.hid (HQ.out ⟨#[43]⟩ _ _ (HS5 W4).out (by decide))
    rw [hr] at K
    have HB5 := Lib.hid (HB4.out.trans ((hb5 W4).mono HB4.out.size))
    have hcases : ((v.kind != 2) = true) ∨ ((v.kind != 2) = false ∧ (x.kind != 2) = true) := by
      by_cases hk : v.kind = 2
      · exact .inr ⟨(SpecBas.eq_yes hk).2, (SpecBas.eq_no (fun h => hboth ⟨hk, h⟩)).2⟩
      · exact .inl (SpecBas.eq_no hk).2
    clear hno hr hboth HQ HS5 hb5 VX4 UX4
    rcases hcases with z | ⟨z, z'⟩
    all_goals
      go_wp2_with fail
      refine K.out.mono ?_
      rintro e w6 ⟨rfl, hb6⟩
      have HB6 := Lib.hid (HB5.out.trans (hb6.mono HB5.out.size))
      have z9 := HNO.out
      have hfd := field_code
      clear hb6 K HNO
      unfold R.val
      go_wp2_with fail
      go_ret
      exact ⟨rfl, HB6.out⟩
  obtain ⟨hk1, hk2⟩ := hboth
  have AQ := Lib.hid (a_quot HV.out.1 HX.out.1 hk1 hk2)
  have AD := Lib.hid (a_rest HV.out.1 HX.out.1 hk1 hk2)
  have AL := Lib.hid (a_lt HV.out.1 HX.out.1 hk1 hk2)
  have AM := Lib.hid (a_ge HV.out.1 HX.out.1 hk1 hk2)
  have AX := Lib.hid (a_max HV.out.1 HX.out.1 hk1 hk2)
  have AN := Lib.hid (a_min HV.out.1 HX.out.1 hk1 hk2)
  have NV := Lib.hid (val_num HV.out.1 hk1)
  have NX := Lib.hid (val_num HX.out.1 hk2)
  have z := (SpecBas.eq_yes hk1).2
  have z' := (SpecBas.eq_yes hk2).2
  have HS7 := HS5 W4
  have HB7 := Lib.hid (HB4.out.trans ((hb5 W4).mono HB4.out.size))
  have VX7 := Lib.hid (VX4.out.step (hb5 W4))
  have UX7 := Lib.hid (UX4.out.step (hb5 W4))
  obtain ⟨W7, hW7⟩ : ∃ W7, W4.alloc (.cells #[.int .i64 x.kind, .int .i64 x.num, .string x.text] 25) = W7 := ⟨_, rfl⟩
  rw [hW7] at HS7 HB7 VX7 UX7
  have HW7 := Lib.hid hW7
  obtain ⟨sv, hsv⟩ : ∃ sv, Value.slice (some ⟨W4.heap.size, 0, none⟩) 1 1 = sv := ⟨_, rfl⟩
  rw [hsv] at HS7
  have HSV := Lib.hid hsv
  clear HS5 hb5 VX4 UX4 HB4 hk1 hk2 hW7 hsv
  go_upto_region 8 with fail
  rw [HW7.out, HSV.out]
  clear HW7 HSV v0 v1 v2 u0 u1' u2
  obtain ⟨v0, v1, v2⟩ := VX7.out
  obtain ⟨u0, u1', u2⟩ := UX7.out
  have K := Lib.hid (HQ.out ⟨#[47, 47]⟩ _ _ HS7.out (by decide))
  rw [AQ.out] at K
  generalize hrQ : (if x.num = 0 then zeroR else doneR (intV (quotI v.num x.num))) = rQ at K
  unfold R.val at K
  go_wp2_with fail
  refine K.out.mono ?_
  rintro e w8 ⟨rfl, hb⟩
  have hc : Below w8.heap.size w8 (w8.alloc (.cells #[.int .i64 rQ.code, .int .i64 rQ.kind, .int .i64 rQ.num, .string rQ.text, .string rQ.txt] 31)) := (Below.refl _ _).alloc (Nat.le_refl _) _
  have HB9 := Lib.hid ((HB7.out.trans (hb.mono HB7.out.size)).trans (hc.mono (HB7.out.trans (hb.mono HB7.out.size)).size))
  have VX9 := Lib.hid ((VX7.out.step hb).step hc)
  have UX9 := Lib.hid ((UX7.out.step hb).step hc)
  have HS9 := Lib.hid ((HS7.out.below hb).below hc)
  have RQ := Lib.hid (rc_new w8 rQ 31)
  have HRQ := Lib.hid hrQ
  obtain ⟨W9, hW9⟩ : ∃ W9, w8.alloc (.cells #[.int .i64 rQ.code, .int .i64 rQ.kind, .int .i64 rQ.num, .string rQ.text, .string rQ.txt] 31) = W9 := ⟨_, rfl⟩
  have HW9 := Lib.hid hW9
  obtain ⟨gQ, hgQ⟩ : ∃ g, w8.heap.size = g := ⟨_, rfl⟩
  have HGQ := Lib.hid hgQ
  rw [hW9] at HB9 VX9 UX9 HS9 RQ
  rw [hgQ] at RQ
  clear hb hc K HB7 VX7 UX7 HS7 v0 v1 v2 u0 u1' u2 hrQ hW9 hgQ
  go_upto_region 9 with fail
  rw [HW9.out, HGQ.out]
  clear HW9 HGQ
  obtain ⟨v0, v1, v2⟩ := VX9.out
  obtain ⟨u0, u1', u2⟩ := UX9.out
  have K := Lib.hid (HQ.out ⟨#[92, 92]⟩ _ _ HS9.out (by decide))
  rw [AD.out] at K
  generalize hrD : (if x.num = 0 then zeroR else doneR (intV (restI v.num x.num))) = rD at K
  unfold R.val at K
  go_wp2_with fail
  refine K.out.mono ?_
  rintro e w10 ⟨rfl, hb⟩
  have hc : Below w10.heap.size w10 (w10.alloc (.cells #[.int .i64 rD.code, .int .i64 rD.kind, .int .i64 rD.num, .string rD.text, .string rD.txt] 31)) := (Below.refl _ _).alloc (Nat.le_refl _) _
  have HB11 := Lib.hid ((HB9.out.trans (hb.mono HB9.out.size)).trans (hc.mono (HB9.out.trans (hb.mono HB9.out.size)).size))
  have VX11 := Lib.hid ((VX9.out.step hb).step hc)
  have UX11 := Lib.hid ((UX9.out.step hb).step hc)
  have HS11 := Lib.hid ((HS9.out.below hb).below hc)
  have RD := Lib.hid (rc_new w10 rD 31)
  have RQ := Lib.hid ((RQ.out.step hb).step hc)
  have HRD := Lib.hid hrD
  obtain ⟨W11, hW11⟩ : ∃ W11, w10.alloc (.cells #[.int .i64 rD.code, .int .i64 rD.kind, .int .i64 rD.num, .string rD.text, .string rD.txt] 31) = W11 := ⟨_, rfl⟩
  have HW11 := Lib.hid hW11
  obtain ⟨gD, hgD⟩ : ∃ g, w10.heap.size = g := ⟨_, rfl⟩
  have HGD := Lib.hid hgD
  rw [hW11] at HB11 VX11 UX11 HS11 RD RQ
  rw [hgD] at RD
  clear hb hc K HB9 VX9 UX9 HS9 v0 v1 v2 u0 u1' u2 hrD hW11 hgD
  go_upto_region 10 with fail
  rw [HW11.out, HGD.out]
  clear HW11 HGD
  by_cases hx0 : x.num = 0
  · have hq := HRQ.out
    have ht := HRD.out
    rw [if_pos hx0] at hq ht
    have zz := (SpecBas.eq_yes hx0).1
    obtain ⟨q0, -, -, -, -⟩ := RQ.out
    obtain ⟨t0, -, -, -, -⟩ := RD.out
    rw [← hq] at q0
    rw [← ht] at t0
    rw [show zeroR.code = 3 from rfl] at q0 t0
    obtain ⟨u0, u1', u2⟩ := UX11.out
    clear hx0 hq ht AQ AD AL AM AX AN HQ
    go_wp2_with fail
    go_ret
    exact ⟨rfl, HB11.out⟩
  have zz := (SpecBas.eq_no hx0).1
  have HX0 := Lib.hid hx0
  have HQ0 := Lib.hid (HRQ.out)
  rw [if_neg hx0] at HQ0
  have HT0 := Lib.hid (HRD.out)
  rw [if_neg hx0] at HT0
  obtain ⟨u0, u1', u2⟩ := UX11.out
  clear hx0 HRQ HRD
  go_upto_region 12 with fail
  clear u0 u1' u2
  obtain ⟨v0, v1, v2⟩ := VX11.out
  obtain ⟨u0, u1', u2⟩ := UX11.out
  have K := Lib.hid (HQ.out ⟨#[60]⟩ _ _ HS11.out (by decide))
  rw [AL.out] at K
  generalize hrL : (doneR (boolV (decide (v.num < x.num)))) = rL at K
  unfold R.val at K
  go_wp2_with fail
  refine K.out.mono ?_
  rintro e w12 ⟨rfl, hb⟩
  have hc : Below w12.heap.size w12 (w12.alloc (.cells #[.int .i64 rL.code, .int .i64 rL.kind, .int .i64 rL.num, .string rL.text, .string rL.txt] 31)) := (Below.refl _ _).alloc (Nat.le_refl _) _
  have HB13 := Lib.hid ((HB11.out.trans (hb.mono HB11.out.size)).trans (hc.mono (HB11.out.trans (hb.mono HB11.out.size)).size))
  have VX13 := Lib.hid ((VX11.out.step hb).step hc)
  have UX13 := Lib.hid ((UX11.out.step hb).step hc)
  have HS13 := Lib.hid ((HS11.out.below hb).below hc)
  have RL := Lib.hid (rc_new w12 rL 31)
  have RQ := Lib.hid ((RQ.out.step hb).step hc)
  have RD := Lib.hid ((RD.out.step hb).step hc)
  have HRL := Lib.hid hrL
  obtain ⟨W13, hW13⟩ : ∃ W13, w12.alloc (.cells #[.int .i64 rL.code, .int .i64 rL.kind, .int .i64 rL.num, .string rL.text, .string rL.txt] 31) = W13 := ⟨_, rfl⟩
  have HW13 := Lib.hid hW13
  obtain ⟨gL, hgL⟩ : ∃ g, w12.heap.size = g := ⟨_, rfl⟩
  have HGL := Lib.hid hgL
  rw [hW13] at HB13 VX13 UX13 HS13 RL RQ RD
  rw [hgL] at RL
  clear hb hc K HB11 VX11 UX11 HS11 v0 v1 v2 u0 u1' u2 hrL hW13 hgL
  go_upto_region 13 with fail
  rw [HW13.out, HGL.out]
  clear HW13 HGL
  obtain ⟨v0, v1, v2⟩ := VX13.out
  obtain ⟨u0, u1', u2⟩ := UX13.out
  have K := Lib.hid (HQ.out ⟨#[62, 61]⟩ _ _ HS13.out (by decide))
  rw [AM.out] at K
  generalize hrM : (doneR (boolV (decide (x.num ≤ v.num)))) = rM at K
  unfold R.val at K
  go_wp2_with fail
  refine K.out.mono ?_
  rintro e w14 ⟨rfl, hb⟩
  have hc : Below w14.heap.size w14 (w14.alloc (.cells #[.int .i64 rM.code, .int .i64 rM.kind, .int .i64 rM.num, .string rM.text, .string rM.txt] 31)) := (Below.refl _ _).alloc (Nat.le_refl _) _
  have HB15 := Lib.hid ((HB13.out.trans (hb.mono HB13.out.size)).trans (hc.mono (HB13.out.trans (hb.mono HB13.out.size)).size))
  have VX15 := Lib.hid ((VX13.out.step hb).step hc)
  have UX15 := Lib.hid ((UX13.out.step hb).step hc)
  have HS15 := Lib.hid ((HS13.out.below hb).below hc)
  have RM := Lib.hid (rc_new w14 rM 31)
  have RQ := Lib.hid ((RQ.out.step hb).step hc)
  have RD := Lib.hid ((RD.out.step hb).step hc)
  have RL := Lib.hid ((RL.out.step hb).step hc)
  have HRM := Lib.hid hrM
  obtain ⟨W15, hW15⟩ : ∃ W15, w14.alloc (.cells #[.int .i64 rM.code, .int .i64 rM.kind, .int .i64 rM.num, .string rM.text, .string rM.txt] 31) = W15 := ⟨_, rfl⟩
  have HW15 := Lib.hid hW15
  obtain ⟨gM, hgM⟩ : ∃ g, w14.heap.size = g := ⟨_, rfl⟩
  have HGM := Lib.hid hgM
  rw [hW15] at HB15 VX15 UX15 HS15 RM RQ RD RL
  rw [hgM] at RM
  clear hb hc K HB13 VX13 UX13 HS13 v0 v1 v2 u0 u1' u2 hrM hW15 hgM
  go_upto_region 14 with fail
  rw [HW15.out, HGM.out]
  clear HW15 HGM
  obtain ⟨v0, v1, v2⟩ := VX15.out
  obtain ⟨u0, u1', u2⟩ := UX15.out
  have K := Lib.hid (HQ.out ⟨#[109, 97, 120, 58]⟩ _ _ HS15.out (by decide))
  rw [AX.out] at K
  generalize hrX : (doneR (intV (max v.num x.num))) = rX at K
  unfold R.val at K
  go_wp2_with fail
  refine K.out.mono ?_
  rintro e w16 ⟨rfl, hb⟩
  have hc : Below w16.heap.size w16 (w16.alloc (.cells #[.int .i64 rX.code, .int .i64 rX.kind, .int .i64 rX.num, .string rX.text, .string rX.txt] 31)) := (Below.refl _ _).alloc (Nat.le_refl _) _
  have HB17 := Lib.hid ((HB15.out.trans (hb.mono HB15.out.size)).trans (hc.mono (HB15.out.trans (hb.mono HB15.out.size)).size))
  have VX17 := Lib.hid ((VX15.out.step hb).step hc)
  have UX17 := Lib.hid ((UX15.out.step hb).step hc)
  have HS17 := Lib.hid ((HS15.out.below hb).below hc)
  have RX := Lib.hid (rc_new w16 rX 31)
  have RQ := Lib.hid ((RQ.out.step hb).step hc)
  have RD := Lib.hid ((RD.out.step hb).step hc)
  have RL := Lib.hid ((RL.out.step hb).step hc)
  have RM := Lib.hid ((RM.out.step hb).step hc)
  have HRX := Lib.hid hrX
  obtain ⟨W17, hW17⟩ : ∃ W17, w16.alloc (.cells #[.int .i64 rX.code, .int .i64 rX.kind, .int .i64 rX.num, .string rX.text, .string rX.txt] 31) = W17 := ⟨_, rfl⟩
  have HW17 := Lib.hid hW17
  obtain ⟨gX, hgX⟩ : ∃ g, w16.heap.size = g := ⟨_, rfl⟩
  have HGX := Lib.hid hgX
  rw [hW17] at HB17 VX17 UX17 HS17 RX RQ RD RL RM
  rw [hgX] at RX
  clear hb hc K HB15 VX15 UX15 HS15 v0 v1 v2 u0 u1' u2 hrX hW17 hgX
  go_upto_region 15 with fail
  rw [HW17.out, HGX.out]
  clear HW17 HGX
  obtain ⟨v0, v1, v2⟩ := VX17.out
  obtain ⟨u0, u1', u2⟩ := UX17.out
  have K := Lib.hid (HQ.out ⟨#[109, 105, 110, 58]⟩ _ _ HS17.out (by decide))
  rw [AN.out] at K
  generalize hrN : (doneR (intV (min v.num x.num))) = rN at K
  unfold R.val at K
  go_wp2_with fail
  refine K.out.mono ?_
  rintro e w18 ⟨rfl, hb⟩
  have hc : Below w18.heap.size w18 (w18.alloc (.cells #[.int .i64 rN.code, .int .i64 rN.kind, .int .i64 rN.num, .string rN.text, .string rN.txt] 31)) := (Below.refl _ _).alloc (Nat.le_refl _) _
  have HB19 := Lib.hid ((HB17.out.trans (hb.mono HB17.out.size)).trans (hc.mono (HB17.out.trans (hb.mono HB17.out.size)).size))
  have VX19 := Lib.hid ((VX17.out.step hb).step hc)
  have UX19 := Lib.hid ((UX17.out.step hb).step hc)
  have HS19 := Lib.hid ((HS17.out.below hb).below hc)
  have RN := Lib.hid (rc_new w18 rN 31)
  have RQ := Lib.hid ((RQ.out.step hb).step hc)
  have RD := Lib.hid ((RD.out.step hb).step hc)
  have RL := Lib.hid ((RL.out.step hb).step hc)
  have RM := Lib.hid ((RM.out.step hb).step hc)
  have RX := Lib.hid ((RX.out.step hb).step hc)
  have HRN := Lib.hid hrN
  obtain ⟨W19, hW19⟩ : ∃ W19, w18.alloc (.cells #[.int .i64 rN.code, .int .i64 rN.kind, .int .i64 rN.num, .string rN.text, .string rN.txt] 31) = W19 := ⟨_, rfl⟩
  have HW19 := Lib.hid hW19
  obtain ⟨gN, hgN⟩ : ∃ g, w18.heap.size = g := ⟨_, rfl⟩
  have HGN := Lib.hid hgN
  rw [hW19] at HB19 VX19 UX19 HS19 RN RQ RD RL RM RX
  rw [hgN] at RN
  clear hb hc K HB17 VX17 UX17 HS17 v0 v1 v2 u0 u1' u2 hrN hW19 hgN
  go_upto_region 16 with fail
  rw [HW19.out, HGN.out]
  clear HW19 HGN
  have hb := (num_iff _).1 NX.out
  have ha := (num_iff _).1 NV.out
  have hq := (num_iff _).1 (quot_num NV.out HX0.out)
  have ht := (num_iff _).1 (rest_num NX.out HX0.out (a := v.num))
  have hqr := quot_rest (a := v.num) HX0.out
  have hsg := rest_sign (a := v.num) HX0.out
  obtain ⟨q0, -, q2, -, -⟩ := RQ.out
  obtain ⟨d0, -, d2, -, -⟩ := RD.out
  obtain ⟨-, l1, l2, -, -⟩ := RL.out
  obtain ⟨-, -, m2, -, -⟩ := RM.out
  obtain ⟨-, -, x2, -, -⟩ := RX.out
  obtain ⟨-, -, n2, -, -⟩ := RN.out
  obtain ⟨-, v1, -⟩ := VX19.out
  obtain ⟨-, u1', -⟩ := UX19.out
  rw [← HQ0.out] at q0 q2
  rw [← HT0.out] at d0 d2
  rw [show (doneR (intV (quotI v.num x.num))).code = 0 from rfl] at q0
  rw [show (doneR (intV (quotI v.num x.num))).num = quotI v.num x.num from rfl] at q2
  rw [show (doneR (intV (restI v.num x.num))).code = 0 from rfl] at d0
  rw [show (doneR (intV (restI v.num x.num))).num = restI v.num x.num from rfl] at d2
  have hrL := HRL.out
  have hrM := HRM.out
  have hrX := HRX.out
  have hrN := HRN.out
  clear HQ0 HT0 HX0 RQ RD RL RM RX RN VX19 UX19 HRL HRM HRX HRN NV NX AQ AD AL AM AX AN HQ HS19
  generalize quotI v.num x.num = q at *
  generalize restI v.num x.num = t at *
  obtain ⟨vk, va, vt⟩ := v
  obtain ⟨xk, b, xt⟩ := x
  simp only at *
  have hsq := sq_lt hsg.1
  have hb2 : b * b ≤ 999999998000000001 := by
    have h := Int.natAbs_mul b b
    have h2 : b.natAbs * b.natAbs ≤ 999999999 * 999999999 := Nat.mul_le_mul (by omega) (by omega)
    omega
  have ht2 : 0 ≤ t * t := by rw [← Int.natAbs_mul_self]; omega
  have p1 : -2000000000 ≤ q * b := by omega
  have p2 : q * b ≤ 2000000000 := by omega
  have z1 : ((q * b + t) != va) = false := (SpecBas.eq_yes hqr).2
  have hs3 := hsg.2
  clear hqr hsg
  obtain ⟨b1, b2⟩ := hb
  obtain ⟨a1, a2⟩ := ha
  obtain ⟨e1, e2⟩ := hq
  obtain ⟨f1, f2⟩ := ht
  have hcase : (va < b ∧ rL.kind = 1 ∧ rL.num = 1 ∧ rM.num = 0 ∧ rX.num = b ∧ rN.num = va) ∨ (¬ va < b ∧ rL.kind = 1 ∧ rL.num = 0 ∧ rM.num = 1 ∧ rX.num = va ∧ rN.num = b) := by
    by_cases h : va < b
    · refine .inl ⟨h, ?_, ?_, ?_, ?_, ?_⟩
      · rw [← hrL]; rfl
      · rw [← hrL, decide_eq_true h]; rfl
      · rw [← hrM, decide_eq_false (by omega)]; rfl
      · rw [← hrX]; show max va b = b; omega
      · rw [← hrN]; show min va b = va; omega
    · refine .inr ⟨h, ?_, ?_, ?_, ?_, ?_⟩
      · rw [← hrL]; rfl
      · rw [← hrL, decide_eq_false h]; rfl
      · rw [← hrM, decide_eq_true (by omega)]; rfl
      · rw [← hrX]; show max va b = va; omega
      · rw [← hrN]; show min va b = b; omega
  clear hrL hrM hrX hrN
  have hz : ((t != 0) = false) ∨ ((t != 0) = true ∧ t < 0 ∧ b < 0) ∨ ((t != 0) = true ∧ ¬ t < 0 ∧ ¬ b < 0) := by
    by_cases h : t = 0
    · exact .inl (SpecBas.eq_yes h).2
    · have h2 : t < 0 ↔ b < 0 := hs3.resolve_left h
      by_cases h3 : b < 0
      · exact .inr (.inl ⟨(SpecBas.eq_no h).2, h2.2 h3, h3⟩)
      · exact .inr (.inr ⟨(SpecBas.eq_no h).2, fun x => h3 (h2.1 x), h3⟩)
  clear hs3
  rcases hcase with ⟨hlt, k1, k2, k3, k4, k5⟩ | ⟨hlt, k1, k2, k3, k4, k5⟩
  · rw [k1] at l1
    rw [k2] at l2
    rw [k3] at m2
    rw [k4] at x2
    rw [k5] at n2
    have y1 : ((b + va) == (va + b)) = true := (SpecBas.eq_yes (Int.add_comm b va)).1
    have y2 : va ≤ b := by omega
    clear k1 k2 k3 k4 k5
    rcases hz with c1 | ⟨c1, c2, c3⟩ | ⟨c1, c2, c3⟩
    all_goals
      go_wp2_with fail
      go_ret
      exact ⟨rfl, HB19.out⟩
  · rw [k1] at l1
    rw [k2] at l2
    rw [k3] at m2
    rw [k4] at x2
    rw [k5] at n2
    have y1 : ((va + b) == (va + b)) = true := (SpecBas.eq_yes rfl).1
    have y2 : b ≤ va := by omega
    clear k1 k2 k3 k4 k5
    rcases hz with c1 | ⟨c1, c2, c3⟩ | ⟨c1, c2, c3⟩
    all_goals
      go_wp2_with fail
      go_ret
      exact ⟨rfl, HB19.out⟩
end Go.Proofs.Ytkmclgofghaeoaa.fnDivisionW
