/-
  The walk of laws.FnTexts: it returns true at every code.
-/
import Derived.Test.YtkmclgofghaeoaaBBasAns
import Derived.Test.YtkmclgofghaeoaaBDrawMsg
import Derived.Test.YtkmclgofghaeoaaBImplBas
import Derived.Test.YtkmclgofghaeoaaBSpecSel
import Derived.Test.YtkmclgofghaeoaaBTail
import Derived.Lib.QuietBelow
import Derived.Deep.Cut
import Derived.OpenShut
namespace Go.Proofs.Ytkmclgofghaeoaa.fnTextsW
open Go.RowKit
open Strs Sto Bas SpecBas BasAns Tail Go.Proofs.Ytkmclgofghaeoaa.Data
set_option linter.unusedVariables false
theorem vs_one (w : World) (x : V) (T : TypeId) (hk : (Lit.int .i64 x.kind).wf = true) (hn : (Lit.int .i64 x.num).wf = true) (ht : x.text.size ≤ maxLen) : VsAt 0 (w.alloc (.cells #[.int .i64 x.kind, .int .i64 x.num, .string x.text] T)) (.slice (some ⟨w.heap.size, 0, none⟩) 1 1) [x] := by
  refine ⟨_, 1, rfl, ⟨by simp, by unfold maxLen; omega⟩, fun _ => ⟨w.heap.size, 0, rfl, Nat.zero_le _, fun i y hi => ?_⟩⟩
  match i, hi with
  | 0, hi =>
    simp at hi
    subst hi
    exact ⟨by go_simp, by go_simp, by go_simp, hk, hn, ht⟩
theorem field_code (c k n : Int) (t x : ByteArray) (w : World) : (Instr.field 31 (.agg #[.int .i64 c, .int .i64 k, .int .i64 n, .string t, .string x]) 0).run Try.prog w = .ok (.int .i64 c) w := by kernel_rfl
theorem kind_wf {x : V} (h : valB x = true) : (Lit.int .i64 x.kind).wf = true := by
  have := val_kind h
  rcases this with e | e | e | e | e | e | e | e <;> rw [e] <;> decide
theorem vs_none (w : World) : VsAt 0 w (.slice none 0 0) [] := ⟨none, 0, rfl, ⟨Nat.le_refl _, by unfold maxLen; omega⟩, fun h => absurd h (by simp)⟩
theorem val_join {v x : V} (hv : valB v = true) (hx : valB x = true) (h1 : v.kind = 3) (h2 : x.kind = 3) (hs : v.text.size + x.text.size ≤ 200) : valB (textV (v.text ++ x.text)) = true := by
  have key : ∀ y : V, valB y = true → y.kind = 3 → y.text.data.toList.all Tok.plain = true := by
    intro y hy hk
    unfold valB at hy
    rw [hk, if_neg (by decide), if_neg (by decide), if_neg (by decide), if_pos rfl, Bool.and_eq_true] at hy
    have h := hy.2
    unfold lineB at h
    rw [Bool.and_eq_true] at h
    exact h.2
  have k1 := key v hv h1
  have k2 := key x hx h2
  unfold valB textV
  simp only
  rw [if_neg (by decide), if_neg (by decide), if_neg (by decide), if_pos trivial]
  unfold lineB
  rw [ByteArray.size_append, decide_eq_true hs, ByteArray.data_append, Array.toList_append, List.all_append, k1, k2]
  rfl
theorem a_join {v x : V} (hv : valB v = true) (hx : valB x = true) (h1 : v.kind = 3) (h2 : x.kind = 3) (hs : v.text.size + x.text.size ≤ 200) : answer v ⟨#[44]⟩ [x] = doneR (textV (v.text ++ x.text)) := by
  have h := ans_one (e := ⟨⟨#[44]⟩, 3, fun v a => if 200 < v.text.size + a.text.size then failR ⟨#[116, 111, 111, 32, 108, 111, 110, 103]⟩ else doneR (textV (v.text ++ a.text))⟩) hv hx c_comma (by rw [h1]; rfl) (.inr h2)
  rw [h]
  exact if_neg (by omega)
theorem a_size {j : ByteArray} (h : valB (textV j) = true) : answer (textV j) ⟨#[115, 105, 122, 101]⟩ [] = doneR (intV j.size) := ans_nil h c_size rfl rfl
theorem a_at {j : ByteArray} (h : valB (textV j) = true) {i : Nat} (hi : i < j.size) (hs : j.size ≤ 200) : answer (textV j) ⟨#[97, 116, 58]⟩ [intV ((i : Int) + 1)] = doneR (textV (j.extract i (i + 1))) := by
  have hx : valB (intV ((i : Int) + 1)) = true := by
    unfold valB intV
    simp only
    rw [if_neg (by decide), if_neg (by decide), if_pos trivial, decide_eq_true (by omega), decide_eq_true (by omega)]
    rfl
  have k := ans_one (e := ⟨⟨#[97, 116, 58]⟩, 0, fun v a => if a.kind = 2 ∧ 1 ≤ a.num ∧ a.num ≤ v.text.size then doneR (textV (v.text.extract (a.num - 1).toNat a.num.toNat)) else failR ⟨#[111, 117, 116, 32, 111, 102, 32, 114, 97, 110, 103, 101]⟩⟩) h hx c_at rfl (.inl rfl)
  rw [k]
  show (if (2 : Int) = 2 ∧ 1 ≤ (i : Int) + 1 ∧ (i : Int) + 1 ≤ j.size then doneR (textV (j.extract ((i : Int) + 1 - 1).toNat ((i : Int) + 1).toNat)) else _) = _
  rw [if_pos ⟨rfl, by omega, by omega⟩, show ((i : Int) + 1 - 1).toNat = i by omega, show ((i : Int) + 1).toNat = i + 1 by omega]
theorem a_sym {j : ByteArray} (h : valB (textV j) = true) : answer (textV j) ⟨#[97, 115, 83, 121, 109, 98, 111, 108]⟩ [] = if Tok.sel j then doneR (symV j) else failR ⟨#[110, 111, 116, 32, 97, 32, 115, 101, 108, 101, 99, 116, 111, 114]⟩ := ans_nil h c_sym rfl rfl
theorem val_sym {j : ByteArray} (h : Tok.sel j = true) : valB (symV j) = true := by
  unfold valB symV
  simp only
  rw [if_neg (by decide), if_neg (by decide), if_neg (by decide), if_neg (by decide), if_pos trivial, h]
  rfl
theorem a_str {j : ByteArray} (h : Tok.sel j = true) : answer (symV j) ⟨#[97, 115, 83, 116, 114, 105, 110, 103]⟩ [] = doneR (textV j) := ans_nil (val_sym h) c_str rfl rfl
theorem a_nil : answer nilV ⟨#[97, 115, 83, 116, 114, 105, 110, 103]⟩ [] = missR := by
  unfold answer
  split
  · exact act_none rfl
  · rfl
structure TB (g : Nat) (c k n : Int) (t : ByteArray) (wx : World) : Prop where
  a0 : wx.cell? ⟨g, 0, none⟩ = some (.int .i64 c)
  a1 : wx.cell? ⟨g, 1, none⟩ = some (.int .i64 k)
  a2 : wx.cell? ⟨g, 2, none⟩ = some (.int .i64 n)
  a3 : wx.cell? ⟨g, 3, none⟩ = some (.string t)
theorem TB.step {g : Nat} {c k n : Int} {t : ByteArray} {wx w' : World} (h : TB g c k n t wx) (hb : Below wx.heap.size wx w') : TB g c k n t w' := ⟨cell_keep hb h.a0, cell_keep hb h.a1, cell_keep hb h.a2, cell_keep hb h.a3⟩
theorem grown_low {w w' : World} (h : ∃ p : Regrown, w' = Sort.grow (redrawn w p.d) p.os) : Below w.heap.size w w' := by
  obtain ⟨p, rfl⟩ := h
  exact below_regrown _ _ _
theorem tb_of {g : Nat} {r : R} {wx : World} (h : RC g r wx) : TB g r.code r.kind r.num r.text wx := ⟨h.a0, h.a1, h.a2, h.a3⟩
set_option maxRecDepth 10000 in
set_option maxHeartbeats 16000000 in
theorem walk (w : World) (a : Option Addr) (len cap : Nat) (zs : List Int) (hz : Kit.IsRow .u8 w a len cap zs) :
    Calls Try.prog 4 #[.slice a len cap] w fun e w' => e = .returned (.bool true) ∧ Below w.heap.size w w' := by
  have hm : len ≤ cap ∧ cap ≤ maxLen := by
    rcases hz with ⟨_, rfl, rfl, _⟩ | ⟨x, _, hl, hm, _⟩
    · exact ⟨Nat.le_refl _, Nat.zero_le _⟩
    · exact ⟨by omega, by omega⟩
  have HR := Lib.hid (Draw.raw_of hz)
  clear hz
  obtain ⟨hcap, hm⟩ := hm
  by_cases hbig : (1048576 : Int) < (len : Int)
  · unfold maxLen at hm
    go_enter Try.func4, Try.ntmps4
    go_wp2
    go_ret
    exact ⟨rfl, Below.refl _ _⟩
  have hlen : len ≤ 1048576 := by omega
  have KT := fun (w' : World) (hb : Below w.heap.size w w') => Lib.hid (tail_any a len cap w' hlen hcap hm (HR.out.keep hb))
  unfold Rest at KT
  unfold maxLen at hm
  go_enter Try.func4, Try.ntmps4
  go_wp2_with (first | (go_at_call 5; go_in) | fail)
  refine (DrawVal.msg_any a len cap w hlen HR.out).mono ?_
  rintro e w1 ⟨v, s1, u1, hv, hvs, rfl, hb1⟩
  have HB1 := Lib.hid hb1
  have HV := Lib.hid (And.intro hv hvs)
  clear hb1 hv hvs
  obtain ⟨W2, hW2⟩ : ∃ W2, w1.alloc (.cells #[.int .i64 v.kind, .int .i64 v.num, .string v.text] 25) = W2 := ⟨_, rfl⟩
  have hb2 : Below w1.heap.size w1 W2 := by subst hW2; exact (Below.refl _ _).alloc (Nat.le_refl _) _
  have HB2 := Lib.hid (HB1.out.trans (hb2.mono HB1.out.size))
  have VX2 : Hid (VB w1.heap.size v W2) := Lib.hid (by subst hW2; exact vb_new _ _ _)
  have HW2 := Lib.hid hW2
  clear hb2 hW2
  obtain ⟨vb, hvb⟩ : ∃ vb, w1.heap.size = vb := ⟨_, rfl⟩
  have HVB := Lib.hid hvb
  rw [hvb] at VX2
  clear hvb
  go_upto_region 4 with fail
  rw [HW2.out, HVB.out]
  clear HW2 HVB HB1
  go_wp2_with fail
  refine (KT _ HB2.out).out.mono ?_
  rintro e w3 ⟨a', len', cap', rfl, hl', hr', rfl⟩
  have KD := Lib.hid (DrawVal.msg_any a' len' cap' W2 (by omega) hr')
  clear KT hr' HR
  go_wp2_with fail
  refine KD.out.mono ?_
  rintro e w3 ⟨x, s3, u3, hx, hxs, rfl, hb3⟩
  have HB3 := Lib.hid (HB2.out.trans (hb3.mono HB2.out.size))
  have VX3 := Lib.hid (VX2.out.step hb3)
  have HX := Lib.hid (And.intro hx hxs)
  clear hb3 hx hxs KD VX2 HB2
  obtain ⟨W4, hW4⟩ : ∃ W4, w3.alloc (.cells #[.int .i64 x.kind, .int .i64 x.num, .string x.text] 25) = W4 := ⟨_, rfl⟩
  have hb4 : Below w3.heap.size w3 W4 := by subst hW4; exact (Below.refl _ _).alloc (Nat.le_refl _) _
  have HB4 := Lib.hid (HB3.out.trans (hb4.mono HB3.out.size))
  have VX4 := Lib.hid (VX3.out.step hb4)
  have UX4 : Hid (VB w3.heap.size x W4) := Lib.hid (by subst hW4; exact vb_new _ _ _)
  have HW4 := Lib.hid hW4
  clear hb4 hW4
  obtain ⟨ub, hub⟩ : ∃ ub, w3.heap.size = ub := ⟨_, rfl⟩
  have HUB := Lib.hid hub
  rw [hub] at UX4
  clear hub
  go_upto_region 5 with fail
  rw [HW4.out, HUB.out]
  clear HW4 HUB HB3 VX3
  have hb5 : ∀ w' : World, Below w'.heap.size w' (w'.alloc (.cells #[.int .i64 x.kind, .int .i64 x.num, .string x.text] 25)) := fun w' => (Below.refl _ _).alloc (Nat.le_refl _) _
  have HS5 := fun w' => Lib.hid (vs_one w' x 25 (kind_wf HX.out.1) HX.out.2.2 (by have := HX.out.2.1; unfold maxLen; omega))
  have HQ := Lib.hid (fun (sel : ByteArray) (s : Value) (w' : World) (hs : VsAt 0 w' s [x]) (hl : sel.size ≤ 1048576) => ImplBas.msg_any v sel [x] s 0 w' hs (by have := HV.out.2.1; omega) (fun y hy => by rw [List.mem_singleton.1 hy]; have := HX.out.2.1; omega) hl)
  obtain ⟨v0, v1, v2⟩ := VX4.out
  obtain ⟨u0, u1', u2⟩ := UX4.out
  by_cases hboth : v.kind = 3 ∧ x.kind = 3
  case neg =>
    have hno := comma_no (v := v) (x := x) hboth
    generalize hr : answer v ⟨#[44]⟩ [x] = r at *
    have HNO : Hid ((r.code != 0) = true) := Lib.hid (by rcases hno with e | e <;> rw [e] <;> rfl)
    have K := Lib.hid (HQ.out ⟨#[44]⟩ _ _ (HS5 W4).out (by decide))
    rw [hr] at K
    have HB5 := Lib.hid (HB4.out.trans ((hb5 W4).mono HB4.out.size))
    have hcases : ((v.kind != 3) = true) ∨ ((v.kind != 3) = false ∧ (x.kind != 3) = true) := by
      by_cases hk : v.kind = 3
      · exact .inr ⟨(SpecBas.eq_yes hk).2, (SpecBas.eq_no (fun h => hboth ⟨hk, h⟩)).2⟩
      · exact .inl (SpecBas.eq_no hk).2
    clear hno hr hboth HQ HS5 hb5 VX4 UX4
    rcases hcases with z | ⟨z, z'⟩
    all_goals
      go_wp2_with fail
      refine K.out.mono ?_
      rintro e w6 ⟨rfl, hb6⟩
      have HB6 := Lib.hid (HB5.out.trans (hb6.mono HB5.out.size))
      have z9 := HNO.out
      have hfd := field_code
      clear hb6 K HNO
      unfold R.val
      go_wp2_with fail
      go_ret
      exact ⟨rfl, HB6.out⟩
  obtain ⟨hk1, hk2⟩ := hboth
  have z := (SpecBas.eq_yes hk1).2
  have z' := (SpecBas.eq_yes hk2).2
  have hss : v.text.size + x.text.size ≤ 200 := by have h1 := HV.out.2.1; have h2 := HX.out.2.1; omega
  have HVJ := Lib.hid (val_join HV.out.1 HX.out.1 hk1 hk2 hss)
  have K := Lib.hid (HQ.out ⟨#[44]⟩ _ _ (HS5 W4).out (by decide))
  rw [a_join HV.out.1 HX.out.1 hk1 hk2 hss] at K
  have hsj : (v.text ++ x.text).size ≤ 200 := by rw [ByteArray.size_append]; exact hss
  have hv8 := HV.out.2.1
  have hx8 := HX.out.2.1
  have HB5 := Lib.hid (HB4.out.trans ((hb5 W4).mono HB4.out.size))
  have VX5 := Lib.hid (VX4.out.step (hb5 W4))
  have UX5 := Lib.hid (UX4.out.step (hb5 W4))
  have H25 : Hid (v.text ++ x.text = v.text ++ x.text) := Lib.hid rfl
  obtain ⟨j, hj⟩ : ∃ j, v.text ++ x.text = j := ⟨_, rfl⟩
  rw [hj] at K HVJ hsj
  have HJ := Lib.hid hj
  generalize hr1 : doneR (textV j) = r1 at K
  clear hss hk1 hk2 HQ HS5 hb5 VX4 UX4 HV HX H25 hj
  go_wp2_with fail
  refine K.out.mono ?_
  rintro e w6 ⟨rfl, hb6⟩
  have hc : Below w6.heap.size w6 (w6.alloc (.cells #[.int .i64 r1.code, .int .i64 r1.kind, .int .i64 r1.num, .string r1.text, .string r1.txt] 31)) := (Below.refl _ _).alloc (Nat.le_refl _) _
  have HB7 := Lib.hid ((HB5.out.trans (hb6.mono HB5.out.size)).trans (hc.mono (HB5.out.trans (hb6.mono HB5.out.size)).size))
  have VX7 := Lib.hid ((VX5.out.step hb6).step hc)
  have UX7 := Lib.hid ((UX5.out.step hb6).step hc)
  have T7 := tb_of (rc_new w6 r1 31)
  rw [← hr1] at T7
  have T7 : TB w6.heap.size 0 3 0 j (w6.alloc (.cells #[.int .i64 r1.code, .int .i64 r1.kind, .int .i64 r1.num, .string r1.text, .string r1.txt] 31)) := by rw [← hr1]; exact T7
  obtain ⟨W7, hW7⟩ : ∃ W7, w6.alloc (.cells #[.int .i64 r1.code, .int .i64 r1.kind, .int .i64 r1.num, .string r1.text, .string r1.txt] 31) = W7 := ⟨_, rfl⟩
  have HW7 := Lib.hid hW7
  obtain ⟨g, hg⟩ : ∃ g, w6.heap.size = g := ⟨_, rfl⟩
  have HG := Lib.hid hg
  rw [hW7] at HB7 VX7 UX7 T7
  rw [hg] at T7
  have HT7 := Lib.hid T7
  have KM := fun (s : ByteArray) (hs : s.size ≤ 1048576) (w' : World) => Lib.hid (ImplBas.msg_any (textV j) s [] _ 0 w' (vs_none w') (by show j.size ≤ _; omega) (fun y hy => by cases hy) hs)
  have KA := fun (i : Nat) (hi : i < j.size) (w' : World) => Lib.hid (ImplBas.msg_any (textV j) ⟨#[97, 116, 58]⟩ [intV ((i : Int) + 1)] _ 0 (w'.alloc (.cells #[.int .i64 (intV ((i : Int) + 1)).kind, .int .i64 (intV ((i : Int) + 1)).num, .string (intV ((i : Int) + 1)).text] 25)) (vs_one w' (intV ((i : Int) + 1)) 25 (by show (Lit.int .i64 2).wf = true; decide) (DrawVal.wf_in (by show -999999999 ≤ (i : Int) + 1 ∧ (i : Int) + 1 ≤ 999999999; omega)) (Nat.zero_le _)) (by show j.size ≤ _; omega) (fun y hy => by rw [List.mem_singleton.1 hy]; exact Nat.zero_le _) (by decide))
  have KZ := KM ⟨#[115, 105, 122, 101]⟩ (by decide) W7
  rw [a_size HVJ.out] at KZ
  obtain ⟨r2, hr2⟩ : ∃ r2, doneR (intV j.size) = r2 := ⟨_, rfl⟩
  rw [hr2] at KZ
  unfold textV at KZ
  simp only at KZ
  unfold R.val at KZ
  obtain ⟨t0, t1, t2, t3⟩ := HT7.out
  clear hc hb6 K HB5 VX5 UX5 hr1 hW7 hg T7 HB4 v0 v1 v2 u0 u1' u2
  unfold R.val
  go_upto_region 8 with fail
  rw [HW7.out, HG.out]
  clear HW7 HG
  go_wp2_with fail
  refine KZ.out.mono ?_
  rintro e w8 ⟨rfl, hb8⟩
  have hc : Below w8.heap.size w8 (w8.alloc (.cells #[.int .i64 r2.code, .int .i64 r2.kind, .int .i64 r2.num, .string r2.text, .string r2.txt] 31)) := (Below.refl _ _).alloc (Nat.le_refl _) _
  have HB9 := Lib.hid ((HB7.out.trans (hb8.mono HB7.out.size)).trans (hc.mono (HB7.out.trans (hb8.mono HB7.out.size)).size))
  have VX9 := Lib.hid ((VX7.out.step hb8).step hc)
  have UX9 := Lib.hid ((UX7.out.step hb8).step hc)
  have HT9 := Lib.hid ((HT7.out.step hb8).step hc)
  have n2 := (rc_new w8 r2 31).a2
  rw [show r2.num = (j.size : Int) by rw [← hr2]; rfl] at n2
  have HN2 : r2.num = (j.size : Int) := by rw [← hr2]; rfl
  obtain ⟨W9, hW9⟩ : ∃ W9, w8.alloc (.cells #[.int .i64 r2.code, .int .i64 r2.kind, .int .i64 r2.num, .string r2.text, .string r2.txt] 31) = W9 := ⟨_, rfl⟩
  have n2 : W9.cell? ⟨w8.heap.size, 2, none⟩ = some (.int .i64 (j.size : Int)) := by rw [← hW9, ← HN2]; exact (rc_new w8 r2 31).a2
  have HW9 := Lib.hid hW9
  rw [hW9] at HB9 VX9 UX9 HT9
  clear hb8 hc KZ HB7 VX7 UX7 HT7 hr2 hW9 HN2 t0 t1 t2 t3
  go_upto_region 9 with fail
  rw [HW9.out]
  clear HW9
  obtain ⟨-, -, v2⟩ := VX9.out
  obtain ⟨-, -, u2⟩ := UX9.out
  obtain ⟨t0, t1, t2, t3⟩ := HT9.out
  go_upto_region 10 with fail
  rw [HJ.out]
  clear HJ v2 u2 VX9 UX9 hv8 hx8
  go_wp2_with fail
  have HT := HT9
  have HB := HB9
  clear t0 t1 t2 t3 n2 HT9 HB9
  go_loopw [12, 13] (fun k _ wr => ∃ i : Nat, i ≤ j.size ∧ k = .int .i64 i ∧ Hid (TB g 0 3 0 j wr) ∧ Hid (Below w.heap.size w wr)) (fun k _ _ => j.size - (intOf k).toNat)
  case atStart => exact ⟨0, Nat.zero_le _, rfl, HT, HB⟩
  case round =>
    clear HT HB
    obtain ⟨i, hi, rfl, HT, HB⟩ := hrel
    obtain ⟨t0, t1, t2, t3⟩ := HT.out
    by_cases hlt : i < j.size
    · have hltI : (i : Int) < (j.size : Int) := by omega
      have KB := KA i hlt wr
      rw [a_at HVJ.out hlt hsj] at KB
      unfold textV intV at KB
      simp only at KB
      obtain ⟨q, hq⟩ : ∃ q, j.extract i (i + 1) = q := ⟨_, rfl⟩
      rw [hq] at KB
      have HQQ := Lib.hid hq
      obtain ⟨r3, hr3⟩ : ∃ r3, doneR ⟨3, 0, q⟩ = r3 := ⟨_, rfl⟩
      rw [hr3] at KB
      unfold R.val at KB
      have HB2 := Lib.hid (HB.out.trans ((Draw.alloc_below wr (.cells #[.int .i64 2, .int .i64 ((i : Int) + 1), .string ⟨#[]⟩] 25)).mono HB.out.size))
      have HT2 := Lib.hid (HT.out.step (Draw.alloc_below wr (.cells #[.int .i64 2, .int .i64 ((i : Int) + 1), .string ⟨#[]⟩] 25)))
      clear hq hlt HT HB KM
      go_wp2_with fail
      refine KB.out.mono ?_
      rintro e w8 ⟨rfl, hb8⟩
      have hc : Below w8.heap.size w8 (w8.alloc (.cells #[.int .i64 r3.code, .int .i64 r3.kind, .int .i64 r3.num, .string r3.text, .string r3.txt] 31)) := (Below.refl _ _).alloc (Nat.le_refl _) _
      have HB3 := Lib.hid ((HB2.out.trans (hb8.mono HB2.out.size)).trans (hc.mono (HB2.out.trans (hb8.mono HB2.out.size)).size))
      have HT3 := Lib.hid ((HT2.out.step hb8).step hc)
      have c0 := (rc_new w8 r3 31).a0
      have c3 := (rc_new w8 r3 31).a3
      have e0 : r3.code = 0 := by rw [← hr3]; rfl
      have e3 : r3.text = q := by rw [← hr3]; rfl
      obtain ⟨W9', hW9⟩ : ∃ W9', w8.alloc (.cells #[.int .i64 r3.code, .int .i64 r3.kind, .int .i64 r3.num, .string r3.text, .string r3.txt] 31) = W9' := ⟨_, rfl⟩
      have HW9 := Lib.hid hW9
      rw [hW9] at HB3 HT3 c0 c3
      rw [e0] at c0
      rw [e3] at c3
      clear hb8 hc KB HB2 HT2 hr3 e0 e3 hW9 t0 t1 t2 t3
      go_upto_region 16 with fail
      rw [HW9.out]
      clear HW9 KA
      have hs1 : (0 : Int) ≤ (i : Int) := by omega
      have hs2 : (i : Int) + 1 ≤ (j.size : Int) := by omega
      have hqq := HQQ.out
      go_quiet (fail)
      go_wp2_with fail
      go_roundw
      case rel => exact ⟨i + 1, by omega, by go_num, Lib.hid (HT3.out.step (below_drewN (Below.refl _ _) _)), Lib.hid (HB3.out.trans ((below_drewN (Below.refl _ _) _).mono HB3.out.size))⟩
      case measure => simp [intOf]; omega
    have hij : i = j.size := by omega
    have hend : ¬ ((i : Int) < (j.size : Int)) := by omega
    have KI := fun w' => Lib.hid (SpecSel.sel_any j w' (by omega))
    have KS := KM ⟨#[97, 115, 83, 121, 109, 98, 111, 108]⟩ (by decide) wr
    rw [a_sym HVJ.out] at KS
    unfold textV at KS
    simp only at KS
    clear hij
    cases hsel : Tok.sel j with
    | true =>
      rw [hsel] at KI
      rw [hsel, if_pos rfl] at KS
      have KQ := fun (w' : World) => Lib.hid (ImplBas.msg_any (symV j) ⟨#[97, 115, 83, 116, 114, 105, 110, 103]⟩ [] _ 0 w' (vs_none w') (by show j.size ≤ _; omega) (fun y hy => by cases hy) (by decide))
      rw [a_str hsel] at KQ
      obtain ⟨r4, hr4⟩ : ∃ r4, doneR (symV j) = r4 := ⟨_, rfl⟩
      rw [hr4] at KS
      obtain ⟨r5, hr5⟩ : ∃ r5, doneR (textV j) = r5 := ⟨_, rfl⟩
      rw [hr5] at KQ
      unfold R.val at KS KQ
      unfold symV at KQ
      simp only at KQ
      clear KA KM hsel
      go_wp2_with fail
      refine KS.out.mono ?_
      rintro e w8 ⟨rfl, hb8⟩
      have hc : Below w8.heap.size w8 (w8.alloc (.cells #[.int .i64 r4.code, .int .i64 r4.kind, .int .i64 r4.num, .string r4.text, .string r4.txt] 31)) := (Below.refl _ _).alloc (Nat.le_refl _) _
      have HB3 := Lib.hid ((HB.out.trans (hb8.mono HB.out.size)).trans (hc.mono (HB.out.trans (hb8.mono HB.out.size)).size))
      have HT3 := Lib.hid ((HT.out.step hb8).step hc)
      have S3 : TB w8.heap.size 0 4 0 j (w8.alloc (.cells #[.int .i64 r4.code, .int .i64 r4.kind, .int .i64 r4.num, .string r4.text, .string r4.txt] 31)) := by
        have h := tb_of (rc_new w8 r4 31)
        rw [← hr4] at h ⊢
        exact h
      obtain ⟨W9', hW9⟩ : ∃ W9', w8.alloc (.cells #[.int .i64 r4.code, .int .i64 r4.kind, .int .i64 r4.num, .string r4.text, .string r4.txt] 31) = W9' := ⟨_, rfl⟩
      have HW9 := Lib.hid hW9
      rw [hW9] at HB3 HT3 S3
      obtain ⟨gs, hgs⟩ : ∃ gs, w8.heap.size = gs := ⟨_, rfl⟩
      have HGS := Lib.hid hgs
      rw [hgs] at S3
      have HS3 := Lib.hid S3
      obtain ⟨s0, s1', s2, s3'⟩ := HS3.out
      clear hb8 hc KS HB HT hr4 hW9 hgs S3 t0 t1 t2 t3
      go_upto_region 19 with fail
      rw [HW9.out, HGS.out]
      clear HW9 HGS
      go_wp2_with fail
      refine (KQ _).out.mono ?_
      rintro e w10 ⟨rfl, hb10⟩
      have hc : Below w10.heap.size w10 (w10.alloc (.cells #[.int .i64 r5.code, .int .i64 r5.kind, .int .i64 r5.num, .string r5.text, .string r5.txt] 31)) := (Below.refl _ _).alloc (Nat.le_refl _) _
      have HB4 := Lib.hid ((HB3.out.trans (hb10.mono HB3.out.size)).trans (hc.mono (HB3.out.trans (hb10.mono HB3.out.size)).size))
      have HT4 := Lib.hid ((HT3.out.step hb10).step hc)
      have HS4 := Lib.hid ((HS3.out.step hb10).step hc)
      have B4 : TB w10.heap.size 0 3 0 j (w10.alloc (.cells #[.int .i64 r5.code, .int .i64 r5.kind, .int .i64 r5.num, .string r5.text, .string r5.txt] 31)) := by
        have h := tb_of (rc_new w10 r5 31)
        rw [← hr5] at h ⊢
        exact h
      obtain ⟨W11, hW11⟩ : ∃ W11, w10.alloc (.cells #[.int .i64 r5.code, .int .i64 r5.kind, .int .i64 r5.num, .string r5.text, .string r5.txt] 31) = W11 := ⟨_, rfl⟩
      have HW11 := Lib.hid hW11
      rw [hW11] at HB4 HT4 HS4 B4
      obtain ⟨gb, hgb⟩ : ∃ gb, w10.heap.size = gb := ⟨_, rfl⟩
      have HGB := Lib.hid hgb
      rw [hgb] at B4
      clear hb10 hc KQ HB3 HT3 HS3 hr5 hW11 hgb s0 s1' s2 s3'
      go_upto_region 20 with fail
      rw [HW11.out, HGB.out]
      clear HW11 HGB
      have KK := fun dd os => Lib.hid (Calls.regrown_of (w := W11) (d := dd) (os := os) (KI (Sort.grow (redrawn W11 dd) os)).out)
      have x0 := cell_regrown HT4.out.a0; have x1 := cell_regrown HT4.out.a1; have x2 := cell_regrown HT4.out.a2; have x3 := cell_regrown HT4.out.a3
      have s0 := cell_regrown HS4.out.a0; have s1' := cell_regrown HS4.out.a1; have s2 := cell_regrown HS4.out.a2; have s3' := cell_regrown HS4.out.a3
      have b0 := cell_regrown B4.a0; have b1 := cell_regrown B4.a1; have b2 := cell_regrown B4.a2; have b3 := cell_regrown B4.a3
      clear KI HVJ hsj B4
      refine wp_region_quiet_below (by kernel_rfl) (by kernel_rfl) ?_
      repeat (go_big_quiet_step ((go_at_call 9; exact (KK _ _).out)))
      refine wpQuiet_nil ?_
      intro w12 hw12
      have HB5 := Lib.hid (HB4.out.trans ((grown_low hw12).mono HB4.out.size))
      clear hw12 KK x0 x1 x2 x3 s0 s1' s2 s3' b0 b1 b2 b3
      go_wp2_with fail
      go_ret
      exact ⟨rfl, HB5.out⟩
    | false =>
      rw [hsel] at KI
      rw [hsel, if_neg Bool.false_ne_true] at KS
      have KQ := fun (w' : World) => Lib.hid (ImplBas.msg_any (nilV) ⟨#[97, 115, 83, 116, 114, 105, 110, 103]⟩ [] _ 0 w' (vs_none w') (by exact Nat.zero_le _) (fun y hy => by cases hy) (by decide))
      rw [a_nil] at KQ
      obtain ⟨r4, hr4⟩ : ∃ r4, failR ⟨#[110, 111, 116, 32, 97, 32, 115, 101, 108, 101, 99, 116, 111, 114]⟩ = r4 := ⟨_, rfl⟩
      rw [hr4] at KS
      obtain ⟨r5, hr5⟩ : ∃ r5, missR = r5 := ⟨_, rfl⟩
      rw [hr5] at KQ
      unfold R.val at KS KQ
      unfold nilV at KQ
      simp only at KQ
      clear KA KM hsel
      go_wp2_with fail
      refine KS.out.mono ?_
      rintro e w8 ⟨rfl, hb8⟩
      have hc : Below w8.heap.size w8 (w8.alloc (.cells #[.int .i64 r4.code, .int .i64 r4.kind, .int .i64 r4.num, .string r4.text, .string r4.txt] 31)) := (Below.refl _ _).alloc (Nat.le_refl _) _
      have HB3 := Lib.hid ((HB.out.trans (hb8.mono HB.out.size)).trans (hc.mono (HB.out.trans (hb8.mono HB.out.size)).size))
      have HT3 := Lib.hid ((HT.out.step hb8).step hc)
      have S3 : TB w8.heap.size 2 0 0 ⟨#[]⟩ (w8.alloc (.cells #[.int .i64 r4.code, .int .i64 r4.kind, .int .i64 r4.num, .string r4.text, .string r4.txt] 31)) := by
        have h := tb_of (rc_new w8 r4 31)
        rw [← hr4] at h ⊢
        exact h
      obtain ⟨W9', hW9⟩ : ∃ W9', w8.alloc (.cells #[.int .i64 r4.code, .int .i64 r4.kind, .int .i64 r4.num, .string r4.text, .string r4.txt] 31) = W9' := ⟨_, rfl⟩
      have HW9 := Lib.hid hW9
      rw [hW9] at HB3 HT3 S3
      obtain ⟨gs, hgs⟩ : ∃ gs, w8.heap.size = gs := ⟨_, rfl⟩
      have HGS := Lib.hid hgs
      rw [hgs] at S3
      have HS3 := Lib.hid S3
      obtain ⟨s0, s1', s2, s3'⟩ := HS3.out
      clear hb8 hc KS HB HT hr4 hW9 hgs S3 t0 t1 t2 t3
      go_upto_region 19 with fail
      rw [HW9.out, HGS.out]
      clear HW9 HGS
      go_wp2_with fail
      refine (KQ _).out.mono ?_
      rintro e w10 ⟨rfl, hb10⟩
      have hc : Below w10.heap.size w10 (w10.alloc (.cells #[.int .i64 r5.code, .int .i64 r5.kind, .int .i64 r5.num, .string r5.text, .string r5.txt] 31)) := (Below.refl _ _).alloc (Nat.le_refl _) _
      have HB4 := Lib.hid ((HB3.out.trans (hb10.mono HB3.out.size)).trans (hc.mono (HB3.out.trans (hb10.mono HB3.out.size)).size))
      have HT4 := Lib.hid ((HT3.out.step hb10).step hc)
      have HS4 := Lib.hid ((HS3.out.step hb10).step hc)
      have B4 : TB w10.heap.size 1 0 0 ⟨#[]⟩ (w10.alloc (.cells #[.int .i64 r5.code, .int .i64 r5.kind, .int .i64 r5.num, .string r5.text, .string r5.txt] 31)) := by
        have h := tb_of (rc_new w10 r5 31)
        rw [← hr5] at h ⊢
        exact h
      obtain ⟨W11, hW11⟩ : ∃ W11, w10.alloc (.cells #[.int .i64 r5.code, .int .i64 r5.kind, .int .i64 r5.num, .string r5.text, .string r5.txt] 31) = W11 := ⟨_, rfl⟩
      have HW11 := Lib.hid hW11
      rw [hW11] at HB4 HT4 HS4 B4
      obtain ⟨gb, hgb⟩ : ∃ gb, w10.heap.size = gb := ⟨_, rfl⟩
      have HGB := Lib.hid hgb
      rw [hgb] at B4
      clear hb10 hc KQ HB3 HT3 HS3 hr5 hW11 hgb s0 s1' s2 s3'
      go_upto_region 20 with fail
      rw [HW11.out, HGB.out]
      clear HW11 HGB
      have KK := fun dd os => Lib.hid (Calls.regrown_of (w := W11) (d := dd) (os := os) (KI (Sort.grow (redrawn W11 dd) os)).out)
      have x0 := cell_regrown HT4.out.a0; have x1 := cell_regrown HT4.out.a1; have x2 := cell_regrown HT4.out.a2; have x3 := cell_regrown HT4.out.a3
      have s0 := cell_regrown HS4.out.a0; have s1' := cell_regrown HS4.out.a1; have s2 := cell_regrown HS4.out.a2; have s3' := cell_regrown HS4.out.a3
      have b0 := cell_regrown B4.a0; have b1 := cell_regrown B4.a1; have b2 := cell_regrown B4.a2; have b3 := cell_regrown B4.a3
      clear KI HVJ hsj B4
      refine wp_region_quiet_below (by kernel_rfl) (by kernel_rfl) ?_
      repeat (go_big_quiet_step ((go_at_call 9; exact (KK _ _).out)))
      refine wpQuiet_nil ?_
      intro w12 hw12
      have HB5 := Lib.hid (HB4.out.trans ((grown_low hw12).mono HB4.out.size))
      clear hw12 KK x0 x1 x2 x3 s0 s1' s2 s3' b0 b1 b2 b3
      go_wp2_with fail
      go_ret
      exact ⟨rfl, HB5.out⟩
end Go.Proofs.Ytkmclgofghaeoaa.fnTextsW
