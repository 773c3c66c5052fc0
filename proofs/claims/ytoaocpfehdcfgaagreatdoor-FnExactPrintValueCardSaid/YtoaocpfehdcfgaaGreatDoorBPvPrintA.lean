/-
  spec.l9Print of objects, and at every depth; spec.PrintValue.
-/
import Derived.Test.YtoaocpfehdcfgaaGreatDoorBPvPrint
import Derived.Deep.DeepCutAuto
import Derived.Deep.CutRange
import Derived.Lib.QuietBelow
namespace Go.Proofs.YtoaocpfehdcfgaaGreatDoor.SpecPv
open Go.RowKit
open Strs Tree Core Sto Pv Go.Proofs.YtoaocpfehdcfgaaGreatDoor.Data
open SpecSto (OBox obox_new eq_yes eq_no)
open SpecCore (grown_below)
set_option linter.unusedVariables false
set_option linter.unusedSimpArgs false
theorem infoT : (Tryz.prog.info? 9).map (fun i => (i.zero, i.size, i.bytes)) = some (some (.string ByteArray.empty), 1, 16) := by kernel_rfl
set_option maxRecDepth 10000 in
set_option maxHeartbeats 16000000 in
theorem object_print {s : St} {d : Nat} (hd : d ≤ 3) (hst : stoB s 1000 = true) (hsm : SmallSt s) (ih : ∀ d', d = d' + 1 → OkS s d') (dI : Int) (hdI : dI = (d : Int)) (v : V) (w : World) (sb : Nat) (h : SAt w sb s) (hf : fitB s.classes.length s.objects.length 1000 v = true) (hk : v.kind = 6) :
    Calls Tryz.prog 16 #[.pointer (some ⟨sb, 0, none⟩), .agg #[.int .i64 v.kind, .int .i64 v.num, .string v.text], .int .i64 dI] w fun e w' => e = .returned (.string (tx (printD s d v))) ∧ Below w.heap.size w w' := by
  have HX := Lib.hid (vbox_new w v 37)
  have hic := sto_infos hst
  have hlen := infos_len hic
  rw [printD_eq]
  obtain ⟨hn0, hn1⟩ := fit_ref hf hk
  obtain ⟨n, hn⟩ : ∃ n : Nat, v.num = (n : Int) := ⟨v.num.toNat, by omega⟩
  obtain ⟨o, ho⟩ : ∃ o, s.objects[n]? = some o := ⟨_, List.getElem?_eq_getElem (by omega)⟩
  obtain ⟨hof, hofit⟩ := sto_obj hst ho
  obtain ⟨hcl0, hcl1⟩ := form_cls hic hof
  obtain ⟨ck, hck⟩ : ∃ ck : Nat, o.cls = (ck : Int) := ⟨o.cls.toNat, by omega⟩
  obtain ⟨c, hc⟩ : ∃ c, s.classes[ck]? = some c := ⟨_, List.getElem?_eq_getElem (by omega)⟩
  have hcn := class_name hic hc
  have hR : printV s (arrF s d) v = if o.kind = 2 then arrF s d o.fields else art c.name := by
    unfold printV
    rw [if_neg (by omega), if_neg (by omega), if_neg (by omega), if_neg (by omega), if_neg (by omega), if_neg (by omega), if_neg (by omega), hn, Int.toNat_natCast, ho]
    simp only []
    unfold nameOf
    rw [hck, Int.toNat_natCast, hc]
  rw [hR]
  have HS := Lib.hid (h.below HX.out.below)
  obtain ⟨v0, v1, v2, c0, c1, c2, -, -, -, h0, h1, -⟩ := HS.out
  obtain ⟨oa, oc, rfl, hom, -⟩ := id h1
  obtain ⟨ob, oo, rfl, -, vf, vn, y0, y1, y2, y3, hvf, hvn, -⟩ := h1.at ho
  have HF := Lib.hid hvf
  obtain ⟨fa, fc, rfl, hfm, -⟩ := id hvf
  obtain ⟨na, nc, rfl, hnm, -⟩ := id hvn
  unfold maxLen at hom hfm hnm
  obtain ⟨k, m, t⟩ := v
  simp only at hk hn HX HS hf ⊢
  subst hk hn
  have hnI : (n : Int) < (s.objects.length : Int) := by omega
  have m0 := HX.out.a0; have m1 := HX.out.a1
  have H0 := Lib.hid h
  clear h h0 h1 hf hR hvf hvn c0 c2 hn0 hn1
  have HOF := Lib.hid hof
  have HOFIT := Lib.hid hofit
  have HO := Lib.hid ho
  have HC := Lib.hid hc
  clear hof hofit ho hc hcl0 hcl1
  generalize hN : o.fields.length = N at *
  have HN := Lib.hid hN
  clear hN
  generalize o.nums.length = M at *
  obtain ⟨okd, ocl, ofs, ons⟩ := o
  simp only at *
  subst hck
  generalize hON : s.objects.length = ON at *
  have HONL := Lib.hid hON
  clear hON
  generalize hRES : tx (if okd = 2 then arrF s d ofs else art c.name) = RES
  have HRES := Lib.hid hRES
  clear hRES
  go_enter Tryz.func16, Tryz.ntmps16
  go_upto_region 18 with fail
  go_cut [7] from 49 to 56 (fun p wx => ∃ g, p = .pointer (some ⟨g, 0, none⟩) ∧ OBox w g okd (ck : Int) (.slice fa N fc) (.slice na M nc) wx ∧ Below (w.alloc (.cells #[.int .i64 6, .int .i64 n, .string t] 37)).heap.size (w.alloc (.cells #[.int .i64 6, .int .i64 n, .string t] 37)) wx)
  case first =>
    have hbZ : Below (w.alloc (.cells #[.int .i64 6, .int .i64 n, .string t] 37)).heap.size (w.alloc (.cells #[.int .i64 6, .int .i64 n, .string t] 37)) ((w.alloc (.cells #[.int .i64 6, .int .i64 n, .string t] 37)).alloc (.cells #[.int .i64 0, .int .i64 0, .slice none 0 0, .slice none 0 0] 72)) := (Below.refl _ _).alloc (Nat.le_refl _) _
    have e1 := cell_keep hbZ c1; have z0 := cell_keep hbZ y0; have z1 := cell_keep hbZ y1; have z2 := cell_keep hbZ y2; have z3 := cell_keep hbZ y3
    clear hbZ
    go_region
    all_goals
      go_wp2_with fail
      go_meet
      have b := obox_new (w.alloc (.cells #[.int .i64 6, .int .i64 n, .string t] 37)) okd (ck : Int) (.slice fa N fc) (.slice na M nc) 72
      have hbb := b.below
      rw [show (w.alloc (.cells #[.int .i64 6, .int .i64 n, .string t] 37)).heap.size = w.heap.size + 1 by simp] at b
      exact ⟨_, rfl, ⟨(HX.out.below.trans (hbb.mono (by simp))).drew, b.a0, b.a1, b.a2, b.a3⟩, hbb.drew⟩
  case rest =>
  obtain ⟨g, rfl, hob, hab⟩ := hcut
  have HOB := Lib.hid hob
  have HAB := Lib.hid hab
  clear hab
  clear hob y0 y1 y2 y3 m0 m1 c1 HS HX
  have a0 := HOB.out.a0
  by_cases h2 : okd = 2
  case neg =>
    have hr : RES = tx (art c.name) := by rw [← HRES.out, if_neg h2]
    subst hr
    clear HRES
    have g2 := (eq_no h2).2
    obtain ⟨v0', v1', v2', c0, -, -, -, -, -, h0, -⟩ := H0.out.below HOB.out.below
    obtain ⟨ca, cc, rfl, hcm, -⟩ := id h0
    obtain ⟨cb, co, rfl, -, xf, x0, -⟩ := h0.at HC.out
    unfold maxLen at hcm
    have hckI : (ck : Int) < (s.classes.length : Int) := by have := (List.getElem?_eq_some_iff.1 HC.out).1; omega
    have K := fun d os => Lib.hid (Calls.regrown_of (w := wc) (d := d) (os := os) (article_any c.name _ hcn.1 (by omega)))
    have k0 := cell_regrown c0; have k1 := cell_regrown HOB.out.a1; have k2 := cell_regrown x0
    clear h0 c0 x0 h2
    generalize s.classes.length = C at *
    go_upto_region 20 with fail
    refine wp_region_quiet_below (by kernel_rfl) (by kernel_rfl) ?_
    repeat (go_big_quiet_step ((go_at_call 36; exact (K _ _).out)))
    refine wpQuiet_nil ?_
    intro w2 hw2
    have HB2 := Lib.hid (HOB.out.below.trans ((grown_below hw2).mono HOB.out.below.size)); clear hw2 k0 k1 k2
    go_wp2_with fail
    go_ret
    exact ⟨rfl, HB2.out⟩
  have HR2 : Hid (RES = tx (arrF s d ofs)) := Lib.hid (by rw [← HRES.out, if_pos h2])
  clear HRES
  have g2 := (eq_yes h2).2
  have hN50 : N ≤ 50 := by have := form_arr HOF.out h2; rw [← HN.out]; exact this
  cases d with
  | zero =>
    have g3 : (dI == 0) = true := (eq_yes (by omega)).1
    have hr : RES = ⟨#[46, 46, 46]⟩ := HR2.out
    subst hr
    clear HR2
    clear h2
    go_wp2_with fail
    go_ret
    exact ⟨rfl, HOB.out.below⟩
  | succ d =>
  have g3 : (dI == 0) = false := (eq_no (by omega)).1
  have hok := ih d rfl
  have HR3 : Hid (RES = tx (whole (printD s d) ofs)) := Lib.hid HR2.out
  clear HR2
  have HLEN := Lib.hid (fun v (hv : v ∈ ofs) => printD_len hic d v (show valB v = true by have := HOFIT.out v hv; unfold fitB at this; rw [Bool.and_eq_true] at this; exact this.1))
  have KP := fun v (hv : v ∈ ofs) w' (q : SAt w' sb s) => Lib.hid (hok (dI - 1) v w' sb (by omega) q (by rw [HONL.out]; exact HOFIT.out v hv))
  have hdr : 0 < dI ∧ dI ≤ 3 := by omega
  clear hok ih hdI h2
  have HWH : Hid (∀ l : ByteArray, l = tx (JoinMath.acc (txs (printD s d) ofs) spc (txs (printD s d) ofs).length) → tx (cut (⟨#[40]⟩ ++ l ++ ⟨#[41]⟩ : ByteArray).data.toList) = tx (whole (printD s d) ofs)) := Lib.hid (by rintro l rfl; exact whole_is _ _)
  have HTOT : Hid (JoinMath.total (txs (printD s d) ofs) ofs.length ≤ 1048576) := Lib.hid (by
    have := total_txs (printD s d) ofs 200 HLEN.out ofs.length (Nat.le_refl _)
    rw [HN.out] at this ⊢
    have : N * 200 ≤ 50 * 200 := Nat.mul_le_mul_right _ hN50
    omega)
  have HINL : Hid ((inner (printD s d) ofs ofs.length).length ≤ 1048576) := Lib.hid (by
    have := inner_len (printD s d) ofs 200 HLEN.out ofs.length (Nat.le_refl _)
    rw [HN.out] at this ⊢
    have : N * 201 ≤ 50 * 201 := Nat.mul_le_mul_right _ hN50
    omega)
  generalize printD s d = f at *
  obtain ⟨i0, hi, hz0, hz1, hz2⟩ := info_parts infoT
  have a2 := HOB.out.a2
  go_wp2_with fail
  go_loopw [8, 9] (fun v j wq => ∃ i : Nat, i ≤ N ∧ j = .int .i64 i ∧ Hid (wq.ownsRow wc.heap.size 9 1 v i (((txs f ofs).take i).map Value.string)) ∧ Hid (Below wc.heap.size wc wq)) (fun _ j _ => N - (intOf j).toNat)
  case atStart => exact ⟨0, by omega, rfl, Lib.hid (World.ownsRow_lit wc #[] 0 (Nat.le_refl _) (Nat.zero_le _) rfl), Lib.hid ((Below.refl _ _).alloc (Nat.le_refl _) _)⟩
  case round =>
    obtain ⟨i, hi', rfl, HOW, HBW⟩ := hrel
    obtain ⟨pa, pc, rfl⟩ := Kit.row_form HOW.out
    clear a0 a2
    have HOB2 := Lib.hid (HOB.out.step HBW.out)
    have a2 := HOB2.out.a2
    by_cases hlt : i < N
    · obtain ⟨v, hv⟩ : ∃ v, ofs[i]? = some v := ⟨_, List.getElem?_eq_getElem (by rw [HN.out]; exact hlt)⟩
      have HSQ := Lib.hid (H0.out.below HOB2.out.below)
      have HFW := Lib.hid (RowOf.at (RowOf.keep HF.out fun _ _ _ _ q => q.below (w' := wr) (HAB.out.trans (HBW.out.mono HAB.out.size))) hv)
      obtain ⟨fb, fo, rfl, -, d0, d1, d2, -⟩ := HFW.out
      have K := KP v (List.mem_of_getElem? hv) wr HSQ.out
      have HTK := Lib.hid (txs_take f ofs i v hv)
      have hiI : (i : Int) < (N : Int) := by omega
      clear hv HFW
      obtain ⟨vk, vm, vt⟩ := v
      simp only at d0 d1 d2 K HTK
      go_wp2_with fail
      refine K.out.mono ?_
      rintro e w5 ⟨rfl, hb5⟩
      have HOW5 := Lib.hid (own_below HOW.out hb5)
      have HB5 := Lib.hid (HBW.out.trans (hb5.mono HBW.out.size))
      clear hb5 d0 d1 d2 a2 K
      go_wp2_with (at_builtin; refine wpList_append_own _ rfl _ _ 24 rfl wc.heap.size 9 i0 (.string ByteArray.empty) 1 16 Tryz.underlying24 hi hz0 hz1 hz2 rfl (by decide) _ _ _ rfl (HOW5.out.alloc _) ⟨w5.heap.size, 0, none⟩ 1 1 [.string (tx (f ⟨vk, vm, vt⟩))] rfl rfl ?c1 ?c2 ?c3 ?c4 ?c5 ?_)
      case c1 => exact Kit.one_cells _ _ _
      case c2 => exact Kit.one_str _
      case c3 => unfold maxLen; omega
      case c4 => omega
      case c5 => have := HB5.out.size; simp; omega
      intro v' w6 hown' hgr _
      have hb6 := Kit.app_below (Nat.le_refl _) HB5.out HOW5.out hgr
      have HO6 : Hid (w6.ownsRow wc.heap.size 9 1 v' (i + 1) (((txs f ofs).take (i + 1)).map Value.string)) := Lib.hid (by rw [HTK.out, List.map_append, List.map_take]; exact hown')
      have HB6 := Lib.hid hb6
      clear hgr hown' hb6
      go_wp2_with fail
      go_roundw
      case rel => exact ⟨i + 1, by omega, by go_num, HO6, HB6⟩
      case measure => simp [intOf]; omega
    · have hiN : i = N := by omega
      subst hiN
      have HOWN : Hid (wr.ownsRow wc.heap.size 9 1 (.slice pa i pc) (txs f ofs).length ((txs f ofs).map Value.string)) := Lib.hid (by
        have h := HOW.out
        rw [List.take_of_length_le (by rw [txs_len, HN.out]; omega)] at h
        rw [txs_len, HN.out]
        exact h)
      have KJ := Lib.hid (join_own HOWN.out (by rw [txs_len]; exact HTOT.out) (by rw [txs_len, HN.out]; omega) (by have := HINL.out; unfold inner at this; rw [txs_len]; exact this))
      obtain ⟨J, hJ⟩ : ∃ J, J = tx (JoinMath.acc (txs f ofs) spc (txs f ofs).length) := ⟨_, rfl⟩
      rw [← hJ] at KJ
      have hJs : J.size ≤ 1048576 := by
        rw [hJ, tx_size, txs_len]
        have := HINL.out
        unfold inner at this
        exact this
      have KC := fun w' => Lib.hid (cut_any (⟨#[40]⟩ ++ J ++ ⟨#[41]⟩ : ByteArray) w')
      rw [HWH.out J hJ, ← HR3.out] at KC
      clear HWH HTOT HINL HLEN KP HOW HOWN HR3 hJ
      go_wp2_with fail
      refine KJ.out.mono ?_
      rintro e w5 ⟨rfl, hb5⟩
      have HB5 := Lib.hid (HBW.out.trans (hb5.mono HBW.out.size))
      clear hb5 a2 KJ
      go_wp2_with fail
      refine (KC _).out.mono ?_
      rintro e w6 ⟨rfl, rfl⟩
      go_wp2_with fail
      go_ret
      exact ⟨rfl, HOB.out.below.trans (HB5.out.mono HOB.out.below.size)⟩
end Go.Proofs.YtoaocpfehdcfgaaGreatDoor.SpecPv
