/-
  equalInfos, slices.EqualFunc over classes, indexOfClass.
-/
import Derived.Test.YtoaocpfehdcfgaaGreatBImplClsLib
import Derived.Lib.QuietBelow
namespace Go.Proofs.YtoaocpfehdcfgaaGreat.ImplCore
open Go.RowKit
open Strs Tree Core Go.Proofs.YtoaocpfehdcfgaaGreat.Data
open ImplTok (Part)
open SpecCore (builtins builtins_len builtins_at is_cases texts_At texts_take)
set_option linter.unusedVariables false
set_option maxRecDepth 10000 in
set_option maxHeartbeats 4000000 in
theorem equal_any {w : World} {a b : I} {va vb : Value} (ha : Texts 0 w a.fields va) (hb : Texts 0 w b.fields vb) :
    Calls Tryz.prog 57 #[.agg #[.string a.name, .int .i64 a.parent, va], .agg #[.string b.name, .int .i64 b.parent, vb]] w fun e w' => e = .returned (.bool (isB a b)) ∧ Below w.heap.size w w' := by
  have hbW : Below w.heap.size w ((w.alloc (.cells #[.string a.name, .int .i64 a.parent, va] 75)).alloc (.cells #[.string b.name, .int .i64 b.parent, vb] 75)) := ((Below.refl _ _).alloc (Nat.le_refl _) _).alloc (by simp) _
  have KT := Lib.hid (texts_any (ha.below hbW) (hb.below hbW))
  have hic := is_cases a b _ rfl
  obtain ⟨pa, ca, rfl, -⟩ := id ha
  obtain ⟨pb, cb, rfl, -⟩ := id hb
  have HB := Lib.hid hbW
  clear ha hb hbW
  generalize isB a b = R at *
  generalize decide (a.fields = b.fields) = F at *
  generalize a.name = an at *
  generalize b.name = bn at *
  generalize a.parent = ap at *
  generalize b.parent = bp at *
  generalize a.fields.length = la at *
  generalize b.fields.length = lb at *
  obtain ⟨W, hW⟩ : ∃ W, W = ((w.alloc (.cells #[.string an, .int .i64 ap, .slice pa la ca] 75)).alloc (.cells #[.string bn, .int .i64 bp, .slice pb lb cb] 75)) := ⟨_, rfl⟩
  have m0 : W.cell? ⟨w.heap.size, 0, none⟩ = some (.string an) := by rw [hW]; go_simp
  have m1 : W.cell? ⟨w.heap.size, 1, none⟩ = some (.int .i64 ap) := by rw [hW]; go_simp
  have m2 : W.cell? ⟨w.heap.size, 2, none⟩ = some (.slice pa la ca) := by rw [hW]; go_simp
  have n0 : W.cell? ⟨w.heap.size + 1, 0, none⟩ = some (.string bn) := by rw [hW]; go_simp
  have n1 : W.cell? ⟨w.heap.size + 1, 1, none⟩ = some (.int .i64 bp) := by rw [hW]; go_simp
  have n2 : W.cell? ⟨w.heap.size + 1, 2, none⟩ = some (.slice pb lb cb) := by rw [hW]; go_simp
  rw [← hW] at HB KT
  have HWW := Lib.hid hW
  clear hW
  rcases hic with ⟨rfl, hic⟩ | ⟨rfl, rfl, rfl, rfl⟩
  · rcases hic with ⟨f1, f2⟩ | ⟨rfl, f1, f2⟩ | ⟨rfl, rfl, rfl⟩
    case inr.inr =>
      go_enter Tryz.func57, Tryz.ntmps57
      go_upto_region 1 with fail
      rw [← HWW.out]
      go_wp2_with fail
      refine KT.out.mono ?_
      rintro e w2 ⟨rfl, hb2⟩
      have HB2 := Lib.hid (HB.out.trans (hb2.below.mono HB.out.size)); clear hb2 m0 m1 m2 n0 n1 n2
      go_wp2_with fail
      go_ret
      exact ⟨rfl, HB2.out⟩
    all_goals
      go_enter Tryz.func57, Tryz.ntmps57
      go_upto_region 1 with fail
      rw [← HWW.out]
      go_wp2_with fail
      go_ret
      exact ⟨rfl, HB.out⟩
  · go_enter Tryz.func57, Tryz.ntmps57
    go_upto_region 1 with fail
    rw [← HWW.out]
    go_wp2_with fail
    refine KT.out.mono ?_
    rintro e w2 ⟨rfl, hb2⟩
    have HB2 := Lib.hid (HB.out.trans (hb2.below.mono HB.out.size)); clear hb2 m0 m1 m2 n0 n1 n2
    go_wp2_with fail
    go_ret
    exact ⟨rfl, HB2.out⟩
theorem enter_equal (args : Array Value) (w : World) : (callFunc 57 args).run Tryz.prog w = .ok (.enter 57 args) w := by kernel_rfl
def eqAt (cs ds : List I) (i : Nat) : Bool := match cs[i]?, ds[i]? with
  | some a, some b => isB a b
  | _, _ => true
def eqB (cs ds : List I) (n : Nat) : Bool := (List.range n).all (eqAt cs ds)
theorem eqAt_of {cs ds : List I} {i : Nat} {a b : I} (h1 : cs[i]? = some a) (h2 : ds[i]? = some b) : eqAt cs ds i = isB a b := by
  unfold eqAt
  rw [h1, h2]
set_option maxRecDepth 10000 in
set_option maxHeartbeats 8000000 in
theorem equalf_any {w : World} {cs ds : List I} {va vb : Value} {n : Nat} (hc : cs.length = n) (hd : ds.length = n) (h1 : IsAt 0 w va cs) (h2 : IsAt 0 w vb ds) :
    Calls Tryz.prog 55 #[va, vb, .func (.func 57) #[] #[]] w fun e w' => e = .returned (.bool (eqB cs ds n)) ∧ Below w.heap.size w w' := by
  have H1 := Lib.hid h1; have H2 := Lib.hid h2
  obtain ⟨pa, ca, rfl, hm1, -⟩ := h1
  obtain ⟨pb, cb, rfl, hm2, -⟩ := h2
  rw [hc] at hm1 ⊢
  rw [hd] at hm2 ⊢
  rw [hc] at H1
  rw [hd] at H2
  have HC := Lib.hid hc; have HD := Lib.hid hd
  unfold maxLen at hm1 hm2
  have HV : Hid (eqB cs ds n = (List.range n).all (eqAt cs ds)) := Lib.hid rfl
  generalize eqB cs ds n = R at *
  clear hc hd
  go_enter Tryz.func55, Tryz.ntmps55
  go_wp2_with fail
  go_loopw [17] (fun j wr => ∃ i : Nat, i ≤ n ∧ j = .int .i64 i ∧ (List.range i).all (eqAt cs ds) = true ∧ Below w.heap.size w wr) (fun j _ => n - (intOf j).toNat)
  case atStart => exact ⟨0, by omega, rfl, rfl, Below.refl _ _⟩
  case round =>
    obtain ⟨i, hi, rfl, hq, hbw⟩ := hrel
    have HQ := Lib.hid hq; have HBW := Lib.hid hbw
    clear hq hbw
    by_cases hlt : i < n
    case neg =>
      have hR : R = true := by
        have h1 : i = n := by omega
        rw [HV.out, ← h1]; exact HQ.out
      subst hR
      go_wp2_with fail
      go_ret
      exact ⟨rfl, HBW.out⟩
    have hil1 : i < cs.length := by rw [HC.out]; exact hlt
    have hil2 : i < ds.length := by rw [HD.out]; exact hlt
    obtain ⟨a, hca⟩ : ∃ a, cs[i]? = some a := ⟨_, List.getElem?_eq_getElem hil1⟩
    obtain ⟨b, hdb⟩ : ∃ b, ds[i]? = some b := ⟨_, List.getElem?_eq_getElem hil2⟩
    obtain ⟨b1, o1, rfl, -, vf1, x0, x1, x2, hft1, hff1, -⟩ := (H1.out.below HBW.out).at hca
    obtain ⟨b2, o2, rfl, -, vf2, y0, y1, y2, hft2, hff2, -⟩ := (H2.out.below HBW.out).at hdb
    have HPI : Hid (eqAt cs ds i = isB a b) := Lib.hid (eqAt_of hca hdb)
    clear hca hdb hff1 hff2
    have hba : Below wr.heap.size wr (wr.alloc (.cells #[.string a.name, .int .i64 a.parent, vf1] 75)) := (Below.refl _ _).alloc (Nat.le_refl _) _
    have z0 := cell_keep hba y0; have z1 := cell_keep hba y1; have z2 := cell_keep hba y2
    have HB2 : Hid (Below wr.heap.size wr ((wr.alloc (.cells #[.string a.name, .int .i64 a.parent, vf1] 75)).alloc (.cells #[.string b.name, .int .i64 b.parent, vf2] 75))) := Lib.hid (((Below.refl _ _).alloc (Nat.le_refl _) _).alloc (by simp) _)
    have KE := Lib.hid (equal_any (a := a) (b := b) (hft1.below HB2.out) (hft2.below HB2.out))
    obtain ⟨fa, fc, rfl, -⟩ := id hft1
    obtain ⟨fb, fd, rfl, -⟩ := id hft2
    clear hba y0 y1 y2 hft1 hft2
    generalize hI : isB a b = I0 at *
    clear hI
    generalize a.name = an at *
    generalize b.name = bn at *
    generalize a.parent = ap at *
    generalize b.parent = bp at *
    generalize a.fields.length = la at *
    generalize b.fields.length = lb at *
    go_wp2_with fail
    refine KE.out.mono ?_
    rintro e w2 ⟨rfl, hb2⟩
    have HB3 := Lib.hid (HBW.out.trans ((HB2.out.trans (hb2.mono HB2.out.size)).mono HBW.out.size))
    clear hb2 x0 x1 x2 z0 z1 z2 KE
    cases I0 with
    | true =>
      have HN : Hid ((List.range (i + 1)).all (eqAt cs ds) = true) := Lib.hid (range_take HQ.out HPI.out)
      go_wp2_with fail
      go_roundw
      case rel => exact ⟨i + 1, by omega, by go_num, HN.out, HB3.out⟩
      case measure => simp [intOf]; omega
    | false =>
      have hR : R = false := by rw [HV.out]; exact range_no hlt HPI.out
      subst hR
      go_wp2_with fail
      go_ret
      exact ⟨rfl, HB3.out⟩
def clsIx (cs : List I) (nm : ByteArray) : Int := Chk.index (cs.map I.name) nm
theorem clsIx_ne (cs : List I) (nm : ByteArray) : (clsIx cs nm != -1) = cs.any (fun x => decide (x.name = nm)) := by
  have h := @Chk.index_mem (cs.map I.name) nm
  have h2 := (Chk.index_lt (cs.map I.name) nm).1
  unfold clsIx
  rw [Bool.eq_iff_iff, List.any_eq_true, bne_iff_ne]
  constructor
  · intro hn
    obtain ⟨x, hx, e⟩ := List.mem_map.1 (h.1 (by omega))
    exact ⟨x, hx, decide_eq_true e⟩
  · rintro ⟨x, hx, e⟩
    have := h.2 (List.mem_map.2 ⟨x, hx, of_decide_eq_true e⟩)
    omega
set_option maxHeartbeats 1000000 in
theorem closure_any {w : World} {cn nm : ByteArray} {pr : Int} {vf : Value} {p : Nat} (hp : w.cell? ⟨p, 0, none⟩ = some (.string nm)) (hv : ∃ a n c, vf = .slice a n c) :
    Calls Tryz.prog 87 #[.agg #[.string cn, .int .i64 pr, vf], .pointer (some ⟨p, 0, none⟩)] w fun e w' => e = .returned (.bool (decide (cn = nm))) ∧ Below w.heap.size w w' := by
  obtain ⟨a, n, c, rfl⟩ := hv
  have hba : Below w.heap.size w (w.alloc (.cells #[.string cn, .int .i64 pr, .slice a n c] 75)) := (Below.refl _ _).alloc (Nat.le_refl _) _
  have hp2 := cell_keep hba hp
  have HB := Lib.hid hba
  clear hba
  by_cases h : cn = nm
  · have e1 := (SpecCore.str_yes h).1
    rw [decide_eq_true h]
    clear h
    go_enter Tryz.func87, Tryz.ntmps87
    go_wp2_with fail
    go_ret
    exact ⟨rfl, HB.out⟩
  · have e1 := SpecCore.str_no h
    rw [decide_eq_false h]
    clear h
    go_enter Tryz.func87, Tryz.ntmps87
    go_wp2_with fail
    go_ret
    exact ⟨rfl, HB.out⟩
set_option maxRecDepth 10000 in
set_option maxHeartbeats 4000000 in
theorem indexf_any {w : World} {cs : List I} {v : Value} {nm : ByteArray} {p : Nat} (h : IsAt 0 w v cs) (hp : w.cell? ⟨p, 0, none⟩ = some (.string nm)) :
    Calls Tryz.prog 86 #[v, .func (.func 87) #[] #[.pointer (some ⟨p, 0, none⟩)]] w fun e w' => e = .returned (.int .i64 (clsIx cs nm)) ∧ Below w.heap.size w w' := by
  have H1 := Lib.hid h
  obtain ⟨pa, ca, rfl, hm1, -⟩ := h
  generalize hc : cs.length = n at *
  have HC := Lib.hid hc; have HP := Lib.hid hp
  clear hc hp
  unfold maxLen at hm1
  go_enter Tryz.func86, Tryz.ntmps86
  go_wp2_with fail
  go_loopw [8] (fun j wr => ∃ i : Nat, i ≤ n ∧ j = .int .i64 i ∧ nm ∉ (cs.map I.name).take i ∧ Below w.heap.size w wr) (fun j _ => n - (intOf j).toNat)
  case atStart => exact ⟨0, by omega, rfl, by simp, Below.refl _ _⟩
  case round =>
    obtain ⟨i, hi, rfl, hq, hbw⟩ := hrel
    have HQ := Lib.hid hq; have HBW := Lib.hid hbw
    clear hq hbw
    by_cases hlt : i < n
    case neg =>
      have HR : Hid (clsIx cs nm = -1) := Lib.hid (Chk.index_no (by
        have := HQ.out
        rwa [List.take_of_length_le (by rw [List.length_map, HC.out]; omega)] at this))
      go_wp2_with fail
      go_ret
      exact ⟨by rw [HR.out]; rfl, HBW.out⟩
    have hil1 : i < cs.length := by rw [HC.out]; exact hlt
    obtain ⟨a, hca⟩ : ∃ a, cs[i]? = some a := ⟨_, List.getElem?_eq_getElem hil1⟩
    obtain ⟨b1, o1, rfl, -, vf1, x0, x1, x2, hft1, hff1, -⟩ := (H1.out.below HBW.out).at hca
    have hvf : ∃ a n c, vf1 = .slice a n c := by obtain ⟨q, c, rfl, -⟩ := hft1; exact ⟨_, _, _, rfl⟩
    have KE := Lib.hid (closure_any (cn := a.name) (pr := a.parent) (cell_keep HBW.out HP.out) hvf)
    have hiln : i < (cs.map I.name).length := by rw [List.length_map]; exact hil1
    have HX : Hid ((cs.map I.name)[i] = a.name) := Lib.hid (by
      rw [List.getElem_map]
      rw [List.getElem?_eq_getElem hil1] at hca
      rw [Option.some.inj hca])
    obtain ⟨fa, fl, fc, rfl⟩ := hvf
    clear hft1 hff1 hca
    generalize a.name = an at *
    generalize a.parent = ap at *
    by_cases he : an = nm
    · have HR : Hid (clsIx cs nm = i) := Lib.hid (Chk.index_at hiln (HX.out.trans he) HQ.out)
      rw [decide_eq_true he] at KE
      clear he HX hiln
      go_wp2_with fail
      refine KE.out.mono ?_
      rintro e w2 ⟨rfl, hb2⟩
      have HB3 := Lib.hid (HBW.out.trans (hb2.mono HBW.out.size))
      clear hb2 x0 x1 x2 KE
      go_wp2_with fail
      go_ret
      exact ⟨by rw [HR.out]; rfl, HB3.out⟩
    · have HF : Hid (nm ∉ (cs.map I.name).take (i + 1)) := Lib.hid (by
        rw [List.take_succ_eq_append_getElem hiln, List.mem_append, List.mem_singleton]
        rintro (h | h)
        · exact HQ.out h
        · exact he (HX.out.symm.trans h.symm))
      rw [decide_eq_false he] at KE
      clear he HX hiln
      go_wp2_with fail
      refine KE.out.mono ?_
      rintro e w2 ⟨rfl, hb2⟩
      have HB3 := Lib.hid (HBW.out.trans (hb2.mono HBW.out.size))
      clear hb2 x0 x1 x2 KE
      go_wp2_with fail
      go_roundw
      case rel => exact ⟨i + 1, by omega, by go_num, HF.out, HB3.out⟩
      case measure => simp [intOf]; omega
set_option maxHeartbeats 1000000 in
theorem indexc_any {w : World} {cs : List I} {v : Value} {nm : ByteArray} (h : IsAt 0 w v cs) :
    Calls Tryz.prog 74 #[v, .string nm] w fun e w' => e = .returned (.int .i64 (clsIx cs nm)) ∧ Below w.heap.size w w' := by
  have hba : Below w.heap.size w (w.alloc (.cells #[.string nm] 9)) := (Below.refl _ _).alloc (Nat.le_refl _) _
  have K := Lib.hid (indexf_any (nm := nm) (p := w.heap.size) (h.below hba) (by go_simp))
  have HB := Lib.hid hba
  obtain ⟨pa, ca, rfl, -⟩ := h
  clear hba
  generalize cs.length = n at *
  go_enter Tryz.func74, Tryz.ntmps74
  go_wp2_with fail
  refine K.out.mono ?_
  rintro e w2 ⟨rfl, hb2⟩
  have HB3 := Lib.hid (HB.out.trans (hb2.mono HB.out.size))
  clear hb2 K
  go_wp2_with fail
  go_ret
  exact ⟨rfl, HB3.out⟩
end Go.Proofs.YtoaocpfehdcfgaaGreat.ImplCore
