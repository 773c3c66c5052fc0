/-
  What impl's checks of classes call: areNames, slices.Contains, slices.Equal over texts, equalInfos, slices.EqualFunc over classes, indexOfClass.
  equalInfos, slices.EqualFunc over classes, indexOfClass.
-/
import Derived.Test.YtekeondbbikkpaaGreatBCheckMath
import Derived.Test.YtekeondbbikkpaaGreatBImplInfos
import Derived.Test.YtekeondbbikkpaaGreatBImplTok
import Derived.Test.YtekeondbbikkpaaGreatBSpecClassesI
import Derived.Deep.QuietTactic
import Derived.BigQuiet
import Derived.Lib.QuietBelow
namespace Go.Proofs.YtekeondbbikkpaaGreat.ImplCore
open Go.RowKit
open Strs Tree Core Go.Proofs.YtekeondbbikkpaaGreat.Data
open ImplTok (Part)
open SpecCore (builtins builtins_len builtins_at is_cases texts_At texts_take)
set_option linter.unusedVariables false
def DrawnC (w w' : World) : Prop := ∃ m, w' = w.drewN m
theorem DrawnC.more {w w' : World} (h : DrawnC w w') (k : Nat) : DrawnC w (w'.drewN k) := by
  obtain ⟨m, rfl⟩ := h
  exact ⟨m + k, by rw [World.drewN_drewN]⟩
theorem DrawnC.below {w w' : World} (h : DrawnC w w') : Below w.heap.size w w' := by
  obtain ⟨m, rfl⟩ := h
  exact ⟨rfl, rfl, rfl, Nat.le_refl _, fun _ _ => rfl⟩
set_option maxHeartbeats 1000000 in
theorem texts_cons (a1 a2 : Option Addr) (c1 c2 n : Nat) (xs ys : List ByteArray) (w : World) (hx : xs.length = n) (hy : ys.length = n) (hm : n ≤ maxLen)
    (h1 : 0 < n → ∃ b o, a1 = some ⟨b, o, none⟩ ∧ ∀ j (h : j < xs.length), w.cell? ⟨b, o + j, none⟩ = some (.string xs[j]))
    (h2 : 0 < n → ∃ b o, a2 = some ⟨b, o, none⟩ ∧ ∀ j (h : j < ys.length), w.cell? ⟨b, o + j, none⟩ = some (.string ys[j])) :
    Calls Tryz.prog 66 #[.slice a1 n c1, .slice a2 n c2] w fun e w' => e = .returned (.bool (decide (xs = ys))) ∧ DrawnC w w' := by
  unfold maxLen at hm
  have H1 := Lib.hid h1; clear h1
  have H2 := Lib.hid h2; clear h2
  have HX := Lib.hid hx; clear hx
  have HY := Lib.hid hy; clear hy
  generalize hD : decide (xs = ys) = D
  have HD := Lib.hid hD; clear hD
  go_enter Tryz.func66, Tryz.ntmps66
  go_wp2_with fail
  go_loopw [13] (fun j wr => ∃ i : Nat, i ≤ n ∧ j = .int .i64 i ∧ DrawnC w wr ∧ Hid (∀ j (h1 : j < xs.length) (h2 : j < ys.length), j < i → xs[j] = ys[j])) (fun j _ => n - (intOf j).toNat)
  case atStart => exact ⟨0, by omega, rfl, ⟨0, rfl⟩, fun j _ _ h => by omega⟩
  case round =>
    obtain ⟨i, hi, rfl, hdr, HS⟩ := hrel
    have HDR := Lib.hid hdr
    have hbw := hdr.below
    clear hdr
    by_cases hlt : i < n
    · have hix : i < xs.length := by rw [HX.out]; exact hlt
      have hiy : i < ys.length := by rw [HY.out]; exact hlt
      obtain ⟨b1, o1, rfl, d1⟩ := H1.out (by omega)
      obtain ⟨b2, o2, rfl, d2⟩ := H2.out (by omega)
      have hc1 : wr.cell? ⟨b1, o1 + i, none⟩ = some (.string xs[i]) := cell_keep hbw (d1 i hix)
      have hc2 : wr.cell? ⟨b2, o2 + i, none⟩ = some (.string ys[i]) := cell_keep hbw (d2 i hiy)
      clear d1 d2 hbw
      generalize hs : xs[i] = s at *
      generalize ht : ys[i] = t at *
      have HE := Lib.hid (And.intro hs ht); clear hs ht
      by_cases hst : s = t
      · subst hst
        go_wp2_with fail
        go_quiet (fail)
        go_wp2_with fail
        go_roundw
        case rel =>
          refine ⟨i + 1, by omega, by go_num, HDR.out.more _, fun j g1 g2 hj => ?_⟩
          by_cases e : j = i
          · subst e; exact HE.out.1.trans HE.out.2.symm
          · exact HS.out j g1 g2 (by omega)
        case measure => simp [intOf]; omega
      · have hD : D = false := by
          rw [← HD.out]
          refine decide_eq_false fun e => hst ?_
          rw [← HE.out.1, ← HE.out.2]
          simp [e]
        subst hD
        have hb := SpecTexts.beq_no hst
        clear hst
        go_wp2_with fail
        go_quiet (fail)
        go_wp2_with fail
        go_ret
        exact ⟨rfl, HDR.out.more _⟩
    · have hD : D = true := by
        rw [← HD.out]
        refine decide_eq_true ?_
        have h1 := HX.out
        have h2 := HY.out
        exact List.ext_getElem (by omega) fun j g1 g2 => HS.out j g1 g2 (by omega)
      subst hD
      clear hbw
      go_wp2_with fail
      go_ret
      exact ⟨rfl, HDR.out⟩
theorem texts_any {lo1 lo2 : Nat} {xs ys : List ByteArray} {v1 v2 : Value} {w : World} (h1 : Texts lo1 w xs v1) (h2 : Texts lo2 w ys v2) :
    Calls Tryz.prog 66 #[v1, v2] w fun e w' => e = .returned (.bool (decide (xs = ys))) ∧ DrawnC w w' := by
  obtain ⟨a1, c1, rfl, m1, _, d1⟩ := h1
  obtain ⟨a2, c2, rfl, m2, _, d2⟩ := h2
  by_cases h : xs.length = ys.length
  · rw [← h]
    refine texts_cons a1 a2 c1 c2 xs.length xs ys w rfl h.symm (Nat.le_trans m1.1 m1.2) (fun hp => ?_) (fun hp => ?_)
    · obtain ⟨b, o, e, _, d⟩ := d1 hp; exact ⟨b, o, e, d⟩
    · obtain ⟨b, o, e, _, d⟩ := d2 (by omega); exact ⟨b, o, e, d⟩
  · have hne : ¬ (xs.length : Int) = (ys.length : Int) := by omega
    rw [decide_eq_false (fun e : xs = ys => h (by rw [e]))]
    clear d1 d2 m1 m2
    generalize xs.length = n1 at *
    generalize ys.length = n2 at *
    go_enter Tryz.func66, Tryz.ntmps66
    go_wp2_with fail
    go_ret
    exact ⟨rfl, 0, rfl⟩
set_option maxHeartbeats 1000000 in
theorem index_any (v : Value) (xs : List ByteArray) (s : ByteArray) (w : World) (h : At w v xs) :
    Calls Tryz.prog 103 #[v, .string s] w fun e w' => e = .returned (.int .i64 (Chk.index xs s)) ∧ w = w' := by
  obtain ⟨a, cap, rfl, hm, hc⟩ := h
  unfold maxLen at hm
  have HC := Lib.hid hc; clear hc
  generalize hn : xs.length = n at *
  have HN := Lib.hid hn; clear hn
  go_enter Tryz.func103, Tryz.ntmps103
  go_wp2_with fail
  go_loop [8] (fun j => ∃ i : Nat, i ≤ n ∧ j = .int .i64 i ∧ s ∉ xs.take i) (fun j => n - (intOf j).toNat)
  case atStart => exact ⟨0, by omega, rfl, by simp⟩
  case round =>
    obtain ⟨i, hi, rfl, hno⟩ := hrel
    have HNO := Lib.hid hno; clear hno
    by_cases hlt : i < n
    · obtain ⟨b, off, rfl, hcell⟩ := HC.out (by omega)
      have hil : i < xs.length := by rw [HN.out]; exact hlt
      have hci := hcell i hlt
      have HX : Hid (xs.getD i ByteArray.empty = xs[i]) := by show _ = _; simp [List.getD, hil]
      rw [HX.out] at hci
      clear hcell
      by_cases he : xs[i] = s
      · have HR : Hid (Chk.index xs s = i) := Lib.hid (Chk.index_at hil he HNO.out)
        have he2 : (s.toList == xs[i].toList) = true := by rw [he]; simp
        clear HX he
        generalize xs[i] = x at *
        go_wp2_with fail
        go_ret
        exact ⟨by rw [HR.out]; rfl, rfl⟩
      · have hf : (s.toList == xs[i].toList) = false := Chk.ba_ne (fun e => he e.symm)
        have HF : Hid (s ∉ xs.take (i + 1)) := Lib.hid (by
          rw [List.take_succ_eq_append_getElem hil, List.mem_append, List.mem_singleton]
          rintro (h | h)
          · exact HNO.out h
          · exact he h.symm)
        clear he HX
        generalize xs[i] = x at *
        go_wp2_with fail
        go_round
        case rel => exact ⟨i + 1, by omega, by go_num, HF.out⟩
        case measure => simp [intOf]; omega
    · have HR : Hid (Chk.index xs s = -1) := Lib.hid (Chk.index_no (by
        have := HNO.out
        rwa [List.take_of_length_le (by rw [HN.out]; omega)] at this))
      go_wp2_with fail
      go_ret
      exact ⟨by rw [HR.out]; rfl, rfl⟩
theorem has_index (xs : List ByteArray) (s : ByteArray) : Tok.has xs s = decide (Chk.index xs s ≥ 0) := by
  rw [Bool.eq_iff_iff, Chk.has_iff, decide_eq_true_iff]
  exact Chk.index_mem.symm
set_option maxHeartbeats 1000000 in
theorem contains_any (v : Value) (xs : List ByteArray) (s : ByteArray) (w : World) (h : At w v xs) :
    Calls Tryz.prog 87 #[v, .string s] w fun e w' => e = .returned (.bool (Tok.has xs s)) ∧ w = w' := by
  have K := Lib.hid (index_any v xs s w h)
  have HV := Lib.hid (has_index xs s)
  generalize Chk.index xs s = q at *
  generalize Tok.has xs s = r at *
  clear h
  go_enter Tryz.func87, Tryz.ntmps87
  go_wp2_with fail
  refine K.out.mono ?_
  rintro e w1 ⟨rfl, rfl⟩
  go_wp2_with fail
  go_ret
  exact ⟨by rw [HV.out]; rfl, rfl⟩
set_option maxHeartbeats 1000000 in
theorem names_any {lo : Nat} {w : World} {v : Value} {ns : List ByteArray} (h : Texts lo w ns v) : Calls Tryz.prog 86 #[v] w (Part (ns.all Tok.isName) w) := by
  obtain ⟨a, cap, rfl, hm, -, hc⟩ := h
  unfold maxLen at hm
  have KN := fun s w => Lib.hid (ImplTok.is_name s w)
  have HC := Lib.hid hc; clear hc
  generalize hD : ns.all Tok.isName = D
  have HD := Lib.hid hD; clear hD
  obtain ⟨n, hn⟩ : ∃ n, ns.length = n := ⟨_, rfl⟩
  rw [hn] at hm ⊢
  have HN := Lib.hid hn; clear hn
  go_enter Tryz.func86, Tryz.ntmps86
  go_wp2_with fail
  go_loopw [7] (fun j wr => ∃ i : Nat, i ≤ n ∧ j = .int .i64 i ∧ Below w.heap.size w wr ∧ Hid (∀ j (h : j < ns.length), j < i → Tok.isName ns[j] = true)) (fun j _ => n - (intOf j).toNat)
  case atStart => exact ⟨0, by omega, rfl, Below.refl _ _, fun j _ h => by omega⟩
  case round =>
    obtain ⟨i, hi, rfl, hbw, HI⟩ := hrel
    by_cases hlt : i < n
    · have hil : i < ns.length := by rw [HN.out]; exact hlt
      obtain ⟨b, off, rfl, _, hd⟩ := HC.out (by have := HN.out; omega)
      have c0 : wr.cell? ⟨b, off + i, none⟩ = some (.string ns[i]) := cell_keep hbw (hd i hil)
      have HB := Lib.hid hbw
      clear hd hbw
      generalize hs : ns[i] = s at *
      have HS := Lib.hid hs; clear hs
      cases hv : Tok.isName s with
      | true =>
        have KS := Lib.hid (KN s wr).out
        rw [hv] at KS
        have HV := Lib.hid hv; clear hv
        go_wp2_with fail
        refine KS.out.mono ?_
        rintro r w1 ⟨rfl, hb1⟩
        have HB1 := Lib.hid (HB.out.trans (hb1.mono HB.out.size))
        clear hb1 c0
        go_wp2_with fail
        go_roundw
        case rel =>
          refine ⟨i + 1, by omega, by go_num, HB1.out, fun j hj hji => ?_⟩
          by_cases e : j = i
          · subst e; rw [HS.out]; exact HV.out
          · exact HI.out j hj (by omega)
        case measure => simp [intOf]; omega
      | false =>
        have KS := Lib.hid (KN s wr).out
        rw [hv] at KS
        have hD : D = false := by
          rw [← HD.out, List.all_eq_false]
          exact ⟨ns[i], List.getElem_mem hil, by rw [HS.out, hv]; simp⟩
        subst hD
        clear hv
        go_wp2_with fail
        refine KS.out.mono ?_
        rintro r w1 ⟨rfl, hb1⟩
        have HB1 := Lib.hid (HB.out.trans (hb1.mono HB.out.size))
        clear hb1 c0
        go_wp2_with fail
        go_ret
        exact ⟨rfl, HB1.out⟩
    · have hD : D = true := by
        rw [← HD.out, List.all_eq_true]
        intro x hx
        obtain ⟨j, hj, rfl⟩ := List.getElem_of_mem hx
        exact HI.out j hj (by have := HN.out; omega)
      subst hD
      go_wp2_with fail
      go_ret
      exact ⟨rfl, hbw⟩
end Go.Proofs.YtekeondbbikkpaaGreat.ImplCore

namespace Go.Proofs.YtekeondbbikkpaaGreat.ImplCore
open Go.RowKit
open Strs Tree Core Go.Proofs.YtekeondbbikkpaaGreat.Data
open ImplTok (Part)
open SpecCore (builtins builtins_len builtins_at is_cases texts_At texts_take)
set_option linter.unusedVariables false
set_option maxRecDepth 10000 in
set_option maxHeartbeats 4000000 in
theorem equal_any {w : World} {a b : I} {va vb : Value} (ha : Texts 0 w a.fields va) (hb : Texts 0 w b.fields vb) :
    Calls Tryz.prog 44 #[.agg #[.string a.name, .int .i64 a.parent, va], .agg #[.string b.name, .int .i64 b.parent, vb]] w fun e w' => e = .returned (.bool (isB a b)) ∧ Below w.heap.size w w' := by
  have hbW : Below w.heap.size w ((w.alloc (.cells #[.string a.name, .int .i64 a.parent, va] 76)).alloc (.cells #[.string b.name, .int .i64 b.parent, vb] 76)) := ((Below.refl _ _).alloc (Nat.le_refl _) _).alloc (by simp) _
  have KT := Lib.hid (texts_any (ha.below hbW) (hb.below hbW))
  have hic := is_cases a b _ rfl
  obtain ⟨pa, ca, rfl, -⟩ := id ha
  obtain ⟨pb, cb, rfl, -⟩ := id hb
  have HB := Lib.hid hbW
  clear ha hb hbW
  generalize isB a b = R at *
  generalize decide (a.fields = b.fields) = F at *
  generalize a.name = an at *
  generalize b.name = bn at *
  generalize a.parent = ap at *
  generalize b.parent = bp at *
  generalize a.fields.length = la at *
  generalize b.fields.length = lb at *
  obtain ⟨W, hW⟩ : ∃ W, W = ((w.alloc (.cells #[.string an, .int .i64 ap, .slice pa la ca] 76)).alloc (.cells #[.string bn, .int .i64 bp, .slice pb lb cb] 76)) := ⟨_, rfl⟩
  have m0 : W.cell? ⟨w.heap.size, 0, none⟩ = some (.string an) := by rw [hW]; go_simp
  have m1 : W.cell? ⟨w.heap.size, 1, none⟩ = some (.int .i64 ap) := by rw [hW]; go_simp
  have m2 : W.cell? ⟨w.heap.size, 2, none⟩ = some (.slice pa la ca) := by rw [hW]; go_simp
  have n0 : W.cell? ⟨w.heap.size + 1, 0, none⟩ = some (.string bn) := by rw [hW]; go_simp
  have n1 : W.cell? ⟨w.heap.size + 1, 1, none⟩ = some (.int .i64 bp) := by rw [hW]; go_simp
  have n2 : W.cell? ⟨w.heap.size + 1, 2, none⟩ = some (.slice pb lb cb) := by rw [hW]; go_simp
  rw [← hW] at HB KT
  have HWW := Lib.hid hW
  clear hW
  rcases hic with ⟨rfl, hic⟩ | ⟨rfl, rfl, rfl, rfl⟩
  · rcases hic with ⟨f1, f2⟩ | ⟨rfl, f1, f2⟩ | ⟨rfl, rfl, rfl⟩
    case inr.inr =>
      go_enter Tryz.func44, Tryz.ntmps44
      go_upto_region 1 with fail
      rw [← HWW.out]
      go_wp2_with fail
      refine KT.out.mono ?_
      rintro e w2 ⟨rfl, hb2⟩
      have HB2 := Lib.hid (HB.out.trans (hb2.below.mono HB.out.size)); clear hb2 m0 m1 m2 n0 n1 n2
      go_wp2_with fail
      go_ret
      exact ⟨rfl, HB2.out⟩
    all_goals
      go_enter Tryz.func44, Tryz.ntmps44
      go_upto_region 1 with fail
      rw [← HWW.out]
      go_wp2_with fail
      go_ret
      exact ⟨rfl, HB.out⟩
  · go_enter Tryz.func44, Tryz.ntmps44
    go_upto_region 1 with fail
    rw [← HWW.out]
    go_wp2_with fail
    refine KT.out.mono ?_
    rintro e w2 ⟨rfl, hb2⟩
    have HB2 := Lib.hid (HB.out.trans (hb2.below.mono HB.out.size)); clear hb2 m0 m1 m2 n0 n1 n2
    go_wp2_with fail
    go_ret
    exact ⟨rfl, HB2.out⟩
theorem enter_equal (args : Array Value) (w : World) : (callFunc 44 args).run Tryz.prog w = .ok (.enter 44 args) w := by kernel_rfl
def eqAt (cs ds : List I) (i : Nat) : Bool := match cs[i]?, ds[i]? with
  | some a, some b => isB a b
  | _, _ => true
def eqB (cs ds : List I) (n : Nat) : Bool := (List.range n).all (eqAt cs ds)
theorem eqAt_of {cs ds : List I} {i : Nat} {a b : I} (h1 : cs[i]? = some a) (h2 : ds[i]? = some b) : eqAt cs ds i = isB a b := by
  unfold eqAt
  rw [h1, h2]
set_option maxRecDepth 10000 in
set_option maxHeartbeats 8000000 in
theorem equalf_any {w : World} {cs ds : List I} {va vb : Value} {n : Nat} (hc : cs.length = n) (hd : ds.length = n) (h1 : IsAt 0 w va cs) (h2 : IsAt 0 w vb ds) :
    Calls Tryz.prog 42 #[va, vb, .func (.func 44) #[] #[]] w fun e w' => e = .returned (.bool (eqB cs ds n)) ∧ Below w.heap.size w w' := by
  have H1 := Lib.hid h1; have H2 := Lib.hid h2
  obtain ⟨pa, ca, rfl, hm1, -⟩ := h1
  obtain ⟨pb, cb, rfl, hm2, -⟩ := h2
  rw [hc] at hm1 ⊢
  rw [hd] at hm2 ⊢
  rw [hc] at H1
  rw [hd] at H2
  have HC := Lib.hid hc; have HD := Lib.hid hd
  unfold maxLen at hm1 hm2
  have HV : Hid (eqB cs ds n = (List.range n).all (eqAt cs ds)) := Lib.hid rfl
  generalize eqB cs ds n = R at *
  clear hc hd
  go_enter Tryz.func42, Tryz.ntmps42
  go_wp2_with fail
  go_loopw [17] (fun j wr => ∃ i : Nat, i ≤ n ∧ j = .int .i64 i ∧ (List.range i).all (eqAt cs ds) = true ∧ Below w.heap.size w wr) (fun j _ => n - (intOf j).toNat)
  case atStart => exact ⟨0, by omega, rfl, rfl, Below.refl _ _⟩
  case round =>
    obtain ⟨i, hi, rfl, hq, hbw⟩ := hrel
    have HQ := Lib.hid hq; have HBW := Lib.hid hbw
    clear hq hbw
    by_cases hlt : i < n
    case neg =>
      have hR : R = true := by
        have h1 : i = n := by omega
        rw [HV.out, ← h1]; exact HQ.out
      subst hR
      go_wp2_with fail
      go_ret
      exact ⟨rfl, HBW.out⟩
    have hil1 : i < cs.length := by rw [HC.out]; exact hlt
    have hil2 : i < ds.length := by rw [HD.out]; exact hlt
    obtain ⟨a, hca⟩ : ∃ a, cs[i]? = some a := ⟨_, List.getElem?_eq_getElem hil1⟩
    obtain ⟨b, hdb⟩ : ∃ b, ds[i]? = some b := ⟨_, List.getElem?_eq_getElem hil2⟩
    obtain ⟨b1, o1, rfl, -, vf1, x0, x1, x2, hft1, hff1, -⟩ := (H1.out.below HBW.out).at hca
    obtain ⟨b2, o2, rfl, -, vf2, y0, y1, y2, hft2, hff2, -⟩ := (H2.out.below HBW.out).at hdb
    have HPI : Hid (eqAt cs ds i = isB a b) := Lib.hid (eqAt_of hca hdb)
    clear hca hdb hff1 hff2
    have hba : Below wr.heap.size wr (wr.alloc (.cells #[.string a.name, .int .i64 a.parent, vf1] 76)) := (Below.refl _ _).alloc (Nat.le_refl _) _
    have z0 := cell_keep hba y0; have z1 := cell_keep hba y1; have z2 := cell_keep hba y2
    have HB2 : Hid (Below wr.heap.size wr ((wr.alloc (.cells #[.string a.name, .int .i64 a.parent, vf1] 76)).alloc (.cells #[.string b.name, .int .i64 b.parent, vf2] 76))) := Lib.hid (((Below.refl _ _).alloc (Nat.le_refl _) _).alloc (by simp) _)
    have KE := Lib.hid (equal_any (a := a) (b := b) (hft1.below HB2.out) (hft2.below HB2.out))
    obtain ⟨fa, fc, rfl, -⟩ := id hft1
    obtain ⟨fb, fd, rfl, -⟩ := id hft2
    clear hba y0 y1 y2 hft1 hft2
    generalize hI : isB a b = I0 at *
    clear hI
    generalize a.name = an at *
    generalize b.name = bn at *
    generalize a.parent = ap at *
    generalize b.parent = bp at *
    generalize a.fields.length = la at *
    generalize b.fields.length = lb at *
    go_wp2_with fail
    refine KE.out.mono ?_
    rintro e w2 ⟨rfl, hb2⟩
    have HB3 := Lib.hid (HBW.out.trans ((HB2.out.trans (hb2.mono HB2.out.size)).mono HBW.out.size))
    clear hb2 x0 x1 x2 z0 z1 z2 KE
    cases I0 with
    | true =>
      have HN : Hid ((List.range (i + 1)).all (eqAt cs ds) = true) := Lib.hid (range_take HQ.out HPI.out)
      go_wp2_with fail
      go_roundw
      case rel => exact ⟨i + 1, by omega, by go_num, HN.out, HB3.out⟩
      case measure => simp [intOf]; omega
    | false =>
      have hR : R = false := by rw [HV.out]; exact range_no hlt HPI.out
      subst hR
      go_wp2_with fail
      go_ret
      exact ⟨rfl, HB3.out⟩
def clsIx (cs : List I) (nm : ByteArray) : Int := Chk.index (cs.map I.name) nm
theorem clsIx_ne (cs : List I) (nm : ByteArray) : (clsIx cs nm != -1) = cs.any (fun x => decide (x.name = nm)) := by
  have h := @Chk.index_mem (cs.map I.name) nm
  have h2 := (Chk.index_lt (cs.map I.name) nm).1
  unfold clsIx
  rw [Bool.eq_iff_iff, List.any_eq_true, bne_iff_ne]
  constructor
  · intro hn
    obtain ⟨x, hx, e⟩ := List.mem_map.1 (h.1 (by omega))
    exact ⟨x, hx, decide_eq_true e⟩
  · rintro ⟨x, hx, e⟩
    have := h.2 (List.mem_map.2 ⟨x, hx, of_decide_eq_true e⟩)
    omega
set_option maxHeartbeats 1000000 in
theorem closure_any {w : World} {cn nm : ByteArray} {pr : Int} {vf : Value} {p : Nat} (hp : w.cell? ⟨p, 0, none⟩ = some (.string nm)) (hv : ∃ a n c, vf = .slice a n c) :
    Calls Tryz.prog 85 #[.agg #[.string cn, .int .i64 pr, vf], .pointer (some ⟨p, 0, none⟩)] w fun e w' => e = .returned (.bool (decide (cn = nm))) ∧ Below w.heap.size w w' := by
  obtain ⟨a, n, c, rfl⟩ := hv
  have hba : Below w.heap.size w (w.alloc (.cells #[.string cn, .int .i64 pr, .slice a n c] 76)) := (Below.refl _ _).alloc (Nat.le_refl _) _
  have hp2 := cell_keep hba hp
  have HB := Lib.hid hba
  clear hba
  by_cases h : cn = nm
  · have e1 := (SpecCore.str_yes h).1
    rw [decide_eq_true h]
    clear h
    go_enter Tryz.func85, Tryz.ntmps85
    go_wp2_with fail
    go_ret
    exact ⟨rfl, HB.out⟩
  · have e1 := SpecCore.str_no h
    rw [decide_eq_false h]
    clear h
    go_enter Tryz.func85, Tryz.ntmps85
    go_wp2_with fail
    go_ret
    exact ⟨rfl, HB.out⟩
set_option maxRecDepth 10000 in
set_option maxHeartbeats 4000000 in
theorem indexf_any {w : World} {cs : List I} {v : Value} {nm : ByteArray} {p : Nat} (h : IsAt 0 w v cs) (hp : w.cell? ⟨p, 0, none⟩ = some (.string nm)) :
    Calls Tryz.prog 84 #[v, .func (.func 85) #[] #[.pointer (some ⟨p, 0, none⟩)]] w fun e w' => e = .returned (.int .i64 (clsIx cs nm)) ∧ Below w.heap.size w w' := by
  have H1 := Lib.hid h
  obtain ⟨pa, ca, rfl, hm1, -⟩ := h
  generalize hc : cs.length = n at *
  have HC := Lib.hid hc; have HP := Lib.hid hp
  clear hc hp
  unfold maxLen at hm1
  go_enter Tryz.func84, Tryz.ntmps84
  go_wp2_with fail
  go_loopw [8] (fun j wr => ∃ i : Nat, i ≤ n ∧ j = .int .i64 i ∧ nm ∉ (cs.map I.name).take i ∧ Below w.heap.size w wr) (fun j _ => n - (intOf j).toNat)
  case atStart => exact ⟨0, by omega, rfl, by simp, Below.refl _ _⟩
  case round =>
    obtain ⟨i, hi, rfl, hq, hbw⟩ := hrel
    have HQ := Lib.hid hq; have HBW := Lib.hid hbw
    clear hq hbw
    by_cases hlt : i < n
    case neg =>
      have HR : Hid (clsIx cs nm = -1) := Lib.hid (Chk.index_no (by
        have := HQ.out
        rwa [List.take_of_length_le (by rw [List.length_map, HC.out]; omega)] at this))
      go_wp2_with fail
      go_ret
      exact ⟨by rw [HR.out]; rfl, HBW.out⟩
    have hil1 : i < cs.length := by rw [HC.out]; exact hlt
    obtain ⟨a, hca⟩ : ∃ a, cs[i]? = some a := ⟨_, List.getElem?_eq_getElem hil1⟩
    obtain ⟨b1, o1, rfl, -, vf1, x0, x1, x2, hft1, hff1, -⟩ := (H1.out.below HBW.out).at hca
    have hvf : ∃ a n c, vf1 = .slice a n c := by obtain ⟨q, c, rfl, -⟩ := hft1; exact ⟨_, _, _, rfl⟩
    have KE := Lib.hid (closure_any (cn := a.name) (pr := a.parent) (cell_keep HBW.out HP.out) hvf)
    have hiln : i < (cs.map I.name).length := by rw [List.length_map]; exact hil1
    have HX : Hid ((cs.map I.name)[i] = a.name) := Lib.hid (by
      rw [List.getElem_map]
      rw [List.getElem?_eq_getElem hil1] at hca
      rw [Option.some.inj hca])
    obtain ⟨fa, fl, fc, rfl⟩ := hvf
    clear hft1 hff1 hca
    generalize a.name = an at *
    generalize a.parent = ap at *
    by_cases he : an = nm
    · have HR : Hid (clsIx cs nm = i) := Lib.hid (Chk.index_at hiln (HX.out.trans he) HQ.out)
      rw [decide_eq_true he] at KE
      clear he HX hiln
      go_wp2_with fail
      refine KE.out.mono ?_
      rintro e w2 ⟨rfl, hb2⟩
      have HB3 := Lib.hid (HBW.out.trans (hb2.mono HBW.out.size))
      clear hb2 x0 x1 x2 KE
      go_wp2_with fail
      go_ret
      exact ⟨by rw [HR.out]; rfl, HB3.out⟩
    · have HF : Hid (nm ∉ (cs.map I.name).take (i + 1)) := Lib.hid (by
        rw [List.take_succ_eq_append_getElem hiln, List.mem_append, List.mem_singleton]
        rintro (h | h)
        · exact HQ.out h
        · exact he (HX.out.symm.trans h.symm))
      rw [decide_eq_false he] at KE
      clear he HX hiln
      go_wp2_with fail
      refine KE.out.mono ?_
      rintro e w2 ⟨rfl, hb2⟩
      have HB3 := Lib.hid (HBW.out.trans (hb2.mono HBW.out.size))
      clear hb2 x0 x1 x2 KE
      go_wp2_with fail
      go_roundw
      case rel => exact ⟨i + 1, by omega, by go_num, HF.out, HB3.out⟩
      case measure => simp [intOf]; omega
set_option maxHeartbeats 1000000 in
theorem indexc_any {w : World} {cs : List I} {v : Value} {nm : ByteArray} (h : IsAt 0 w v cs) :
    Calls Tryz.prog 68 #[v, .string nm] w fun e w' => e = .returned (.int .i64 (clsIx cs nm)) ∧ Below w.heap.size w w' := by
  have hba : Below w.heap.size w (w.alloc (.cells #[.string nm] 9)) := (Below.refl _ _).alloc (Nat.le_refl _) _
  have K := Lib.hid (indexf_any (nm := nm) (p := w.heap.size) (h.below hba) (by go_simp))
  have HB := Lib.hid hba
  obtain ⟨pa, ca, rfl, -⟩ := h
  clear hba
  generalize cs.length = n at *
  go_enter Tryz.func68, Tryz.ntmps68
  go_wp2_with fail
  refine K.out.mono ?_
  rintro e w2 ⟨rfl, hb2⟩
  have HB3 := Lib.hid (HB.out.trans (hb2.mono HB.out.size))
  clear hb2 K
  go_wp2_with fail
  go_ret
  exact ⟨rfl, HB3.out⟩
end Go.Proofs.YtekeondbbikkpaaGreat.ImplCore
