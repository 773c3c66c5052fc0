/-
  laws.eqExpr and eqExprS: two values that read as the same tree are equal, and nothing that was there is written.
  The walk of laws.FnExactParseExpr: it returns true at every text.
-/
import Derived.Test.YtbflpocbjdccgaaGreatDoorBTreeBox
import Derived.Test.YtbflpocbjdccgaaGreatDoorBMarkTop
import Derived.Test.YtbflpocbjdccgaaGreatDoorBImplParse
import Derived.Test.YtbflpocbjdccgaaGreatDoorBSpecParseW
import Derived.OpenShut
namespace Go.Proofs.YtbflpocbjdccgaaGreatDoor.TreeEq
open Go.RowKit
open Strs Tree Texts

/-- What eqExpr says of two copies of a tree. -/
def Ok (e : E) : Prop := ∀ (lo1 lo2 : Nat) (w : World) (xn xk yn yk : Value), NodeAt lo1 w e xn xk → NodeAt lo2 w e yn yk →
  Calls Tryz.prog 6 #[.agg #[.int .i64 e.kind, .string e.text, .int .i64 e.num, xn, xk], .agg #[.int .i64 e.kind, .string e.text, .int .i64 e.num, yn, yk]] w fun r w' => r = .returned (.bool true) ∧ Below w.heap.size w w'

theorem kids_nil (a1 a2 : Option Addr) (c1 c2 : Nat) (w : World) :
    Calls Tryz.prog 17 #[.slice a1 0 c1, .slice a2 0 c2] w fun e w' => e = .returned (.bool true) ∧ Below w.heap.size w w' := by
  go_enter Tryz.func17, Tryz.ntmps17
  go_wp2_with fail
  refine wp_loop_rounds 1 ?_
  rw [rounds_succ]
  go_wp2_with fail
  go_ret
  exact ⟨rfl, Below.refl _ _⟩

set_option maxHeartbeats 1000000 in
theorem kids_cons (lo1 lo2 b1 o1 c1 b2 o2 c2 n : Nat) (ks : List E) (w : World) (ih : ∀ e, e ∈ ks → Ok e) (hn : ks.length = n) (hm : n ≤ maxLen) (h1 : Row lo1 w b1 ks o1) (h2 : Row lo2 w b2 ks o2) :
    Calls Tryz.prog 17 #[.slice (some ⟨b1, o1, none⟩) n c1, .slice (some ⟨b2, o2, none⟩) n c2] w fun e w' => e = .returned (.bool true) ∧ Below w.heap.size w w' := by
  unfold maxLen at hm
  have HN := Lib.hid hn; clear hn
  have H1 := Lib.hid h1; clear h1
  have H2 := Lib.hid h2; clear h2
  have IH := Lib.hid ih; clear ih
  go_enter Tryz.func17, Tryz.ntmps17
  go_wp2_with fail
  go_loopw [5] (fun j wr => ∃ i : Nat, i ≤ n ∧ j = .int .i64 i ∧ Below w.heap.size w wr) (fun j _ => n - (intOf j).toNat)
  case atStart => exact ⟨0, by omega, rfl, Below.refl _ _⟩
  case round =>
    obtain ⟨i, hi, rfl, hbw⟩ := hrel
    by_cases hlt : i < n
    · have hil : i < ks.length := by rw [HN.out]; exact hlt
      obtain ⟨xn, xk, a0, a1, a2, a3, a4, hx⟩ := (row_iff ks o1).1 H1.out i hil
      obtain ⟨yn, yk, d0, d1, d2, d3, d4, hy⟩ := (row_iff ks o2).1 H2.out i hil
      have p0 := cell_keep hbw a0
      have p1 := cell_keep hbw a1
      have p2 := cell_keep hbw a2
      have p3 := cell_keep hbw a3
      have p4 := cell_keep hbw a4
      have q0 := cell_keep hbw d0
      have q1 := cell_keep hbw d1
      have q2 := cell_keep hbw d2
      have q3 := cell_keep hbw d3
      have q4 := cell_keep hbw d4
      have KI := fun w' (hb : Below w.heap.size w w') => Lib.hid (IH.out _ (List.getElem_mem hil) lo1 lo2 w' xn xk yn yk (hx.below hb) (hy.below hb))
      clear a0 a1 a2 a3 a4 d0 d1 d2 d3 d4 hx hy
      generalize ks[i] = k at *
      have HB := Lib.hid hbw; clear hbw
      go_wp2_with fail
      go_region_held3 (fun w' => w'.cell? ⟨b1, o1 + i * 5, none⟩ = some (.int .i64 k.kind) ∧ w'.cell? ⟨b1, o1 + i * 5 + 1, none⟩ = some (.string k.text) ∧ w'.cell? ⟨b1, o1 + i * 5 + 2, none⟩ = some (.int .i64 k.num) ∧ w'.cell? ⟨b1, o1 + i * 5 + 3, none⟩ = some xn ∧ w'.cell? ⟨b1, o1 + i * 5 + 4, none⟩ = some xk ∧ w'.cell? ⟨b2, o2 + i * 5, none⟩ = some (.int .i64 k.kind) ∧ w'.cell? ⟨b2, o2 + i * 5 + 1, none⟩ = some (.string k.text) ∧ w'.cell? ⟨b2, o2 + i * 5 + 2, none⟩ = some (.int .i64 k.num) ∧ w'.cell? ⟨b2, o2 + i * 5 + 3, none⟩ = some yn ∧ w'.cell? ⟨b2, o2 + i * 5 + 4, none⟩ = some yk)
        (first | exact ⟨p0, p1, p2, p3, p4, q0, q1, q2, q3, q4⟩ | exact ⟨cell_keep hb1 (show wr.drew.cell? _ = _ from p0), cell_keep hb1 (show wr.drew.cell? _ = _ from p1), cell_keep hb1 (show wr.drew.cell? _ = _ from p2), cell_keep hb1 (show wr.drew.cell? _ = _ from p3), cell_keep hb1 (show wr.drew.cell? _ = _ from p4), cell_keep hb1 (show wr.drew.cell? _ = _ from q0), cell_keep hb1 (show wr.drew.cell? _ = _ from q1), cell_keep hb1 (show wr.drew.cell? _ = _ from q2), cell_keep hb1 (show wr.drew.cell? _ = _ from q3), cell_keep hb1 (show wr.drew.cell? _ = _ from q4)⟩ | go_keep)
        (first | (go_at_call 6; refine (KI _ HB.out.drew).out.mono ?_; rintro e w1 ⟨rfl, hb1⟩))
      all_goals go_wp2_with fail
      go_roundw
      case rel => exact ⟨i + 1, by omega, by go_num, HB.out.drew.trans (hb1.mono HB.out.size)⟩
      case measure => simp [intOf]; omega
    · go_wp2_with fail
      go_ret
      exact ⟨rfl, hbw⟩

theorem kids_any {lo1 lo2 : Nat} {ks : List E} {v1 v2 : Value} {w : World} (ih : ∀ e, e ∈ ks → Ok e) (h1 : KidsAt lo1 w ks v1) (h2 : KidsAt lo2 w ks v2) :
    Calls Tryz.prog 17 #[v1, v2] w fun e w' => e = .returned (.bool true) ∧ Below w.heap.size w w' := by
  obtain ⟨a1, c1, rfl, hm, hc1⟩ := h1
  obtain ⟨a2, c2, rfl, _, hc2⟩ := h2
  by_cases hp : 0 < ks.length
  · obtain ⟨b1, o1, rfl, _, hd1⟩ := hc1 hp
    obtain ⟨b2, o2, rfl, _, hd2⟩ := hc2 hp
    exact kids_cons lo1 lo2 b1 o1 c1 b2 o2 c2 _ ks w ih rfl (Nat.le_trans hm.1 hm.2) hd1 hd2
  · rw [show ks.length = 0 by omega]
    exact kids_nil a1 a2 c1 c2 w

set_option maxHeartbeats 1000000 in
/-- Both values read as the same tree: eqExpr says so. -/
theorem any : ∀ e, Ok e := by
  refine ind fun k t n ns ks ih => ?_
  intro lo1 lo2 w xn xk yn yk hx hy
  rw [node_iff] at hx hy
  obtain ⟨-, -, -, hns1, hks1⟩ := hx
  obtain ⟨-, -, -, hns2, hks2⟩ := hy
  simp only [E.kind, E.text, E.num, E.names, E.kids] at *
  have KT := fun w' (hb : Below w.heap.size w w') => Lib.hid (eq_same (hns1.below hb) (hns2.below hb))
  have KS := fun w' (hb : Below w.heap.size w w') => Lib.hid (kids_any ih (hks1.below hb) (hks2.below hb))
  clear ih hns1 hns2 hks1 hks2
  have HB0 : Hid (Below w.heap.size w ((w.alloc (Obj.cells #[Value.int IntKind.i64 k, Value.string t, Value.int IntKind.i64 n, xn, xk] 25)).alloc (Obj.cells #[Value.int IntKind.i64 k, Value.string t, Value.int IntKind.i64 n, yn, yk] 25))) := ((Below.refl _ _).alloc (Nat.le_refl _) _).alloc (by simp) _
  have a4 : ((w.alloc (Obj.cells #[Value.int IntKind.i64 k, Value.string t, Value.int IntKind.i64 n, xn, xk] 25)).alloc (Obj.cells #[Value.int IntKind.i64 k, Value.string t, Value.int IntKind.i64 n, yn, yk] 25)).cell? ⟨w.heap.size, 4, none⟩ = some xk := by go_simp
  have d4 : ((w.alloc (Obj.cells #[Value.int IntKind.i64 k, Value.string t, Value.int IntKind.i64 n, xn, xk] 25)).alloc (Obj.cells #[Value.int IntKind.i64 k, Value.string t, Value.int IntKind.i64 n, yn, yk] 25)).cell? ⟨w.heap.size + 1, 4, none⟩ = some yk := by go_simp
  have HA4 := Lib.hid a4
  have HD4 := Lib.hid d4
  clear a4 d4
  go_enter Tryz.func6, Tryz.ntmps6
  go_wp2_with fail
  refine (KT _ HB0.out).out.mono ?_
  rintro e w1 ⟨rfl, hb1⟩
  have HB1 : Hid (Below w.heap.size w w1) := HB0.out.trans (hb1.mono HB0.out.size)
  have x4 := cell_keep hb1 HA4.out
  have y4 := cell_keep hb1 HD4.out
  clear hb1 HA4 HD4 HB0 KT
  go_wp2_with fail
  refine (KS _ HB1.out).out.mono ?_
  rintro e w2 ⟨rfl, hb2⟩
  have HB2 : Hid (Below w.heap.size w w2) := HB1.out.trans (hb2.mono HB1.out.size)
  clear hb2 x4 y4
  go_wp2_with fail
  go_ret
  exact ⟨rfl, HB2.out⟩

/-- Both values read as the same tree: eqExpr says so. -/
theorem same {e : E} {lo1 lo2 : Nat} {w : World} {v1 v2 : Value} (h1 : Reads lo1 w e v1) (h2 : Reads lo2 w e v2) :
    Calls Tryz.prog 6 #[v1, v2] w fun r w' => r = .returned (.bool true) ∧ Below w.heap.size w w' := by
  obtain ⟨xn, xk, rfl, hx⟩ := h1
  obtain ⟨yn, yk, rfl, hy⟩ := h2
  exact any e lo1 lo2 w xn xk yn yk hx hy
end Go.Proofs.YtbflpocbjdccgaaGreatDoor.TreeEq

namespace Go.Proofs.YtbflpocbjdccgaaGreatDoor.fnExactParseExprW
open Go.RowKit
open Strs Tree Placed
open Go.Proofs.YtbflpocbjdccgaaGreatDoor.Parser

theorem eZero_weight : weight SpecParse.eZero = 0 := by rfl
theorem answer_light (s : ByteArray) : weight ((SpecParse.answer s).getD SpecParse.eZero) ≤ 4800 := by
  cases ha : SpecParse.answer s with
  | none =>
    show weight SpecParse.eZero ≤ _
    rw [eZero_weight]
    omega
  | some e =>
    unfold SpecParse.answer at ha
    split at ha
    · cases ha
    · rename_i e' he
      split at ha
      · cases ha
        exact Gram.source_light he
      · cases ha

set_option maxRecDepth 10000 in
set_option maxHeartbeats 8000000 in
theorem walk (s : ByteArray) (hm : s.size ≤ maxLen) (w : World) (hM : Max w) :
    Calls Tryz.prog 3 #[.string s] w fun e w' => e = .returned (.bool true) ∧ Below w.heap.size w w' := by
  unfold maxLen at hm
  by_cases hbig : (1048576 : Int) < (s.size : Int)
  · go_enter Tryz.func3, Tryz.ntmps3
    go_wp2_with fail
    go_ret
    exact ⟨rfl, Below.refl _ _⟩
  have hs : s.size ≤ 1048576 := by omega
  have HS := Lib.hid (SpecParse.parse_any s w hs)
  have HI := Lib.hid (fun w1 h => ParI.parse_any s w1 h)
  have hwt := answer_light s
  unfold SpecParse.ParseBack at HS
  unfold ParI.OwnBack at HI
  generalize (SpecParse.answer s).getD SpecParse.eZero = e0 at *
  generalize (SpecParse.answer s).isSome = ok at *
  go_enter Tryz.func3, Tryz.ntmps3
  go_wp2_with fail
  refine HS.out.mono ?_
  rintro e w1 ⟨v0, rfl, hr0, hb1⟩
  have HR0 := hr0
  obtain ⟨v0n, v0k, rfl, hn0⟩ := hr0
  obtain ⟨na, nl, nc, ka, kl, kc, rfl, rfl⟩ := node_forms hn0
  replace HR0 := Lib.hid HR0
  generalize e0.kind = ek at *
  generalize e0.text = et at *
  generalize e0.num = en at *
  obtain ⟨w1b, hw1⟩ : ∃ w1b, w1b = w1.alloc (.cells #[.int .i64 ek, .string et, .int .i64 en, .slice na nl nc, .slice ka kl kc] 25) := ⟨_, rfl⟩
  have hba : Below w1.heap.size w1 w1b := by rw [hw1]; exact (Below.refl _ _).alloc (Nat.le_refl _) _
  have hf := five_new w1 (.int .i64 ek) (.string et) (.int .i64 en) (.slice na nl nc) (.slice ka kl kc) 25
  rw [← hw1] at hf
  have HF1 := Lib.hid hf
  have HR1 := Lib.hid (HR0.out.below hba)
  have hb0 := hb1.trans (hba.mono hb1.size)
  have M1 := Lib.hid (hM.keep hb0)
  have HB1 := Lib.hid hb0
  have HW1 := Lib.hid hw1
  have HB3 : Hid (w1b.heap.size = w1.heap.size + 1) := Lib.hid (by rw [hw1]; simp)
  clear hn0 hb1 hba hf hb0 hw1 HS HR0
  go_wp2_with fail
  rw [← HW1.out]
  refine (HI.out w1b M1.out).mono ?_
  rintro e w2 ⟨t, rfl, hte, ho, hb2⟩
  obtain ⟨ua1, uc1, ub1, ud1, hf1, hf2⟩ := ParI.good_forms ho.good
  obtain ⟨uk1, ut1, un1, uns1, uvn, uvk, uks1⟩ := t
  simp only [T.vn, T.vk, T.names, T.kids] at hf1 hf2
  subst hf1 hf2
  unfold agg
  simp only [T.kind, T.text, T.num, T.vn, T.vk]
  obtain ⟨w2b, hw2⟩ : ∃ w2b, w2b = w2.alloc (.cells #[.int .i64 uk1, .string ut1, .int .i64 un1, .slice ua1 uns1.length uc1, .slice ub1 uks1.length ud1] 25) := ⟨_, rfl⟩
  have hba : Below w2.heap.size w2 w2b := by rw [hw2]; exact (Below.refl _ _).alloc (Nat.le_refl _) _
  have hf := five_new w2 (.int .i64 uk1) (.string ut1) (.int .i64 un1) (.slice ua1 uns1.length uc1) (.slice ub1 uks1.length ud1) 25
  rw [← hw2] at hf
  have HG1 := Lib.hid hf
  have hb3 := hb2.trans (hba.mono hb2.size)
  have HB2 := Lib.hid hb3
  have HF2 := Lib.hid (HF1.out.step hb3)
  have HR2 := Lib.hid (HR1.out.below hb3)
  have ho2 := ho.below hba
  have HO2 := Lib.hid ho2
  have HLT : Hid (∀ b, b ∈ foot (T.mk uk1 ut1 un1 uns1 (.slice ua1 uns1.length uc1) (.slice ub1 uks1.length ud1) uks1) → b < w2.heap.size) := Lib.hid (fun b hb => ho.lt b hb)
  have hrt := ho2.reads
  rw [hte] at hrt
  have HRT := Lib.hid hrt
  have HTE := Lib.hid hte
  have hcnt : topCnt (T.mk uk1 ut1 un1 uns1 (.slice ua1 uns1.length uc1) (.slice ub1 uks1.length ud1) uks1) ≤ 14400 := by
    have h1 := cnts_weight (T.mk uk1 ut1 un1 uns1 (.slice ua1 uns1.length uc1) (.slice ub1 uks1.length ud1) uks1)
    rw [hte] at h1
    omega
  have HW2 := Lib.hid hw2
  have HS2 : Hid (w1b.heap.size ≤ w2.heap.size) := Lib.hid hb2.size
  obtain ⟨-, f0, f1, f2, f3, f4, -⟩ := HF2.out
  obtain ⟨-, g0, g1, g2, g3, g4, -⟩ := HG1.out
  clear ho hb2 hba hf hb3 ho2 hrt hte hw2 HW1
  go_upto_region 5 with fail
  rw [← HW2.out]
  generalize hB3 : w1.heap.size = B3 at *
  generalize hB5 : w2.heap.size = B5 at *
  clear HW2 hB3
  go_wp2_with fail
  refine (TreeEq.same HRT.out HR2.out).mono ?_
  rintro e w3 ⟨rfl, hb3⟩
  have HO3 := Lib.hid (HO2.out.below hb3)
  have HF3 := Lib.hid (HF2.out.step hb3)
  have HG3 := Lib.hid (HG1.out.step hb3)
  have HR3 := Lib.hid (HR2.out.below hb3)
  have HB23 := Lib.hid (HB2.out.trans (hb3.mono HB2.out.size))
  have hKM := mark_top (k := 1) HO3.out (by omega) (by omega)
  unfold agg at hKM
  simp only [T.kind, T.text, T.num, T.vn, T.vk] at hKM
  rw [show ((1 : Nat) : Int) = 1 from rfl] at hKM
  generalize hmm : 1 + topCnt (T.mk uk1 ut1 un1 uns1 (.slice ua1 uns1.length uc1) (.slice ub1 uks1.length ud1) uks1) = m at *
  have HM := Lib.hid hmm; clear hmm
  have KM := Lib.hid hKM
  have hmb : m ≤ 14401 := by have := HM.out; omega
  obtain ⟨-, p0, p1, p2, p3, p4, -⟩ := HG3.out
  clear hb3 hKM f0 f1 f2 f3 f4 g0 g1 g2 g3 g4 HF2 HG1 HR2 HB2 HO2 HRT
  go_wp2_with fail
  refine KM.out.mono ?_
  rintro e w4 ⟨rfl, ho4, hx4⟩
  have hb5l : B5 < w3.heap.size := HG3.out.size
  have hb3l : B3 < w3.heap.size := HF3.out.size
  have HG4 := Lib.hid (HG3.out.same hx4.size (hx4.block B5 hb5l (fun e => by have := HLT.out _ e; omega)))
  have HF4 := Lib.hid (HF3.out.same hx4.size (hx4.block B3 hb3l (fun e => by have h1 := HO3.out.lo _ e; have h2 := HB3.out; omega)))
  have hbl := hx4.low (B := w1b.heap.size) HB23.out.size HO3.out.lo
  have HB4 := Lib.hid (HB23.out.trans hbl)
  have HO4 := Lib.hid ho4
  have HR1' := HR1
  have hKH := held_top (k := 1) ho4 (by omega) (by have := HM.out; omega)
  unfold agg at hKH
  simp only [T.kind, T.text, T.num, T.vn, T.vk] at hKH
  rw [show ((1 : Nat) : Int) = 1 from rfl, HM.out] at hKH
  have KH := Lib.hid hKH
  obtain ⟨-, q0, q1, q2, q3, q4, -⟩ := HG4.out
  have hm0 : ¬ ((m : Int) < 0) := by omega
  clear ho4 hx4 hbl hKH KM p0 p1 p2 p3 p4 HG3 HF3 HO3 HB23 HR3
  go_wp2_with fail
  refine KH.out.mono ?_
  rintro e w5 ⟨rfl, hb5⟩
  have hb15 := HB4.out.trans (hb5.mono HB4.out.size)
  have M5 := Lib.hid (M1.out.keep hb15)
  have HB5' := Lib.hid hb15
  have HG5 := Lib.hid (HG4.out.step hb5)
  have HF5 := Lib.hid (HF4.out.step hb5)
  have HO5 := Lib.hid (HO4.out.below hb5)
  have HR5 := Lib.hid (HR1.out.below hb15)
  clear hb5 hb15 q0 q1 q2 q3 q4 KH HG4 HF4 HO4 HB4 HR1 HR1' M1
  go_wp2_with fail
  refine (HI.out w5 M5.out).mono ?_
  rintro e w6 ⟨t, rfl, hte, ho, hb6⟩
  obtain ⟨ua2, uc2, ub2, ud2, hf1, hf2⟩ := ParI.good_forms ho.good
  obtain ⟨uk2, ut2, un2, uns2, uvn, uvk, uks2⟩ := t
  simp only [T.vn, T.vk, T.names, T.kids] at hf1 hf2
  subst hf1 hf2
  unfold agg
  simp only [T.kind, T.text, T.num, T.vn, T.vk]
  obtain ⟨w6b, hw6⟩ : ∃ w6b, w6b = w6.alloc (.cells #[.int .i64 uk2, .string ut2, .int .i64 un2, .slice ua2 uns2.length uc2, .slice ub2 uks2.length ud2] 25) := ⟨_, rfl⟩
  have hba : Below w6.heap.size w6 w6b := by rw [hw6]; exact (Below.refl _ _).alloc (Nat.le_refl _) _
  have hf := five_new w6 (.int .i64 uk2) (.string ut2) (.int .i64 un2) (.slice ua2 uns2.length uc2) (.slice ub2 uks2.length ud2) 25
  rw [← hw6] at hf
  have hb7 := hb6.trans (hba.mono hb6.size)
  have HB6 := Lib.hid (HB5'.out.trans (hb7.mono HB5'.out.size))
  have HG6 := Lib.hid (HG5.out.step hb7)
  have HF6 := Lib.hid (HF5.out.step hb7)
  have HO6 := Lib.hid (HO5.out.below hb7)
  have HR6 := Lib.hid (HR5.out.below hb7)
  have hrt := (ho.below hba).reads
  rw [hte] at hrt
  have HRT := Lib.hid hrt
  have HW6 := Lib.hid hw6
  obtain ⟨-, f0, f1, f2, f3, f4, -⟩ := HF6.out
  obtain ⟨-, g0, g1, g2, g3, g4, -⟩ := hf
  clear ho hb6 hb7 hba hrt hte hw6 HB5' HG5 HF5 HO5 HR5 M5 HI
  go_upto_region 16 with fail
  rw [← HW6.out]
  generalize hB9 : w6.heap.size = B9 at *
  clear HW6 hB9
  go_wp2_with fail
  refine (TreeEq.same HRT.out HR6.out).mono ?_
  rintro e w7 ⟨rfl, hb7⟩
  have HB7 := Lib.hid (HB6.out.trans (hb7.mono HB6.out.size))
  have hKH := held_top (k := 1) (HO6.out.below hb7) (by omega) (by have := HM.out; omega)
  unfold agg at hKH
  simp only [T.kind, T.text, T.num, T.vn, T.vk] at hKH
  rw [show ((1 : Nat) : Int) = 1 from rfl, HM.out] at hKH
  have KH := Lib.hid hKH
  obtain ⟨-, p0, p1, p2, p3, p4, -⟩ := HG6.out.step hb7
  clear hb7 hKH f0 f1 f2 f3 f4 g0 g1 g2 g3 g4 HG6 HF6 HO6 HR6 HB6 HRT
  go_wp2_with fail
  refine KH.out.mono ?_
  rintro e w8 ⟨rfl, hb8⟩
  have HB8 := Lib.hid (HB7.out.trans (hb8.mono HB7.out.size))
  clear hb8 KH p0 p1 p2 p3 p4
  go_wp2_with fail
  go_ret
  exact ⟨rfl, HB1.out.trans (HB8.out.mono HB1.out.size)⟩
end Go.Proofs.YtbflpocbjdccgaaGreatDoor.fnExactParseExprW
