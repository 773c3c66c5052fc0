/-
  spec.l3Texts and EqualExprs: what they answer of every two lists of texts, of every two trees.
-/
import Derived.Test.YtlmhgeanknhcfaaTreeBox
namespace Go.Proofs.Ytlmhgeanknhcfaa.SpecEqual
open Go.RowKit
open Strs Tree TreeBox

theorem beq_no {s t : ByteArray} (h : ¬ s = t) : (s.toList == t.toList) = false := by
  refine Bool.eq_false_iff.2 fun e => h ?_
  have e1 := eq_of_beq e
  rw [ByteArray.toList_eq, ByteArray.toList_eq] at e1
  exact ByteArray.ext (Array.ext' e1)

set_option maxHeartbeats 1000000 in
theorem texts_cons (a1 a2 : Option Addr) (c1 c2 n : Nat) (xs ys : List ByteArray) (w : World) (hx : xs.length = n) (hy : ys.length = n) (hm : n ≤ maxLen)
    (h1 : 0 < n → ∃ b o, a1 = some ⟨b, o, none⟩ ∧ ∀ j (h : j < xs.length), w.cell? ⟨b, o + j, none⟩ = some (.string xs[j]))
    (h2 : 0 < n → ∃ b o, a2 = some ⟨b, o, none⟩ ∧ ∀ j (h : j < ys.length), w.cell? ⟨b, o + j, none⟩ = some (.string ys[j])) :
    Calls Try.prog 26 #[.slice a1 n c1, .slice a2 n c2] w fun e w' => e = .returned (.bool (decide (xs = ys))) ∧ Below w.heap.size w w' := by
  unfold maxLen at hm
  have H1 := Lib.hid h1; clear h1
  have H2 := Lib.hid h2; clear h2
  have HX := Lib.hid hx; clear hx
  have HY := Lib.hid hy; clear hy
  generalize hD : decide (xs = ys) = D
  have HD := Lib.hid hD; clear hD
  go_enter Try.func26, Try.ntmps26
  go_wp2_with fail
  go_loopw [5] (fun j wr => ∃ i : Nat, i ≤ n ∧ j = .int .i64 i ∧ Below w.heap.size w wr ∧ Hid (∀ j (h1 : j < xs.length) (h2 : j < ys.length), j < i → xs[j] = ys[j])) (fun j _ => n - (intOf j).toNat)
  case atStart => exact ⟨0, by omega, rfl, Below.refl _ _, fun j _ _ h => by omega⟩
  case round =>
    obtain ⟨i, hi, rfl, hbw, HS⟩ := hrel
    by_cases hlt : i < n
    · have hix : i < xs.length := by rw [HX.out]; exact hlt
      have hiy : i < ys.length := by rw [HY.out]; exact hlt
      obtain ⟨b1, o1, rfl, d1⟩ := H1.out (by omega)
      obtain ⟨b2, o2, rfl, d2⟩ := H2.out (by omega)
      have hc1 : wr.cell? ⟨b1, o1 + i, none⟩ = some (.string xs[i]) := cell_keep hbw (d1 i hix)
      have hc2 : wr.cell? ⟨b2, o2 + i, none⟩ = some (.string ys[i]) := cell_keep hbw (d2 i hiy)
      clear d1 d2
      generalize hs : xs[i] = s at *
      generalize ht : ys[i] = t at *
      have HE := Lib.hid (And.intro hs ht); clear hs ht
      by_cases hst : s = t
      · subst hst
        go_wp2_with fail
        go_quiet (fail)
        go_wp2_with fail
        go_roundw
        case rel =>
          refine ⟨i + 1, by omega, by go_num, below_drewN hbw _, fun j g1 g2 hj => ?_⟩
          by_cases e : j = i
          · subst e; exact HE.out.1.trans HE.out.2.symm
          · exact HS.out j g1 g2 (by omega)
        case measure => simp [intOf]; omega
      · have hD : D = false := by
          rw [← HD.out]
          refine decide_eq_false fun e => hst ?_
          rw [← HE.out.1, ← HE.out.2]
          simp [e]
        subst hD
        have hb := beq_no hst
        clear hst
        go_wp2_with fail
        go_quiet (fail)
        go_wp2_with fail
        go_ret
        exact ⟨rfl, below_drewN hbw _⟩
    · have hD : D = true := by
        rw [← HD.out]
        refine decide_eq_true ?_
        have h1 := HX.out
        have h2 := HY.out
        exact List.ext_getElem (by omega) fun j g1 g2 => HS.out j g1 g2 (by omega)
      subst hD
      go_wp2_with fail
      go_ret
      exact ⟨rfl, hbw⟩

theorem texts_any {lo1 lo2 : Nat} {xs ys : List ByteArray} {v1 v2 : Value} {w : World} (h1 : Texts lo1 w xs v1) (h2 : Texts lo2 w ys v2) :
    Calls Try.prog 26 #[v1, v2] w fun e w' => e = .returned (.bool (decide (xs = ys))) ∧ Below w.heap.size w w' := by
  obtain ⟨a1, c1, rfl, m1, _, d1⟩ := h1
  obtain ⟨a2, c2, rfl, m2, _, d2⟩ := h2
  by_cases h : xs.length = ys.length
  · rw [← h]
    refine texts_cons a1 a2 c1 c2 xs.length xs ys w rfl h.symm (Nat.le_trans m1.1 m1.2) (fun hp => ?_) (fun hp => ?_)
    · obtain ⟨b, o, e, _, d⟩ := d1 hp; exact ⟨b, o, e, d⟩
    · obtain ⟨b, o, e, _, d⟩ := d2 (by omega); exact ⟨b, o, e, d⟩
  · have hne : ¬ (xs.length : Int) = (ys.length : Int) := by omega
    rw [decide_eq_false (fun e : xs = ys => h (by rw [e]))]
    clear d1 d2 m1 m2
    generalize xs.length = n1 at *
    generalize ys.length = n2 at *
    go_enter Try.func26, Try.ntmps26
    go_wp2_with fail
    go_ret
    exact ⟨rfl, Below.refl _ _⟩

/-- What EqualExprs says of a tree and every other one. -/
def Ok (e : E) : Prop := ∀ (f : E) (lo1 lo2 : Nat) (w : World) (xn xk yn yk : Value), NodeAt lo1 w e xn xk → NodeAt lo2 w f yn yk →
  Calls Try.prog 17 #[.agg #[.int .i64 e.kind, .string e.text, .int .i64 e.num, xn, xk], .agg #[.int .i64 f.kind, .string f.text, .int .i64 f.num, yn, yk]] w fun r w' => r = .returned (.bool (eqE e f)) ∧ Below w.heap.size w w'

set_option maxHeartbeats 2000000 in
theorem any : ∀ e, Ok e := by
  refine ind fun k1 t1 n1 ns1 ks1 ih => ?_
  rintro ⟨k2, t2, n2, ns2, ks2⟩ lo1 lo2 w xn xk yn yk hx hy
  rw [node_iff] at hx hy
  obtain ⟨-, -, -, hn1, hk1⟩ := hx
  obtain ⟨-, -, -, hn2, hk2⟩ := hy
  simp only [E.kind, E.text, E.num, E.names, E.kids] at *
  obtain ⟨a1, cap1, rfl, m1, hc1⟩ := hk1
  obtain ⟨a2, cap2, rfl, m2, hc2⟩ := hk2
  obtain ⟨a3, cap3, hxn, -⟩ := id hn1
  obtain ⟨a4, cap4, hyn, -⟩ := id hn2
  subst hxn hyn
  have KT := fun w' (hb : Below w.heap.size w w') => Lib.hid (texts_any (hn1.below hb) (hn2.below hb))
  generalize hD : eqE (.mk k1 t1 n1 ns1 ks1) (.mk k2 t2 n2 ns2 ks2) = D
  have HD := Lib.hid hD; clear hD
  have H1 := Lib.hid hc1; clear hc1
  have H2 := Lib.hid hc2; clear hc2
  have IH := Lib.hid ih; clear ih
  have HB0 : Hid (Below w.heap.size w ((w.alloc (Obj.cells #[Value.int IntKind.i64 k1, Value.string t1, Value.int IntKind.i64 n1, .slice a3 ns1.length cap3, .slice a1 ks1.length cap1] 47)).alloc (Obj.cells #[Value.int IntKind.i64 k2, Value.string t2, Value.int IntKind.i64 n2, .slice a4 ns2.length cap4, .slice a2 ks2.length cap2] 47))) := ((Below.refl _ _).alloc (Nat.le_refl _) _).alloc (by simp) _
  have HC1 := Lib.hid (((cells_new w k1 t1 n1 (.slice a3 ns1.length cap3) (.slice a1 ks1.length cap1) 47).step ((Below.refl _ _).alloc (Nat.le_refl _) (Obj.cells #[Value.int IntKind.i64 k2, Value.string t2, Value.int IntKind.i64 n2, .slice a4 ns2.length cap4, .slice a2 ks2.length cap2] 47))))
  have HC2 := cells_new (w.alloc (Obj.cells #[Value.int IntKind.i64 k1, Value.string t1, Value.int IntKind.i64 n1, .slice a3 ns1.length cap3, .slice a1 ks1.length cap1] 47)) k2 t2 n2 (.slice a4 ns2.length cap4) (.slice a2 ks2.length cap2) 47
  rw [show (w.alloc (Obj.cells #[Value.int IntKind.i64 k1, Value.string t1, Value.int IntKind.i64 n1, .slice a3 ns1.length cap3, .slice a1 ks1.length cap1] 47)).heap.size = w.heap.size + 1 by simp] at HC2
  have HC2 := Lib.hid HC2
  have HM := Lib.hid (And.intro m1 m2); clear m1 m2
  by_cases ek : k1 = k2
  case neg =>
    have hD : D = false := by rw [← HD.out]; exact eqE_no (by intro e; injection e; contradiction)
    subst hD
    go_enter Try.func17, Try.ntmps17
    go_wp2_with fail
    go_ret
    exact ⟨rfl, HB0.out⟩
  subst ek
  by_cases et : t1 = t2
  case neg =>
    have hD : D = false := by rw [← HD.out]; exact eqE_no (by intro e; injection e; contradiction)
    subst hD
    have hb := beq_no et
    clear et
    go_enter Try.func17, Try.ntmps17
    go_wp2_with fail
    go_ret
    exact ⟨rfl, HB0.out⟩
  subst et
  by_cases en : n1 = n2
  case neg =>
    have hD : D = false := by rw [← HD.out]; exact eqE_no (by intro e; injection e; contradiction)
    subst hD
    go_enter Try.func17, Try.ntmps17
    go_wp2_with fail
    go_ret
    exact ⟨rfl, HB0.out⟩
  subst en
  by_cases es : ns1 = ns2
  case neg =>
    have hD : D = false := by rw [← HD.out]; exact eqE_no (by intro e; injection e; contradiction)
    subst hD
    rw [decide_eq_false es] at KT
    clear es
    go_enter Try.func17, Try.ntmps17
    go_wp2_with fail
    refine (KT _ HB0.out).out.mono ?_
    rintro r w1 ⟨rfl, hb1⟩
    have HB1 : Hid (Below w.heap.size w w1) := HB0.out.trans (hb1.mono HB0.out.size)
    go_wp2_with fail
    go_ret
    exact ⟨rfl, HB1.out⟩
  subst es
  rw [decide_eq_true rfl] at KT
  by_cases el : ks1.length = ks2.length
  case neg =>
    have hD : D = false := by rw [← HD.out]; exact eqE_no (by intro e; injection e with _ _ _ _ e; exact el (by rw [e]))
    subst hD
    have el2 : ¬ (ks1.length : Int) = (ks2.length : Int) := by omega
    clear HM IH
    generalize hN1 : ks1.length = N1 at *
    generalize hN2 : ks2.length = N2 at *
    go_enter Try.func17, Try.ntmps17
    go_wp2_with fail
    refine (KT _ HB0.out).out.mono ?_
    rintro r w1 ⟨rfl, hb1⟩
    have HB1 : Hid (Below w.heap.size w w1) := HB0.out.trans (hb1.mono HB0.out.size)
    have q1 := (HC1.out.step hb1).a4
    have q2 := (HC2.out.step hb1).a4
    go_wp2_with fail
    go_ret
    exact ⟨rfl, HB1.out⟩
  generalize hN : ks1.length = N at *
  generalize hN2 : ks2.length = N2 at *
  subst el
  have HN1 := Lib.hid hN; clear hN
  have HN2 := Lib.hid hN2; clear hN2
  have hm := HM.out.1
  unfold maxLen at hm
  go_enter Try.func17, Try.ntmps17
  go_wp2_with fail
  refine (KT _ HB0.out).out.mono ?_
  rintro r w1 ⟨rfl, hb1⟩
  have HB1 : Hid (Below w.heap.size w w1) := HB0.out.trans (hb1.mono HB0.out.size)
  have G1 := Lib.hid (HC1.out.step hb1)
  have G2 := Lib.hid (HC2.out.step hb1)
  have q1 := G1.out.a4
  have q2 := G2.out.a4
  clear hb1 HB0 HC1 HC2
  go_wp2_with fail
  clear q1 q2
  go_loopw [5] (fun j wr => ∃ i : Nat, i ≤ N ∧ j = .int .i64 i ∧ Below w1.heap.size w1 wr ∧ Hid (∀ j (h1 : j < ks1.length) (h2 : j < ks2.length), j < i → ks1[j] = ks2[j])) (fun j _ => N - (intOf j).toNat)
  case atStart => exact ⟨0, by omega, rfl, Below.refl _ _, fun j _ _ h => by omega⟩
  case round =>
    obtain ⟨i, hi, rfl, hbw, HS⟩ := hrel
    have a4 := (G1.out.step hbw).a4
    have d4 := (G2.out.step hbw).a4
    have HB : Hid (Below w.heap.size w wr) := HB1.out.trans (hbw.mono HB1.out.size)
    have HBW := Lib.hid hbw; clear hbw
    by_cases hlt : i < N
    · have hix : i < ks1.length := by rw [HN1.out]; exact hlt
      have hiy : i < ks2.length := by rw [HN2.out]; exact hlt
      obtain ⟨b1, o1, rfl, _, r1⟩ := H1.out (by omega)
      obtain ⟨b2, o2, rfl, _, r2⟩ := H2.out (by omega)
      obtain ⟨un, uk, p0, p1, p2, p3, p4, hu⟩ := (row_iff ks1 o1).1 r1 i hix
      obtain ⟨zn, zk, q0, q1, q2, q3, q4, hz⟩ := (row_iff ks2 o2).1 r2 i hiy
      replace p0 := cell_keep HB.out p0
      replace p1 := cell_keep HB.out p1
      replace p2 := cell_keep HB.out p2
      replace p3 := cell_keep HB.out p3
      replace p4 := cell_keep HB.out p4
      replace q0 := cell_keep HB.out q0
      replace q1 := cell_keep HB.out q1
      replace q2 := cell_keep HB.out q2
      replace q3 := cell_keep HB.out q3
      replace q4 := cell_keep HB.out q4
      have KI := fun w' (hb : Below w.heap.size w w') => Lib.hid (IH.out _ (List.getElem_mem hix) ks2[i] lo1 lo2 w' un uk zn zk (hu.below hb) (hz.below hb))
      clear hu hz r1 r2
      generalize hs : ks1[i] = e at *
      generalize ht : ks2[i] = f at *
      have HE := Lib.hid (And.intro hs ht); clear hs ht
      by_cases hst : e = f
      · rw [eqE_yes hst] at KI
        have HST := Lib.hid hst; clear hst
        go_wp2_with fail
        go_region_held3 (fun w' => w'.cell? ⟨w.heap.size, 4, none⟩ = some (.slice (some ⟨b1, o1, none⟩) N cap1) ∧ w'.cell? ⟨w.heap.size + 1, 4, none⟩ = some (.slice (some ⟨b2, o2, none⟩) N cap2) ∧ w'.cell? ⟨b1, o1 + i * 5, none⟩ = some (.int .i64 e.kind) ∧ w'.cell? ⟨b1, o1 + i * 5 + 1, none⟩ = some (.string e.text) ∧ w'.cell? ⟨b1, o1 + i * 5 + 2, none⟩ = some (.int .i64 e.num) ∧ w'.cell? ⟨b1, o1 + i * 5 + 3, none⟩ = some un ∧ w'.cell? ⟨b1, o1 + i * 5 + 4, none⟩ = some uk ∧ w'.cell? ⟨b2, o2 + i * 5, none⟩ = some (.int .i64 f.kind) ∧ w'.cell? ⟨b2, o2 + i * 5 + 1, none⟩ = some (.string f.text) ∧ w'.cell? ⟨b2, o2 + i * 5 + 2, none⟩ = some (.int .i64 f.num) ∧ w'.cell? ⟨b2, o2 + i * 5 + 3, none⟩ = some zn ∧ w'.cell? ⟨b2, o2 + i * 5 + 4, none⟩ = some zk)
          (first | exact ⟨a4, d4, p0, p1, p2, p3, p4, q0, q1, q2, q3, q4⟩ | exact ⟨cell_keep hb1 (show wr.drew.cell? _ = _ from a4), cell_keep hb1 (show wr.drew.cell? _ = _ from d4), cell_keep hb1 (show wr.drew.cell? _ = _ from p0), cell_keep hb1 (show wr.drew.cell? _ = _ from p1), cell_keep hb1 (show wr.drew.cell? _ = _ from p2), cell_keep hb1 (show wr.drew.cell? _ = _ from p3), cell_keep hb1 (show wr.drew.cell? _ = _ from p4), cell_keep hb1 (show wr.drew.cell? _ = _ from q0), cell_keep hb1 (show wr.drew.cell? _ = _ from q1), cell_keep hb1 (show wr.drew.cell? _ = _ from q2), cell_keep hb1 (show wr.drew.cell? _ = _ from q3), cell_keep hb1 (show wr.drew.cell? _ = _ from q4)⟩ | go_keep)
          (first | (go_at_call 17; refine (KI _ HB.out.drew).out.mono ?_; rintro r w1 ⟨rfl, hb1⟩))
        all_goals go_wp2_with fail
        go_roundw
        case rel =>
          refine ⟨i + 1, by omega, by go_num, HBW.out.drew.trans (hb1.mono HBW.out.size), fun j g1 g2 hj => ?_⟩
          by_cases e : j = i
          · subst e; exact HE.out.1.trans (HST.out.trans HE.out.2.symm)
          · exact HS.out j g1 g2 (by omega)
        case measure => simp [intOf]; omega
      · rw [eqE_no hst] at KI
        have hD : D = false := by
          rw [← HD.out]
          refine eqE_no fun e => hst ?_
          injection e with _ _ _ _ e
          rw [← HE.out.1, ← HE.out.2]
          simp [e]
        subst hD
        clear hst
        go_wp2_with fail
        go_region_held3 (fun w' => w'.cell? ⟨w.heap.size, 4, none⟩ = some (.slice (some ⟨b1, o1, none⟩) N cap1) ∧ w'.cell? ⟨w.heap.size + 1, 4, none⟩ = some (.slice (some ⟨b2, o2, none⟩) N cap2) ∧ w'.cell? ⟨b1, o1 + i * 5, none⟩ = some (.int .i64 e.kind) ∧ w'.cell? ⟨b1, o1 + i * 5 + 1, none⟩ = some (.string e.text) ∧ w'.cell? ⟨b1, o1 + i * 5 + 2, none⟩ = some (.int .i64 e.num) ∧ w'.cell? ⟨b1, o1 + i * 5 + 3, none⟩ = some un ∧ w'.cell? ⟨b1, o1 + i * 5 + 4, none⟩ = some uk ∧ w'.cell? ⟨b2, o2 + i * 5, none⟩ = some (.int .i64 f.kind) ∧ w'.cell? ⟨b2, o2 + i * 5 + 1, none⟩ = some (.string f.text) ∧ w'.cell? ⟨b2, o2 + i * 5 + 2, none⟩ = some (.int .i64 f.num) ∧ w'.cell? ⟨b2, o2 + i * 5 + 3, none⟩ = some zn ∧ w'.cell? ⟨b2, o2 + i * 5 + 4, none⟩ = some zk)
          (first | exact ⟨a4, d4, p0, p1, p2, p3, p4, q0, q1, q2, q3, q4⟩ | exact ⟨cell_keep hb1 (show wr.drew.cell? _ = _ from a4), cell_keep hb1 (show wr.drew.cell? _ = _ from d4), cell_keep hb1 (show wr.drew.cell? _ = _ from p0), cell_keep hb1 (show wr.drew.cell? _ = _ from p1), cell_keep hb1 (show wr.drew.cell? _ = _ from p2), cell_keep hb1 (show wr.drew.cell? _ = _ from p3), cell_keep hb1 (show wr.drew.cell? _ = _ from p4), cell_keep hb1 (show wr.drew.cell? _ = _ from q0), cell_keep hb1 (show wr.drew.cell? _ = _ from q1), cell_keep hb1 (show wr.drew.cell? _ = _ from q2), cell_keep hb1 (show wr.drew.cell? _ = _ from q3), cell_keep hb1 (show wr.drew.cell? _ = _ from q4)⟩ | go_keep)
          (first | (go_at_call 17; refine (KI _ HB.out.drew).out.mono ?_; rintro r w1 ⟨rfl, hb1⟩))
        all_goals go_wp2_with fail
        go_ret
        exact ⟨rfl, HB.out.drew.trans (hb1.mono HB.out.size)⟩
    · have hD : D = true := by
        rw [← HD.out]
        refine eqE_yes ?_
        have h1 := HN1.out
        have h2 := HN2.out
        have : ks1 = ks2 := List.ext_getElem (by omega) fun j g1 g2 => HS.out j g1 g2 (by omega)
        rw [this]
      subst hD
      go_wp2_with fail
      go_ret
      exact ⟨rfl, HB.out⟩

/-- spec.EqualExprs says whether two trees are the same. -/
theorem equal_any {e f : E} {lo1 lo2 : Nat} {w : World} {v1 v2 : Value} (h1 : Reads lo1 w e v1) (h2 : Reads lo2 w f v2) :
    Calls Try.prog 17 #[v1, v2] w fun r w' => r = .returned (.bool (eqE e f)) ∧ Below w.heap.size w w' := by
  obtain ⟨xn, xk, rfl, hx⟩ := h1
  obtain ⟨yn, yk, rfl, hy⟩ := h2
  exact any e f lo1 lo2 w xn xk yn yk hx hy
end Go.Proofs.Ytlmhgeanknhcfaa.SpecEqual
