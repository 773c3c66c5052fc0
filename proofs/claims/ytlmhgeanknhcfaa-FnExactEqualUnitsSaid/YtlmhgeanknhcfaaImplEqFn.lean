/-
  slices.EqualFunc over two rows of methods, with impl.EqualMethods.
-/
import Derived.Test.YtlmhgeanknhcfaaImplEqM
import Derived.Test.YtlmhgeanknhcfaaSpecEqU
namespace Go.Proofs.Ytlmhgeanknhcfaa.ImplMeth
open Go.RowKit Go.Sort
open Strs Tree Soft TreeTo Go.Proofs.Ytlmhgeanknhcfaa.Data

theorem few {m : M} (hw : m.sel.size + Tree.weight (bodyE m) ≤ 1048576) : m.params.length + m.temps.length ≤ 4398046511104 := by
  have h1 := bodyE_weight m
  rw [List.length_append] at h1
  omega
/-- What a row of methods leads to. -/
def RowM (w : World) (xs : List M) (xa : Option Addr) : Prop := ∀ k m, xs[k]? = some m → ∃ b o v2 v3 v4, xa = some ⟨b, o, none⟩ ∧ MCell w b (o + k * 5) m v2 v3 v4 ∧ MSt w m v2 v3 v4 ∧ m.sel.size + Tree.weight (bodyE m) ≤ 1048576
theorem RowM.below {w w' : World} {xs : List M} {xa : Option Addr} (h : RowM w xs xa) (hb : Below w.heap.size w w') : RowM w' xs xa := fun k m hk => by
  obtain ⟨b, o, v2, v3, v4, e, h1, h2, h3⟩ := h k m hk
  exact ⟨b, o, v2, v3, v4, e, h1.step hb, h2.below hb, h3⟩

set_option maxRecDepth 10000 in
set_option maxHeartbeats 8000000 in
theorem eqfunc_meths {w : World} {xs ys : List M} {xa ya : Option Addr} {xc yc : Nat} (hx : RowM w xs xa) (hy : RowM w ys ya) (hxc : xs.length ≤ xc ∧ xc ≤ maxLen) :
    Calls Try.prog 40 #[.slice xa xs.length xc, .slice ya ys.length yc, .func (.func 8) #[] #[]] w fun r w' => r = .returned (.bool (decide (xs.length = ys.length) && eqMs xs ys)) ∧ Below w.heap.size w w' := by
  unfold maxLen at hxc
  by_cases hlen : xs.length = ys.length
  case neg =>
    rw [decide_eq_false hlen, Bool.false_and]
    have hne : ¬ (xs.length : Int) = (ys.length : Int) := by omega
    clear hx hy
    generalize xs.length = n1 at *
    generalize ys.length = n2 at *
    go_enter Try.func40, Try.ntmps40
    go_wp2_with fail
    go_ret
    exact ⟨rfl, Below.refl _ _⟩
  rw [decide_eq_true hlen, Bool.true_and, ← hlen]
  have HL := Lib.hid hlen
  have HX := Lib.hid hx
  have HY := Lib.hid hy
  have HVA : Hid (eqMs xs ys = (xs.zip ys).all fun p => eqM p.1 p.2) := Lib.hid rfl
  generalize eqMs xs ys = R at *
  clear hx hy hlen
  generalize hN : xs.length = N at *
  have HN := Lib.hid hN
  clear hN
  go_enter Try.func40, Try.ntmps40
  go_wp2_with fail
  go_loopw [17] (fun j wr => ∃ i : Nat, i ≤ N ∧ j = .int .i64 i ∧ ((xs.zip ys).take i).all (fun p => eqM p.1 p.2) = true ∧ Below w.heap.size w wr) (fun j _ => N - (intOf j).toNat)
  case atStart => exact ⟨0, Nat.zero_le _, rfl, rfl, Below.refl _ _⟩
  case round =>
    obtain ⟨i, hi, rfl, hall, hbw⟩ := hrel
    have HALL := Lib.hid hall
    have HBW := Lib.hid hbw
    clear hall hbw
    by_cases hlt : i < N
    case neg =>
      have hiN : i = N := by omega
      have hR : R = true := by
        rw [HVA.out]
        have h := HALL.out
        rw [hiN, List.take_of_length_le (by rw [List.length_zip, HN.out, ← HL.out]; omega)] at h
        exact h
      subst hR
      clear hiN HVA
      go_wp2_with fail
      go_ret
      exact ⟨rfl, HBW.out⟩
    have hil : i < xs.length := by rw [HN.out]; exact hlt
    have hjl : i < ys.length := by rw [← HL.out]; exact hlt
    obtain ⟨b1, o1, x2, x3, x4, ha1, hc1, hs1, hw1⟩ := HX.out i _ (List.getElem?_eq_getElem hil)
    obtain ⟨b2, o2, y2, y3, y4, ha2, hc2, hs2, hw2⟩ := HY.out i _ (List.getElem?_eq_getElem hjl)
    subst ha1 ha2
    obtain ⟨e0, e1, e2, e3, e4⟩ := hc1.step HBW.out
    obtain ⟨f0, f1, f2, f3, f4⟩ := hc2.step HBW.out
    have hzl : i < (xs.zip ys).length := by rw [List.length_zip]; omega
    have hz : (xs.zip ys)[i] = (xs[i], ys[i]) := List.getElem_zip
    have HRF : Hid (eqM xs[i] ys[i] = false → R = false) := Lib.hid fun h => by rw [HVA.out]; exact all_no _ _ i hzl (by rw [hz]; exact h)
    have HRT : Hid (eqM xs[i] ys[i] = true → ((xs.zip ys).take (i + 1)).all (fun p => eqM p.1 p.2) = true) := Lib.hid fun h => all_take _ _ i hzl HALL.out (by rw [hz]; exact h)
    clear hzl hz HALL hc1 hc2 HX HY HVA
    generalize xs[i] = m at *
    generalize ys[i] = n at *
    clear hil hjl
    obtain ⟨pa, pc, hp2, -⟩ := id hs1.at_.params
    obtain ⟨ta, tc, ht2, -⟩ := id hs1.at_.temps
    obtain ⟨ka, kc, hk2, -⟩ := id hs1.at_.body
    obtain ⟨qa, qc, hq2, -⟩ := id hs2.at_.params
    obtain ⟨ua, uc, hu2, -⟩ := id hs2.at_.temps
    obtain ⟨la, lc, hl2, -⟩ := id hs2.at_.body
    subst hp2 ht2 hk2 hq2 hu2 hl2
    have hb2 : Below w.heap.size w ((wr.alloc (.cells #[.string m.sel, .bool m.cls, .slice pa m.params.length pc, .slice ta m.temps.length tc, .slice ka m.body.length kc] 30)).alloc (.cells #[.string n.sel, .bool n.cls, .slice qa n.params.length qc, .slice ua n.temps.length uc, .slice la n.body.length lc] 30)) := (HBW.out.alloc HBW.out.size _).alloc (by simp; have := HBW.out.size; omega) _
    have KE := Lib.hid (equal_meth (hs1.below hb2) (hs2.below hb2) (few hw1) (few hw2) (by omega))
    have HB2 := Lib.hid hb2
    have lt1 : b1 < wr.heap.size := cell_lt e0
    have lt2 : b2 < wr.heap.size := cell_lt f0
    clear hs1 hs2 hw1 hw2 hb2
    generalize eqM m n = Q at *
    go_wp2_with fail
    refine KE.out.mono ?_
    rintro e w5 ⟨rfl, hb5⟩
    have HB5 := Lib.hid (HB2.out.trans (hb5.mono HB2.out.size))
    clear hb5 KE HB2 e0 e1 e2 e3 e4 f0 f1 f2 f3 f4 lt1 lt2
    cases Q with
    | false =>
      have hR : R = false := HRF.out rfl
      subst hR
      clear HRF HRT
      go_wp2_with fail
      go_ret
      exact ⟨rfl, HB5.out⟩
    | true =>
      go_wp2_with fail
      go_roundw
      case rel => exact ⟨i + 1, by omega, by go_num, HRT.out (by trivial), HB5.out⟩
      case measure => simp [intOf]; omega
end Go.Proofs.Ytlmhgeanknhcfaa.ImplMeth
