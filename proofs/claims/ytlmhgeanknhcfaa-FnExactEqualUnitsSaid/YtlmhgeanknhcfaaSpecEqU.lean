/-
  spec's EqualUnits.
-/
import Derived.Test.YtlmhgeanknhcfaaSpecEqM
import Derived.Test.YtlmhgeanknhcfaaSpecUnit
import Derived.Deep.CutRange
import Derived.BigRegion
namespace Go.Proofs.Ytlmhgeanknhcfaa.Data
open Go.RowKit Go.Sort
open Strs Tree

noncomputable def eqMs (a b : List M) : Bool := (a.zip b).all fun p => eqM p.1 p.2
noncomputable def eqC (a b : C) : Bool := decide (a.name = b.name) && decide (a.parent = b.parent) && decide (a.fields = b.fields) && decide (a.methods.length = b.methods.length) && eqMs a.methods b.methods
noncomputable def eqCs (a b : List C) : Bool := (a.zip b).all fun p => eqC p.1 p.2
noncomputable def eqU (a b : U) : Bool := decide (a.classes.length = b.classes.length) && eqM a.main b.main && eqCs a.classes b.classes
/-- Two units' boxes and two classes' copies, while nothing of them is written. -/
structure St2 (w : World) (us vs : List D) (g : Nat) (cs : List D) (h : Nat) (ds : List D) (wr : World) : Prop where
  below : Below w.heap.size w wr
  u : Cells w.heap.size us wr
  v : Cells (w.heap.size + 1) vs wr
  c : Cells g cs wr
  d : Cells h ds wr
theorem St2.step {w wr w' : World} {us vs cs ds : List D} {g h : Nat} (k : St2 w us vs g cs h ds wr) (hb : Below wr.heap.size wr w') : St2 w us vs g cs h ds w' := ⟨k.below.trans (hb.mono k.below.size), k.u.step hb, k.v.step hb, k.c.step hb, k.d.step hb⟩
theorem two_new (wr : World) (xs ys : List D) (t1 t2 : TypeId) : Below wr.heap.size wr (((wr.alloc (.cells (vals xs).toArray t1)).alloc (.cells (vals ys).toArray t2)).drew) ∧ Cells wr.heap.size xs (((wr.alloc (.cells (vals xs).toArray t1)).alloc (.cells (vals ys).toArray t2)).drew) ∧ Cells (wr.heap.size + 1) ys (((wr.alloc (.cells (vals xs).toArray t1)).alloc (.cells (vals ys).toArray t2)).drew) := by
  have hd : Below ((wr.alloc (.cells (vals xs).toArray t1)).alloc (.cells (vals ys).toArray t2)).heap.size ((wr.alloc (.cells (vals xs).toArray t1)).alloc (.cells (vals ys).toArray t2)) (((wr.alloc (.cells (vals xs).toArray t1)).alloc (.cells (vals ys).toArray t2)).drew) := (Below.refl _ _).drew
  have h2 := cells_new (wr.alloc (.cells (vals xs).toArray t1)) ys t2
  rw [show (wr.alloc (.cells (vals xs).toArray t1)).heap.size = wr.heap.size + 1 by simp] at h2
  exact ⟨(((Below.refl _ _).alloc (Nat.le_refl _) _).alloc (by simp) _).drew, ((cells_new wr xs t1).step ((Below.refl _ _).alloc (Nat.le_refl _) _)).step hd, h2.step hd⟩
theorem st_new {w wr W : World} {us vs xs ys : List D} {g h : Nat} (hb : Below w.heap.size w wr) (hu : Cells w.heap.size us wr) (hv : Cells (w.heap.size + 1) vs wr) (hk : Below wr.heap.size wr W ∧ Cells g xs W ∧ Cells h ys W) : St2 w us vs g xs h ys W := ⟨hb.trans (hk.1.mono hb.size), hu.step hk.1, hv.step hk.1, hk.2.1, hk.2.2⟩
/-- What a class's cells lead to. -/
structure CAt (lo : Nat) (w : World) (c : C) (v2 : Value) (a : Option Addr) (cap : Nat) : Prop where
  fields : Texts lo w c.fields v2
  room : c.methods.length ≤ cap ∧ cap ≤ maxLen
  meths : ∀ k m, c.methods[k]? = some m → ∃ b o v2 v3 v4, a = some ⟨b, o, none⟩ ∧ w.cell? ⟨b, o + k * 5, none⟩ = some (.string m.sel) ∧ w.cell? ⟨b, o + k * 5 + 1, none⟩ = some (.bool m.cls) ∧ w.cell? ⟨b, o + k * 5 + 2, none⟩ = some v2 ∧ w.cell? ⟨b, o + k * 5 + 3, none⟩ = some v3 ∧ w.cell? ⟨b, o + k * 5 + 4, none⟩ = some v4 ∧ MAt lo w m v2 v3 v4 ∧ m.sel.size + Tree.weight (bodyE m) ≤ 1048576
/-- What a row of classes leads to. -/
theorem classes_all {lo t n c : Nat} {w : World} {a : Option Addr} {cs : List C} {ds : List D} (h : erases ds = plainCs cs) (hh : Holds lo w (.row t 4 (.slice a n c) ds)) (hs : Strict (.row t 4 (.slice a n c) ds)) (hw : Data.weights (plainCs cs) ≤ 1048576) :
    n = cs.length ∧ c ≤ maxLen ∧ ∀ i x, cs[i]? = some x → ∃ b o v2 ma mc, a = some ⟨b, o, none⟩ ∧ (w.cell? ⟨b, o + i * 4, none⟩ = some (.string x.name) ∧ w.cell? ⟨b, o + i * 4 + 1, none⟩ = some (.string x.parent) ∧ w.cell? ⟨b, o + i * 4 + 2, none⟩ = some v2 ∧ w.cell? ⟨b, o + i * 4 + 3, none⟩ = some (.slice ma x.methods.length mc)) ∧ CAt lo w x v2 ma mc := by
  rw [Holds] at hh
  obtain ⟨⟨a', n', c', e, -, hl, hn, hc, hcell⟩, hk⟩ := hh
  cases e
  have hlen := congrArg List.length h
  rw [erases_len, plainCs_len] at hlen
  rw [Strict] at hs
  refine ⟨by omega, hc, fun i x hx => ?_⟩
  obtain ⟨hi, rfl⟩ := List.getElem?_eq_some_iff.1 hx
  obtain ⟨b, o, rfl, -, hc4⟩ := hcell (by omega)
  obtain ⟨A, y, B, hd, hal, hy⟩ := classes_at cs ds h i hi
  have hyh : Holdss lo w y := (Holdss.append.1 (Holdss.append.1 (hd ▸ hk)).2).1
  have hys : Stricts y := (Stricts.append.1 (Stricts.append.1 (hd ▸ hs.2)).2).1
  have hwc := plainCs_weight cs i hi
  rw [plainC_weight] at hwc
  obtain ⟨t2, t3, f2, f3, dm, rfl, hm3⟩ := class_form hy
  simp only [Holdss, and_true] at hyh
  obtain ⟨g0, g1, g2, g3⟩ := hyh
  rw [stricts_iff] at hys
  have hs3 := hys (.row t3 5 f3 dm) (by simp)
  rw [Strict] at hs3
  rw [Holds] at g3
  obtain ⟨⟨ma, mn, mc, rfl, -, hml, hmn, hmc, hmcell⟩, hmh⟩ := g3
  have hmlen := congrArg List.length hm3
  rw [erases_len, plainMs_len] at hmlen
  obtain rfl : mn = cs[i].methods.length := by omega
  have e0 := row_at0 hc4 hd hal (.str cs[i].name) rfl
  have e1 := row_at hc4 hd hal 1 (.str cs[i].parent) rfl
  have e2 := row_at hc4 hd hal 2 (.row t2 1 f2 (strs cs[i].fields)) rfl
  have e3 := row_at hc4 hd hal 3 (.row t3 5 (.slice ma cs[i].methods.length mc) dm) rfl
  refine ⟨b, o, f2, ma, mc, rfl, ⟨e0, e1, e2, e3⟩, strs_texts g2, ⟨hmn, hmc⟩, fun k m hmk => ?_⟩
  obtain ⟨hk', rfl⟩ := List.getElem?_eq_some_iff.1 hmk
  obtain ⟨b5, o5, rfl, -, hc5⟩ := hmcell (by omega)
  obtain ⟨A5, z, B5, hd5, hal5, hz⟩ := meths_at cs[i].methods dm hm3 k hk'
  have hzh : Holdss lo w z := (Holdss.append.1 (Holdss.append.1 (hd5 ▸ hmh)).2).1
  have hzs : Stricts z := (Stricts.append.1 (Stricts.append.1 (hd5 ▸ hs3.2)).2).1
  obtain ⟨v2, v3, v4, hag, hma⟩ := meth_at hz hzh hzs
  obtain ⟨u2, u3, u4, w2, w3, w4, d4, hzf, -⟩ := meth_form hz
  have hvv : v2 = w2 ∧ v3 = w3 ∧ v4 = w4 := by
    rw [hzf] at hag
    have := congrArg Array.toList (Value.agg.inj hag)
    simp [vals, val] at this
    exact ⟨this.1.symm, this.2.1.symm, this.2.2.symm⟩
  obtain ⟨rfl, rfl, rfl⟩ := hvv
  have hwm := plainMs_weight cs[i].methods k hk'
  rw [plainM_weight] at hwm
  refine ⟨b5, o5, v2, v3, v4, rfl, ?_, ?_, ?_, ?_, ?_, hma, by omega⟩
  · exact row_at0 hc5 hd5 hal5 (.str cs[i].methods[k].sel) (by rw [hzf]; rfl)
  · exact row_at hc5 hd5 hal5 1 (.bool cs[i].methods[k].cls) (by rw [hzf]; rfl)
  · exact row_at hc5 hd5 hal5 2 (.row u2 1 v2 (strs cs[i].methods[k].params)) (by rw [hzf]; rfl)
  · exact row_at hc5 hd5 hal5 3 (.row u3 1 v3 (strs cs[i].methods[k].temps)) (by rw [hzf]; rfl)
  · exact row_at hc5 hd5 hal5 4 (.row u4 5 v4 d4) (by rw [hzf]; rfl)
/-- A unit's cells. -/
theorem unit_at {lo : Nat} {w : World} {u : U} {ds : List D} (he : erases ds = plainU u) (hh : Holdss lo w ds) (hs : Stricts ds) (hw : Data.weights (erases ds) ≤ 1048576) :
    ∃ a c v2 v3 v4, agg ds = .agg #[.slice a u.classes.length c, .string u.main.sel, .bool u.main.cls, v2, v3, v4] ∧ MAt lo w u.main v2 v3 v4 ∧ u.main.sel.size + Tree.weight (bodyE u.main) ≤ 1048576 ∧ c ≤ maxLen ∧ u.classes.length ≤ 1048576 ∧
      ∀ i x, u.classes[i]? = some x → ∃ b o v2 ma mc, a = some ⟨b, o, none⟩ ∧ (w.cell? ⟨b, o + i * 4, none⟩ = some (.string x.name) ∧ w.cell? ⟨b, o + i * 4 + 1, none⟩ = some (.string x.parent) ∧ w.cell? ⟨b, o + i * 4 + 2, none⟩ = some v2 ∧ w.cell? ⟨b, o + i * 4 + 3, none⟩ = some (.slice ma x.methods.length mc)) ∧ CAt lo w x v2 ma mc := by
  rw [he, plainU_weight, plainM_weight] at hw
  obtain ⟨t0, v0, d0, ms, rfl, h0, h1⟩ := unit_form he
  rw [Holdss] at hh
  rw [Stricts] at hs
  obtain ⟨v2, v3, v4, hag, hm⟩ := meth_at h1 hh.2 hs.2
  have hf := hh.1
  rw [Holds] at hf
  obtain ⟨⟨a, n, c, rfl, -⟩, -⟩ := hf
  obtain ⟨hn, hc, hcl⟩ := classes_all h0 hh.1 hs.1 (by omega)
  subst hn
  refine ⟨a, c, v2, v3, v4, ?_, hm, by omega, hc, by omega, hcl⟩
  have e : vals ms = [.string u.main.sel, .bool u.main.cls, v2, v3, v4] := by
    unfold agg at hag
    exact congrArg Array.toList (Value.agg.inj hag)
  show Value.agg (Value.slice a u.classes.length c :: vals ms).toArray = _
  rw [e]

set_option maxRecDepth 10000 in
set_option maxHeartbeats 8000000 in
theorem equal_unit {lo1 lo2 : Nat} {w : World} {u v : U} {ds es : List D} (he : erases ds = plainU u) (hh : Holdss lo1 w ds) (hs : Stricts ds) (hw : Data.weights (erases ds) ≤ 1048576) (he2 : erases es = plainU v) (hh2 : Holdss lo2 w es) (hs2 : Stricts es) (hw2 : Data.weights (erases es) ≤ 1048576) :
    Calls Try.prog 11 #[agg ds, agg es] w fun r w' => r = .returned (.bool (eqU u v)) ∧ Below w.heap.size w w' := by
  obtain ⟨a1, c1, x2, x3, x4, g1, hma, hwa, hc1, hn1, hcl1⟩ := unit_at he hh hs hw
  obtain ⟨a2, c2, y2, y3, y4, g2, hmb, hwb, hc2, hn2, hcl2⟩ := unit_at he2 hh2 hs2 hw2
  rw [g1, g2]
  clear he hh hs hw he2 hh2 hs2 hw2 g1 g2 ds es
  unfold maxLen at hc1 hc2
  have hla : u.main.params.length + u.main.temps.length ≤ 4398046511104 := by
    have h1 := bodyE_weight u.main
    rw [List.length_append] at h1
    omega
  have hlb : v.main.params.length + v.main.temps.length ≤ 4398046511104 := by
    have h1 := bodyE_weight v.main
    rw [List.length_append] at h1
    omega
  have KM := fun w' (hb : Below w.heap.size w w') => Lib.hid (equal_meth (hma.below hb) (hmb.below hb) hla hlb)
  have HC1 := Lib.hid hcl1
  have HC2 := Lib.hid hcl2
  have HV : Hid (eqU u v = (decide (u.classes.length = v.classes.length) && eqM u.main v.main && eqCs u.classes v.classes)) := Lib.hid rfl
  clear hcl1 hcl2 hma hmb hwa hwb hla hlb
  generalize eqU u v = R at *
  by_cases hlen : u.classes.length = v.classes.length
  case neg =>
    have hR : R = false := by rw [HV.out, decide_eq_false hlen]; rfl
    subst hR
    have hne : ((u.classes.length : Int) != (v.classes.length : Int)) = true := by
      rw [bne_iff_ne]
      omega
    clear HV HC1 HC2 KM
    generalize u.classes.length = n1 at *
    generalize v.classes.length = n2 at *
    go_enter Try.func11, Try.ntmps11
    go_wp2_with fail
    go_ret
    exact ⟨rfl, ((Below.refl _ _).alloc (Nat.le_refl _) _).alloc (by simp) _⟩
  have HV2 : Hid (R = (eqM u.main v.main && eqCs u.classes v.classes)) := Lib.hid (by rw [HV.out, decide_eq_true hlen, Bool.true_and])
  clear HV
  have HL := Lib.hid hlen
  rw [← hlen]
  clear hlen hn2
  generalize hN : u.classes.length = N at *
  have HN := Lib.hid hN
  clear hN
  have HB0 : Hid (Below w.heap.size w ((w.alloc (.cells #[.slice a1 N c1, .string u.main.sel, .bool u.main.cls, x2, x3, x4] 40)).alloc (.cells #[.slice a2 N c2, .string v.main.sel, .bool v.main.cls, y2, y3, y4] 40))) := Lib.hid (((Below.refl _ _).alloc (Nat.le_refl _) _).alloc (by simp) _)
  have HU0 : Hid (Cells w.heap.size [.row 0 4 (.slice a1 N c1) [], .str u.main.sel, .bool u.main.cls, .row 0 1 x2 [], .row 0 1 x3 [], .row 0 5 x4 []] ((w.alloc (.cells #[.slice a1 N c1, .string u.main.sel, .bool u.main.cls, x2, x3, x4] 40)).alloc (.cells #[.slice a2 N c2, .string v.main.sel, .bool v.main.cls, y2, y3, y4] 40))) := Lib.hid ((cells_new w [.row 0 4 (.slice a1 N c1) [], .str u.main.sel, .bool u.main.cls, .row 0 1 x2 [], .row 0 1 x3 [], .row 0 5 x4 []] _).step ((Below.refl _ _).alloc (Nat.le_refl _) _))
  have hv0 : Cells (w.heap.size + 1) [.row 0 4 (.slice a2 N c2) [], .str v.main.sel, .bool v.main.cls, .row 0 1 y2 [], .row 0 1 y3 [], .row 0 5 y4 []] ((w.alloc (.cells #[.slice a1 N c1, .string u.main.sel, .bool u.main.cls, x2, x3, x4] 40)).alloc (.cells #[.slice a2 N c2, .string v.main.sel, .bool v.main.cls, y2, y3, y4] 40)) := by
    have h := cells_new (w.alloc (.cells #[.slice a1 N c1, .string u.main.sel, .bool u.main.cls, x2, x3, x4] 40)) [.row 0 4 (.slice a2 N c2) [], .str v.main.sel, .bool v.main.cls, .row 0 1 y2 [], .row 0 1 y3 [], .row 0 5 y4 []] 40
    rw [show (w.alloc (.cells #[.slice a1 N c1, .string u.main.sel, .bool u.main.cls, x2, x3, x4] 40)).heap.size = w.heap.size + 1 by simp] at h
    exact h
  have HV0 := Lib.hid hv0
  clear hv0
  generalize eqM u.main v.main = X at *
  go_enter Try.func11, Try.ntmps11
  go_wp2_with fail
  refine (KM _ HB0.out).out.mono ?_
  rintro e w1 ⟨rfl, hb1⟩
  have HB1 := Lib.hid (HB0.out.trans (hb1.mono HB0.out.size))
  have HU1 := Lib.hid (HU0.out.step hb1)
  have HV1 := Lib.hid (HV0.out.step hb1)
  clear hb1 KM HB0 HU0 HV0
  cases X with
  | false =>
    have hR : R = false := by rw [HV2.out]; rfl
    subst hR
    clear HV2
    go_wp2_with fail
    go_ret
    exact ⟨rfl, HB1.out⟩
  | true =>
  have HVA : Hid (R = eqCs u.classes v.classes) := Lib.hid (by rw [HV2.out, Bool.true_and])
  clear HV2
  go_wp2_with fail
  go_loopw [5] (fun j wr => ∃ i : Nat, i ≤ N ∧ j = .int .i64 i ∧ ((u.classes.zip v.classes).take i).all (fun p => eqC p.1 p.2) = true ∧ Below w.heap.size w wr ∧ Cells w.heap.size [.row 0 4 (.slice a1 N c1) [], .str u.main.sel, .bool u.main.cls, .row 0 1 x2 [], .row 0 1 x3 [], .row 0 5 x4 []] wr ∧ Cells (w.heap.size + 1) [.row 0 4 (.slice a2 N c2) [], .str v.main.sel, .bool v.main.cls, .row 0 1 y2 [], .row 0 1 y3 [], .row 0 5 y4 []] wr) (fun j _ => N - (intOf j).toNat)
  case atStart => exact ⟨0, Nat.zero_le _, rfl, rfl, HB1.out, HU1.out, HV1.out⟩
  case round =>
    clear HB1 HU1 HV1
    obtain ⟨i, hi, rfl, hall, hbw, hub, hvb⟩ := hrel
    have HALL := Lib.hid hall
    have HBW := Lib.hid hbw
    have HUB := Lib.hid hub
    have HVB := Lib.hid hvb
    have u0 := hub.at 0 (.row 0 4 (.slice a1 N c1) []) rfl
    have v0 := hvb.at 0 (.row 0 4 (.slice a2 N c2) []) rfl
    simp only [val] at u0 v0
    clear hall hbw hub hvb
    by_cases hlt : i < N
    case neg =>
      have hiN : i = N := by omega
      have hR : R = true := by
        rw [HVA.out]
        have h := HALL.out
        rw [hiN, List.take_of_length_le (by rw [List.length_zip, HN.out, ← HL.out]; omega)] at h
        exact h
      subst hR
      clear hiN HVA
      go_wp2_with fail
      go_ret
      exact ⟨rfl, HBW.out⟩
    have hil : i < u.classes.length := by rw [HN.out]; exact hlt
    have hjl : i < v.classes.length := by rw [← HL.out]; exact hlt
    obtain ⟨b1, o1, p2, m1, k1, ha1, ⟨e0, e1, e2, e3⟩, hcat1⟩ := HC1.out i _ (List.getElem?_eq_getElem hil)
    obtain ⟨b2, o2, q2, m2, k2, ha2, ⟨f0, f1, f2, f3⟩, hcat2⟩ := HC2.out i _ (List.getElem?_eq_getElem hjl)
    subst ha1 ha2
    replace e0 := cell_keep HBW.out e0
    replace e1 := cell_keep HBW.out e1
    replace e2 := cell_keep HBW.out e2
    replace e3 := cell_keep HBW.out e3
    replace f0 := cell_keep HBW.out f0
    replace f1 := cell_keep HBW.out f1
    replace f2 := cell_keep HBW.out f2
    replace f3 := cell_keep HBW.out f3
    have hzl : i < (u.classes.zip v.classes).length := by rw [List.length_zip]; omega
    have hz : (u.classes.zip v.classes)[i] = (u.classes[i], v.classes[i]) := List.getElem_zip
    have HRF : Hid (eqC u.classes[i] v.classes[i] = false → R = false) := Lib.hid fun h => by rw [HVA.out]; exact all_no _ _ i hzl (by rw [hz]; exact h)
    have HRT : Hid (eqC u.classes[i] v.classes[i] = true → ((u.classes.zip v.classes).take (i + 1)).all (fun p => eqC p.1 p.2) = true) := Lib.hid fun h => all_take _ _ i hzl HALL.out (by rw [hz]; exact h)
    have HCA := Lib.hid hcat1
    have HCB := Lib.hid hcat2
    obtain ⟨fa, fc, hfa, -⟩ := hcat1.fields
    obtain ⟨fb, fd, hfb, -⟩ := hcat2.fields
    have hr1 := hcat1.room
    have hr2 := hcat2.room
    unfold maxLen at hr1 hr2
    subst hfa hfb
    clear hcat1 hcat2 hzl hz HALL
    generalize u.classes[i] = cu at *
    generalize v.classes[i] = cv at *
    clear hil hjl
    have lt1 : b1 < wr.heap.size := cell_lt e0
    have lt2 : b2 < wr.heap.size := cell_lt f0
    have lt3 : w.heap.size < wr.heap.size := HUB.out.1
    have lt4 : w.heap.size + 1 < wr.heap.size := HVB.out.1
    go_upto_region 6 with fail
    go_cut [6, 7] from 31 to 40 (fun s6 s7 wx => ∃ g h, s6 = .pointer (some ⟨g, 0, none⟩) ∧ s7 = .pointer (some ⟨h, 0, none⟩) ∧ St2 w [.row 0 4 (.slice (some ⟨b1, o1, none⟩) N c1) [], .str u.main.sel, .bool u.main.cls, .row 0 1 x2 [], .row 0 1 x3 [], .row 0 5 x4 []] [.row 0 4 (.slice (some ⟨b2, o2, none⟩) N c2) [], .str v.main.sel, .bool v.main.cls, .row 0 1 y2 [], .row 0 1 y3 [], .row 0 5 y4 []] g [.str cu.name, .str cu.parent, .row 0 1 (.slice fa cu.fields.length fc) [], .row 0 5 (.slice m1 cu.methods.length k1) []] h [.str cv.name, .str cv.parent, .row 0 1 (.slice fb cv.fields.length fd) [], .row 0 5 (.slice m2 cv.methods.length k2) []] wx)
    case first =>
      go_region
      all_goals
        go_wp2_with fail
        go_meet
        first
          | exact ⟨_, _, rfl, rfl, st_new HBW.out HUB.out HVB.out (two_new wr [.str cu.name, .str cu.parent, .row 0 1 (.slice fa cu.fields.length fc) [], .row 0 5 (.slice m1 cu.methods.length k1) []] [.str cv.name, .str cv.parent, .row 0 1 (.slice fb cv.fields.length fd) [], .row 0 5 (.slice m2 cv.methods.length k2) []] 57 57)⟩
          | exact ⟨_, _, rfl, rfl, st_new HBW.out HUB.out HVB.out (by have h := two_new wr [.str cv.name, .str cv.parent, .row 0 1 (.slice fb cv.fields.length fd) [], .row 0 5 (.slice m2 cv.methods.length k2) []] [.str cu.name, .str cu.parent, .row 0 1 (.slice fa cu.fields.length fc) [], .row 0 5 (.slice m1 cu.methods.length k1) []] 57 57; exact ⟨h.1, h.2.2, h.2.1⟩)⟩
    case rest =>
    clear e0 e1 e2 e3 f0 f1 f2 f3 lt1 lt2 lt3 lt4 u0 v0
    obtain ⟨g, h, rfl, rfl, hst⟩ := hcut
    have HCO : Hid (eqC cu cv = (decide (cu.name = cv.name) && decide (cu.parent = cv.parent) && decide (cu.fields = cv.fields) && decide (cu.methods.length = cv.methods.length) && eqMs cu.methods cv.methods)) := Lib.hid rfl
    generalize eqC cu cv = Q at *
    have hnf := hr1.1
    have KT := fun w' (hb : Below w.heap.size w w') => Lib.hid (SpecEqual.texts_any (HCA.out.fields.below hb) (HCB.out.fields.below hb))
    have HS0 := Lib.hid hst
    have d0 := hst.c.at 0 (.str cu.name) rfl
    have d1 := hst.c.at 1 (.str cu.parent) rfl
    have d2 := hst.c.at 2 (.row 0 1 (.slice fa cu.fields.length fc) []) rfl
    have g0 := hst.d.at 0 (.str cv.name) rfl
    have g1 := hst.d.at 1 (.str cv.parent) rfl
    have g2 := hst.d.at 2 (.row 0 1 (.slice fb cv.fields.length fd) []) rfl
    simp only [val] at d0 d1 d2 g0 g1 g2
    clear hst hnf HBW HUB HVB HC1 HC2
    by_cases hnm : cu.name = cv.name
    case neg =>
      have hse : (cu.name.toList == cv.name.toList) = false := SpecEqual.beq_no hnm
      have hR : R = false := HRF.out (by rw [HCO.out, decide_eq_false hnm]; rfl)
      subst hR
      clear HRF HRT HCO hnm KT HCA HCB
      go_wp2_with fail
      go_ret
      exact ⟨rfl, HS0.out.below⟩
    have hse : (cu.name.toList == cv.name.toList) = true := by rw [hnm]; exact BEq.rfl
    by_cases hpr : cu.parent = cv.parent
    case neg =>
      have hpe : (cu.parent.toList == cv.parent.toList) = false := SpecEqual.beq_no hpr
      have hR : R = false := HRF.out (by rw [HCO.out, decide_eq_false hpr]; simp)
      subst hR
      clear HRF HRT HCO hnm hpr KT HCA HCB
      go_wp2_with fail
      go_ret
      exact ⟨rfl, HS0.out.below⟩
    have hpe : (cu.parent.toList == cv.parent.toList) = true := by rw [hpr]; exact BEq.rfl
    have HCP : Hid (Q = (decide (cu.fields = cv.fields) && decide (cu.methods.length = cv.methods.length) && eqMs cu.methods cv.methods)) := Lib.hid (by rw [HCO.out, decide_eq_true hnm, decide_eq_true hpr]; simp)
    clear HCO hnm hpr
    have KT2 := Lib.hid (KT _ HS0.out.below).out
    clear KT
    generalize decide (cu.fields = cv.fields) = F at *
    go_wp2_with fail
    refine KT2.out.mono ?_
    rintro e w5 ⟨rfl, hb5⟩
    have HS1 := Lib.hid (HS0.out.step hb5)
    clear hb5 HS0 KT2 d0 d1 d2 g0 g1 g2 hse hpe
    cases F with
    | false =>
      have hR : R = false := HRF.out (by rw [HCP.out]; rfl)
      subst hR
      clear HRF HRT HCP HCA HCB
      go_wp2_with fail
      go_ret
      exact ⟨rfl, HS1.out.below⟩
    | true =>
    have d3 := HS1.out.c.at 3 (.row 0 5 (.slice m1 cu.methods.length k1) []) rfl
    have g3 := HS1.out.d.at 3 (.row 0 5 (.slice m2 cv.methods.length k2) []) rfl
    simp only [val] at d3 g3
    by_cases hml : cu.methods.length = cv.methods.length
    case neg =>
      have hR : R = false := HRF.out (by rw [HCP.out, decide_eq_false hml]; simp)
      subst hR
      have hne : ((cu.methods.length : Int) != (cv.methods.length : Int)) = true := by
        rw [bne_iff_ne]
        omega
      clear HRF HRT HCP HCA HCB hml
      generalize cu.methods.length = n1 at *
      generalize cv.methods.length = n2 at *
      go_wp2_with fail
      go_ret
      exact ⟨rfl, HS1.out.below⟩
    have HCQ : Hid (Q = eqMs cu.methods cv.methods) := Lib.hid (by rw [HCP.out, decide_eq_true hml]; simp)
    clear HCP
    have HML := Lib.hid hml
    rw [← hml] at g3 HS1
    clear hml hr2
    generalize hNM : cu.methods.length = NM at *
    have HNM := Lib.hid hNM
    clear hNM
    go_wp2_with fail
    clear d3 g3
    go_loopw [8] (fun j wq => ∃ k : Nat, k ≤ NM ∧ j = .int .i64 k ∧ ((cu.methods.zip cv.methods).take k).all (fun p => eqM p.1 p.2) = true ∧ St2 w [.row 0 4 (.slice (some ⟨b1, o1, none⟩) N c1) [], .str u.main.sel, .bool u.main.cls, .row 0 1 x2 [], .row 0 1 x3 [], .row 0 5 x4 []] [.row 0 4 (.slice (some ⟨b2, o2, none⟩) N c2) [], .str v.main.sel, .bool v.main.cls, .row 0 1 y2 [], .row 0 1 y3 [], .row 0 5 y4 []] g [.str cu.name, .str cu.parent, .row 0 1 (.slice fa cu.fields.length fc) [], .row 0 5 (.slice m1 NM k1) []] h [.str cv.name, .str cv.parent, .row 0 1 (.slice fb cv.fields.length fd) [], .row 0 5 (.slice m2 NM k2) []] wq) (fun j _ => NM - (intOf j).toNat)
    case atStart => exact ⟨0, Nat.zero_le _, rfl, rfl, HS1.out⟩
    case round =>
      clear HS1
      obtain ⟨k, hk, rfl, hka, hst⟩ := hrel
      have HKA := Lib.hid hka
      have HS2 := Lib.hid hst
      have d3 := hst.c.at 3 (.row 0 5 (.slice m1 NM k1) []) rfl
      have g3 := hst.d.at 3 (.row 0 5 (.slice m2 NM k2) []) rfl
      simp only [val] at d3 g3
      clear hka hst
      by_cases hkl : k < NM
      case neg =>
        have hkN : k = NM := by omega
        have hQ : Q = true := by
          rw [HCQ.out]
          have h := HKA.out
          rw [hkN, List.take_of_length_le (by rw [List.length_zip]; have := HNM.out; omega)] at h
          exact h
        have HNX := Lib.hid (HRT.out hQ)
        clear hkN hQ HCQ HKA HRF HRT HCA HCB
        go_wp2_with fail
        go_roundw
        case rel => exact ⟨i + 1, by omega, by go_num, HNX.out, HS2.out.below, HS2.out.u, HS2.out.v⟩
        case measure => simp [intOf]; omega
      have hil : k < cu.methods.length := by rw [HNM.out]; exact hkl
      have hjl : k < cv.methods.length := by rw [← HML.out]; exact hkl
      obtain ⟨p1, q1, s2, s3, s4, ha1, e0, e1, e2, e3, e4, hma, hwa⟩ := HCA.out.meths k _ (List.getElem?_eq_getElem hil)
      obtain ⟨p2, q2, t2, t3, t4, ha2, f0, f1, f2, f3, f4, hmb, hwb⟩ := HCB.out.meths k _ (List.getElem?_eq_getElem hjl)
      subst ha1 ha2
      have hzl : k < (cu.methods.zip cv.methods).length := by rw [List.length_zip]; omega
      have hz : (cu.methods.zip cv.methods)[k] = (cu.methods[k], cv.methods[k]) := List.getElem_zip
      have HK1 : Hid (eqM cu.methods[k] cv.methods[k] = false → Q = false) := Lib.hid fun h => by rw [HCQ.out]; exact all_no _ _ k hzl (by rw [hz]; exact h)
      have HK2 : Hid (eqM cu.methods[k] cv.methods[k] = true → ((cu.methods.zip cv.methods).take (k + 1)).all (fun p => eqM p.1 p.2) = true) := Lib.hid fun h => all_take _ _ k hzl HKA.out (by rw [hz]; exact h)
      have hla : cu.methods[k].params.length + cu.methods[k].temps.length ≤ 4398046511104 := by
        have h1 := bodyE_weight cu.methods[k]
        rw [List.length_append] at h1
        omega
      have hlb : cv.methods[k].params.length + cv.methods[k].temps.length ≤ 4398046511104 := by
        have h1 := bodyE_weight cv.methods[k]
        rw [List.length_append] at h1
        omega
      have KM := fun d os => Lib.hid (Calls.regrown_of (equal_meth (w := grow (redrawn _ d) os) ((hma.below HS2.out.below).below (below_regrown _ d os)) ((hmb.below HS2.out.below).below (below_regrown _ d os)) hla hlb))
      replace e0 := cell_regrown (cell_keep HS2.out.below e0)
      replace e1 := cell_regrown (cell_keep HS2.out.below e1)
      replace e2 := cell_regrown (cell_keep HS2.out.below e2)
      replace e3 := cell_regrown (cell_keep HS2.out.below e3)
      replace e4 := cell_regrown (cell_keep HS2.out.below e4)
      replace f0 := cell_regrown (cell_keep HS2.out.below f0)
      replace f1 := cell_regrown (cell_keep HS2.out.below f1)
      replace f2 := cell_regrown (cell_keep HS2.out.below f2)
      replace f3 := cell_regrown (cell_keep HS2.out.below f3)
      replace f4 := cell_regrown (cell_keep HS2.out.below f4)
      have d3' := cell_regrown d3
      have g3' := cell_regrown g3
      clear hma hmb hwa hwb hla hlb hzl hz HKA HCQ HCA HCB
      generalize cu.methods[k] = mu at *
      generalize cv.methods[k] = mv at *
      clear hil hjl
      generalize eqM mu mv = b6 at *
      have hHB := HS2.out.below
      go_wp2_with fail
      refine wp_region_quiet_below (by kernel_rfl) (by kernel_rfl) ?_
      repeat (go_big_quiet_step ((go_at_call 6; exact (KM _ _).out)))
      refine wpQuiet_nil ?_
      intro w6 hw6
      have HS6 := Lib.hid (HS2.out.step (regrown_low hw6))
      clear hw6 KM e0 e1 e2 e3 e4 f0 f1 f2 f3 f4 d3 g3 d3' g3' HS2 hHB
      cases b6 with
      | false =>
        have hR : R = false := HRF.out (HK1.out rfl)
        subst hR
        clear HRF HRT HK1 HK2
        go_wp2_with fail
        go_ret
        exact ⟨rfl, HS6.out.below⟩
      | true =>
        go_wp2_with fail
        go_roundw
        case rel => exact ⟨k + 1, by omega, by go_num, HK2.out rfl, HS6.out⟩
        case measure => simp [intOf]; omega
end Go.Proofs.Ytlmhgeanknhcfaa.Data
