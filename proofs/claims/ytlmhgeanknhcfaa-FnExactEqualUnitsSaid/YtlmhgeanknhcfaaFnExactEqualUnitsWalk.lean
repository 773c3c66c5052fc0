/-
  The walk of laws.FnExactEqualUnits: it returns true at every two units.
-/
import Derived.Test.YtlmhgeanknhcfaaLwFnExactEqualUnits
import Derived.Test.YtlmhgeanknhcfaaImplEqU
namespace Go.Proofs.Ytlmhgeanknhcfaa.fnExactEqualUnitsW
open Go.RowKit
open Strs Tree Soft TreeTo Texts Go.Proofs.Ytlmhgeanknhcfaa.Data

/-- A method out of data in blocks of its own. -/
theorem meth_own {w : World} {m : M} {ds : List D} (hd : erases ds = plainM m) (ho : Own 0 w ds) : ∃ v2 v3 v4, ds.map val = [.string m.sel, .bool m.cls, v2, v3, v4] ∧ ImplMeth.MSt w m v2 v3 v4 := by
  obtain ⟨v2, v3, v4, hag, hm⟩ := meth_at hd ho.holds ho.strict
  obtain ⟨t2, t3, t4, w2, w3, w4, d4, rfl, h4⟩ := meth_form hd
  have hsoft : SoftKids 0 w m.body w4 := softkids_of h4 (row_iff.1 (Own.right (a := [.str m.sel, .bool m.cls, .row t2 1 w2 (strs m.params), .row t3 1 w3 (strs m.temps)]) (b := [.row t4 5 w4 d4]) ho))
  have hvv : v2 = w2 ∧ v3 = w3 ∧ v4 = w4 := by
    have := congrArg Array.toList (Value.agg.inj hag)
    simp [vals, val] at this
    exact ⟨this.1.symm, this.2.1.symm, this.2.2.symm⟩
  obtain ⟨rfl, rfl, rfl⟩ := hvv
  exact ⟨v2, v3, v4, rfl, hm, hsoft⟩
/-- The cells of a row of its own at a place. -/
theorem row_cells {w : World} {t k : Nat} {a : Option Addr} {n c : Nat} {ds A x B : List D} {i : Nat} (h : Row 0 w t k (.slice a n c) ds) (hd : ds = A ++ (x ++ B)) (hal : A.length = i * k) (hx : 0 < x.length) :
    ∃ b o, a = some ⟨b, o, none⟩ ∧ ∀ j (hj : j < x.length), w.cell? ⟨b, o + i * k + j, none⟩ = some (val x[j]) := by
  have hh := (row_iff.2 h).holds
  simp only [Holdss, and_true] at hh
  rw [Go.Proofs.Ytlmhgeanknhcfaa.Data.Holds] at hh
  obtain ⟨⟨a', n', c', e, hk, hl, hn, hc, hcell⟩, -⟩ := hh
  cases e
  have hpos : 0 < n := by
    rcases Nat.eq_zero_or_pos n with h0 | h0
    · rw [h0, Nat.zero_mul] at hl
      rw [hd] at hl
      simp at hl
      rw [hl.2.1] at hx
      simp at hx
    · exact h0
  obtain ⟨b, o, rfl, -, hcc⟩ := hcell hpos
  refine ⟨b, o, rfl, fun j hj => ?_⟩
  have hjl : i * k + j < ds.length := by rw [hd, List.length_append, List.length_append, hal]; omega
  rw [Nat.add_assoc, hcc _ hjl]
  congr 2
  subst hd
  rw [List.getElem_append_right (by omega), List.getElem_append_left (by omega)]
  congr 1
  omega
theorem own_mid {w : World} {A x B : List D} (h : Own 0 w (A ++ (x ++ B))) : Own 0 w x := h.right.left
/-- A class out of data in blocks of its own. -/
theorem class_own {w : World} {c : C} {ds : List D} (hd : erases ds = plainC c) (ho : Own 0 w ds) (hw : Data.weights (plainC c) ≤ 1048576) : ∃ v2 ma mc, ds.map val = [.string c.name, .string c.parent, v2, .slice ma c.methods.length mc] ∧ ImplMeth.CS w c v2 ma mc := by
  obtain ⟨t2, t3, f2, f3, dm, rfl, hm3⟩ := class_form hd
  rw [plainC_weight] at hw
  have hr3 : Row 0 w t3 5 f3 dm := row_iff.1 (Own.right (a := [.str c.name, .str c.parent, .row t2 1 f2 (strs c.fields)]) (b := [.row t3 5 f3 dm]) ho)
  have hhs := ho.holds
  simp only [Holdss, and_true] at hhs
  obtain ⟨g0, g1, g2, g3⟩ := hhs
  rw [Go.Proofs.Ytlmhgeanknhcfaa.Data.Holds] at g3
  obtain ⟨⟨ma, mn, mc, rfl, -, hml, hmn, hmc, hmcell⟩, hmh⟩ := g3
  have hmlen := congrArg List.length hm3
  rw [erases_len, plainMs_len] at hmlen
  obtain rfl : mn = c.methods.length := by omega
  refine ⟨f2, ma, mc, rfl, strs_texts g2, ⟨hmn, hmc⟩, fun k m hk => ?_⟩
  obtain ⟨h, rfl⟩ := List.getElem?_eq_some_iff.1 hk
  obtain ⟨A, x, B, hdx, hal, hx⟩ := meths_at c.methods dm hm3 k h
  have hxl : x.length = 5 := by
    have := congrArg List.length hx
    rw [erases_len, plainM_len] at this
    exact this
  obtain ⟨b, o, e, hc⟩ := row_cells hr3 hdx hal (by omega)
  have hxo : Own 0 w x := own_mid (hdx ▸ hr3.kids)
  obtain ⟨v2, v3, v4, hxv, hst⟩ := meth_own hx hxo
  have hval : ∀ j v (hj : j < x.length), [Value.string c.methods[k].sel, .bool c.methods[k].cls, v2, v3, v4][j]? = some v → val x[j] = v := fun j v hj e => by
    rw [← hxv] at e
    simpa [hj] using e
  have hwm := plainMs_weight c.methods k h
  rw [plainM_weight] at hwm
  refine ⟨b, o, v2, v3, v4, e, ⟨?_, ?_, ?_, ?_, ?_⟩, hst, by omega⟩
  · have := hc 0 (by omega); rw [hval 0 _ (by omega) rfl] at this; exact this
  · have := hc 1 (by omega); rw [hval 1 _ (by omega) rfl] at this; exact this
  · have := hc 2 (by omega); rw [hval 2 _ (by omega) rfl] at this; exact this
  · have := hc 3 (by omega); rw [hval 3 _ (by omega) rfl] at this; exact this
  · have := hc 4 (by omega); rw [hval 4 _ (by omega) rfl] at this; exact this
/-- What a unit's cells lead to. -/
theorem unit_own {w : World} {u : U} {ds : List D} (hd : erases ds = plainU u) (ho : Own 0 w ds) (hw : Data.weights (plainU u) ≤ 1048576) :
    ∃ ca cc v2 v3 v4, ds.map val = [.slice ca u.classes.length cc, .string u.main.sel, .bool u.main.cls, v2, v3, v4] ∧ ImplMeth.MSt w u.main v2 v3 v4 ∧ u.main.sel.size + Tree.weight (bodyE u.main) ≤ 1048576 ∧ (u.classes.length ≤ cc ∧ cc ≤ maxLen) ∧
      ImplMeth.RowC w u.classes ca := by
  obtain ⟨t0, v0, d0, ms, rfl, h0, h1⟩ := unit_form hd
  rw [plainU_weight, plainM_weight] at hw
  have hr0 : Row 0 w t0 4 v0 d0 := row_iff.1 (Own.left (a := [.row t0 4 v0 d0]) (b := ms) ho)
  have hms : Own 0 w ms := Own.right (a := [.row t0 4 v0 d0]) (b := ms) ho
  obtain ⟨v2, v3, v4, hmv, hst⟩ := meth_own h1 hms
  have hhs := (row_iff.2 hr0).holds
  simp only [Holdss, and_true] at hhs
  rw [Go.Proofs.Ytlmhgeanknhcfaa.Data.Holds] at hhs
  obtain ⟨⟨ca, cn, cc, rfl, -, hcl, hcn, hcc, hccell⟩, -⟩ := hhs
  have hclen := congrArg List.length h0
  rw [erases_len, plainCs_len] at hclen
  obtain rfl : cn = u.classes.length := by omega
  refine ⟨ca, cc, v2, v3, v4, by rw [List.map_cons, hmv]; rfl, hst, by omega, ⟨hcn, hcc⟩, fun k c hk => ?_⟩
  obtain ⟨h, rfl⟩ := List.getElem?_eq_some_iff.1 hk
  obtain ⟨A, x, B, hdx, hal, hx⟩ := classes_at u.classes d0 h0 k h
  have hxl : x.length = 4 := by
    have := congrArg List.length hx
    rw [erases_len, plainC_len] at this
    exact this
  obtain ⟨b, o, e, hc⟩ := row_cells hr0 hdx hal (by omega)
  have hxo : Own 0 w x := own_mid (hdx ▸ hr0.kids)
  have hwc := plainCs_weight u.classes k h
  obtain ⟨v2, ma, mc, hxv, hcs⟩ := class_own hx hxo (by omega)
  have hval : ∀ j v (hj : j < x.length), [Value.string u.classes[k].name, .string u.classes[k].parent, v2, .slice ma u.classes[k].methods.length mc][j]? = some v → val x[j] = v := fun j v hj e => by
    rw [← hxv] at e
    simpa [hj] using e
  refine ⟨b, o, v2, ma, mc, e, ⟨?_, ?_, ?_, ?_⟩, hcs⟩
  · have := hc 0 (by omega); rw [hval 0 _ (by omega) rfl] at this; exact this
  · have := hc 1 (by omega); rw [hval 1 _ (by omega) rfl] at this; exact this
  · have := hc 2 (by omega); rw [hval 2 _ (by omega) rfl] at this; exact this
  · have := hc 3 (by omega); rw [hval 3 _ (by omega) rfl] at this; exact this


theorem walk (ds : List D) (hf : FitL (env 5) (erases ds)) (es : List D) (hg : FitL (env 5) (erases es)) (w : World) (hh : Holdss 0 w ds) (hk : Holdss 0 w es) :
    Calls Try.prog 4 #[agg ds, agg es] w fun e w' => e = .returned (.bool true) ∧ Below w.heap.size w w' := by
  obtain ⟨u, -, -, -, -, -, -, -, -, -, hu⟩ := unit_get hf
  obtain ⟨v, -, -, -, -, -, -, -, -, -, hv⟩ := unit_get hg
  refine walk_of (eqU u v) w ds hf hh es hg hk (fun w' xs ys hx hy h1 s1 w1 h2 s2 w2 => ?_) (fun w' xs ys hx hy ho w1 w2 => ?_)
  · obtain ⟨l1, h1⟩ := h1
    obtain ⟨l2, h2⟩ := h2
    exact Data.equal_unit (hx.trans hu) h1 s1 w1 (hy.trans hv) h2 s2 w2
  · rw [hx.trans hu] at w1
    rw [hy.trans hv] at w2
    obtain ⟨ca, cc, x2, x3, x4, e1, m1, k1, r1, c1⟩ := unit_own (hx.trans hu) (Own.left ho) w1
    obtain ⟨da, dc, y2, y3, y4, e2, m2, k2, r2, c2⟩ := unit_own (hy.trans hv) (Own.right ho) w2
    have a1 : agg xs = .agg #[.slice ca u.classes.length cc, .string u.main.sel, .bool u.main.cls, x2, x3, x4] := by
      show Value.agg (vals xs).toArray = _
      unfold vals
      rw [e1]
    have a2 : agg ys = .agg #[.slice da v.classes.length dc, .string v.main.sel, .bool v.main.cls, y2, y3, y4] := by
      show Value.agg (vals ys).toArray = _
      unfold vals
      rw [e2]
    rw [a1, a2]
    exact ImplMeth.equal_units m1 m2 k1 k2 c1 c2 r1
end Go.Proofs.Ytlmhgeanknhcfaa.fnExactEqualUnitsW
