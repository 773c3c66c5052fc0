/-
  The walk of laws.FnExactEqualMethods: it returns true at every two methods.
-/
import Derived.Test.YtlmhgeanknhcfaaLwFnExactEqualMethods
import Derived.Test.YtlmhgeanknhcfaaImplEqM
namespace Go.Proofs.Ytlmhgeanknhcfaa.fnExactEqualMethodsW
open Go.RowKit
open Strs Tree Soft TreeTo Texts Go.Proofs.Ytlmhgeanknhcfaa.Data

/-- A method out of data in blocks of its own. -/
theorem meth_own {w : World} {m : M} {ds : List D} (hd : erases ds = plainM m) (ho : Own 0 w ds) : ∃ v2 v3 v4, agg ds = .agg #[.string m.sel, .bool m.cls, v2, v3, v4] ∧ ImplMeth.MSt w m v2 v3 v4 := by
  obtain ⟨v2, v3, v4, hag, hm⟩ := meth_at hd ho.holds ho.strict
  obtain ⟨t2, t3, t4, w2, w3, w4, d4, rfl, h4⟩ := meth_form hd
  have hsoft : SoftKids 0 w m.body w4 := softkids_of h4 (row_iff.1 (Own.right (a := [.str m.sel, .bool m.cls, .row t2 1 w2 (strs m.params), .row t3 1 w3 (strs m.temps)]) (b := [.row t4 5 w4 d4]) ho))
  have hvv : v2 = w2 ∧ v3 = w3 ∧ v4 = w4 := by
    have := congrArg Array.toList (Value.agg.inj hag)
    simp [vals, val] at this
    exact ⟨this.1.symm, this.2.1.symm, this.2.2.symm⟩
  obtain ⟨rfl, rfl, rfl⟩ := hvv
  exact ⟨v2, v3, v4, rfl, hm, hsoft⟩
theorem few {m : M} (hw : m.sel.size + Tree.weight (bodyE m) ≤ 1048576) : m.params.length + m.temps.length ≤ 4398046511104 := by
  have h1 := bodyE_weight m
  rw [List.length_append] at h1
  omega
theorem walk (ds : List D) (hf : FitL (env 3) (erases ds)) (es : List D) (hg : FitL (env 3) (erases es)) (w : World) (hh : Holdss 0 w ds) (hk : Holdss 0 w es) :
    Calls Try.prog 3 #[agg ds, agg es] w fun e w' => e = .returned (.bool true) ∧ Below w.heap.size w w' := by
  obtain ⟨a, -, -, -, -, -, -, -, -, -, ha⟩ := meth_get hf
  obtain ⟨b, -, -, -, -, -, -, -, -, -, hb⟩ := meth_get hg
  refine walk_of (eqM a b) w ds hf hh es hg hk (fun w' xs ys hx hy h1 s1 w1 h2 s2 w2 => ?_) (fun w' xs ys hx hy ho w1 w2 => ?_)
  · obtain ⟨l1, h1⟩ := h1
    obtain ⟨l2, h2⟩ := h2
    rw [hx.trans ha, plainM_weight] at w1
    rw [hy.trans hb, plainM_weight] at w2
    obtain ⟨x2, x3, x4, e1, m1⟩ := meth_at (hx.trans ha) h1 s1
    obtain ⟨y2, y3, y4, e2, m2⟩ := meth_at (hy.trans hb) h2 s2
    rw [e1, e2]
    exact Data.equal_meth m1 m2 (few w1) (few w2)
  · rw [hx.trans ha, plainM_weight] at w1
    rw [hy.trans hb, plainM_weight] at w2
    obtain ⟨x2, x3, x4, e1, m1⟩ := meth_own (hx.trans ha) (Own.left ho)
    obtain ⟨y2, y3, y4, e2, m2⟩ := meth_own (hy.trans hb) (Own.right ho)
    rw [e1, e2]
    exact ImplMeth.equal_meth m1 m2 (few w1) (few w2) (by omega)
end Go.Proofs.Ytlmhgeanknhcfaa.fnExactEqualMethodsW
