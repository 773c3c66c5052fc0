/-
  impl.EqualMethods: whether two methods that lie in open blocks are one.
-/
import Derived.Test.YtlmhgeanknhcfaaImplBlk
import Derived.Test.YtlmhgeanknhcfaaImplEqual
import Derived.Test.YtlmhgeanknhcfaaSpecEqM
namespace Go.Proofs.Ytlmhgeanknhcfaa.ImplMeth
open Go.RowKit Go.Sort
open Strs Tree Soft TreeTo Go.Proofs.Ytlmhgeanknhcfaa.Data

theorem blocks_is {e f : M} {w : World} {vn wn v4 w4 : Value} (hn : NodeAt 0 w (bodyE e) vn v4) (hs : SoftKids 0 w e.body v4) (kn : NodeAt 0 w (bodyE f) wn w4) (ks : SoftKids 0 w f.body w4) (hw : Tree.weight (bodyE e) ≤ 1048576) :
    Calls Try.prog 21 #[.agg #[.int .i64 8, .string ⟨#[]⟩, .int .i64 (e.params.length : Int), vn, v4], .agg #[.int .i64 8, .string ⟨#[]⟩, .int .i64 (f.params.length : Int), wn, w4]] w fun r w' => r = .returned (.bool (eqE (bodyE e) (bodyE f))) ∧ Below w.heap.size w w' :=
  ImplEqual.equal_any (lo1 := 0) (lo2 := 0) (e := bodyE e) (f := bodyE f) ⟨vn, v4, rfl, hn⟩ ⟨wn, w4, rfl, kn⟩ ⟨_, _, _, _, _, rfl, Soft.soft_iff.2 hs⟩ ⟨_, _, _, _, _, rfl, Soft.soft_iff.2 ks⟩ (by have := Tree.size_weight (bodyE e); omega)

set_option maxRecDepth 10000 in
set_option maxHeartbeats 8000000 in
theorem equal_meth {w : World} {a b : M} {x2 x3 x4 y2 y3 y4 : Value} (h : MSt w a x2 x3 x4) (k : MSt w b y2 y3 y4) (hla : a.params.length + a.temps.length ≤ 4398046511104) (hlb : b.params.length + b.temps.length ≤ 4398046511104) (hw : Tree.weight (bodyE a) ≤ 1048576) :
    Calls Try.prog 8 #[.agg #[.string a.sel, .bool a.cls, x2, x3, x4], .agg #[.string b.sel, .bool b.cls, y2, y3, y4]] w fun r w' => r = .returned (.bool (eqM a b)) ∧ Below w.heap.size w w' := by
  have hb0 : Below w.heap.size w ((w.alloc (.cells #[.string a.sel, .bool a.cls, x2, x3, x4] 30)).alloc (.cells #[.string b.sel, .bool b.cls, y2, y3, y4] 30)) := ((Below.refl _ _).alloc (Nat.le_refl _) _).alloc (by simp) _
  have hx : Cells w.heap.size (meth5 a x2 x3 x4) ((w.alloc (.cells #[.string a.sel, .bool a.cls, x2, x3, x4] 30)).alloc (.cells #[.string b.sel, .bool b.cls, y2, y3, y4] 30)) := (cells_new w (meth5 a x2 x3 x4) _).step ((Below.refl _ _).alloc (Nat.le_refl _) _)
  have hy : Cells (w.heap.size + 1) (meth5 b y2 y3 y4) ((w.alloc (.cells #[.string a.sel, .bool a.cls, x2, x3, x4] 30)).alloc (.cells #[.string b.sel, .bool b.cls, y2, y3, y4] 30)) := by
    have h := cells_new (w.alloc (.cells #[.string a.sel, .bool a.cls, x2, x3, x4] 30)) (meth5 b y2 y3 y4) 30
    rw [show (w.alloc (.cells #[.string a.sel, .bool a.cls, x2, x3, x4] 30)).heap.size = w.heap.size + 1 by simp] at h
    exact h
  have p0 := hx.at 0 (.str a.sel) rfl
  have p1 := hx.at 1 (.bool a.cls) rfl
  have p2 := hx.at 2 (.row 0 1 x2 []) rfl
  have p3 := hx.at 3 (.row 0 1 x3 []) rfl
  have p4 := hx.at 4 (.row 0 5 x4 []) rfl
  have q0 := hy.at 0 (.str b.sel) rfl
  have q1 := hy.at 1 (.bool b.cls) rfl
  have q2 := hy.at 2 (.row 0 1 y2 []) rfl
  have q3 := hy.at 3 (.row 0 1 y3 []) rfl
  have q4 := hy.at 4 (.row 0 5 y4 []) rfl
  simp only [val] at p0 p1 p2 p3 p4 q0 q1 q2 q3 q4
  obtain ⟨W0, hW0⟩ : ∃ W0, W0 = ((w.alloc (.cells #[.string a.sel, .bool a.cls, x2, x3, x4] 30)).alloc (.cells #[.string b.sel, .bool b.cls, y2, y3, y4] 30)) := ⟨_, rfl⟩
  rw [← hW0] at hb0 p0 p1 p2 p3 p4 q0 q1 q2 q3 q4
  have KA := fun w' (hb : Below W0.heap.size W0 w') => Lib.hid (block_any (b := w.heap.size) (o := 0) ((h.below hb0).below hb) (MCell.step ⟨p0, p1, p2, p3, p4⟩ hb) hla)
  have KB := fun w' (hb : Below W0.heap.size W0 w') => Lib.hid (block_any (b := w.heap.size + 1) (o := 0) ((k.below hb0).below hb) (MCell.step ⟨q0, q1, q2, q3, q4⟩ hb) hlb)
  have KE := fun w' (vn wn : Value) (h1 : NodeAt 0 w' (bodyE a) vn x4) (h2 : SoftKids 0 w' a.body x4) (h3 : NodeAt 0 w' (bodyE b) wn y4) (h4 : SoftKids 0 w' b.body y4) => Lib.hid (blocks_is (e := a) (f := b) h1 h2 h3 h4 hw)
  have HV : Hid (eqM a b = (decide (a.sel = b.sel) && (a.cls == b.cls) && eqE (bodyE a) (bodyE b))) := Lib.hid rfl
  have HB0 := Lib.hid hb0
  generalize eqM a b = R at *
  generalize eqE (bodyE a) (bodyE b) = X at *
  generalize bodyE a = EA at *
  generalize bodyE b = EB at *
  clear h k hx hy hb0 hla hlb hw
  by_cases hsel : a.sel = b.sel
  case neg =>
    have hse : (a.sel.toList == b.sel.toList) = false := SpecEqual.beq_no hsel
    have hR : R = false := by rw [HV.out, decide_eq_false hsel]; rfl
    subst hR
    subst hW0
    clear HV hsel KA KB KE
    go_enter Try.func8, Try.ntmps8
    go_wp2_with fail
    go_ret
    exact ⟨rfl, HB0.out⟩
  have hse : (a.sel.toList == b.sel.toList) = true := by rw [hsel]; exact BEq.rfl
  by_cases hcl : a.cls = b.cls
  case neg =>
    have hce : (a.cls == b.cls) = false := by rw [beq_eq_false_iff_ne]; exact hcl
    have hR : R = false := by rw [HV.out, decide_eq_true hsel, hce]; rfl
    subst hR
    subst hW0
    clear HV hsel KA KB KE hcl
    go_enter Try.func8, Try.ntmps8
    go_wp2_with fail
    go_ret
    exact ⟨rfl, HB0.out⟩
  have hce : (a.cls == b.cls) = true := by rw [beq_iff_eq]; exact hcl
  have hR : R = X := by rw [HV.out, decide_eq_true hsel, hce]; rfl
  subst hR
  clear HV hsel hcl
  go_enter Try.func8, Try.ntmps8
  go_wp2_with fail
  rw [← hW0]
  have KA2 := KA W0 (Below.refl _ _)
  have HW0 := Lib.hid hW0
  clear hW0 KA p0 p1 p2 p3 p4 q0 q1 q2 q3 q4 hce
  refine KA2.out.mono ?_
  rintro e w3 ⟨vn, rfl, hn3, hs3, hb3⟩
  have KB2 := KB w3 hb3
  have HN3 := Lib.hid hn3
  have HS3 := Lib.hid hs3
  have HB3 := Lib.hid (HB0.out.trans (hb3.mono HB0.out.size))
  clear KB KA2 hn3 hs3 hb3
  go_wp2_with fail
  refine KB2.out.mono ?_
  rintro e w4 ⟨wn, rfl, hn4, hs4, hb4⟩
  have KE2 := KE w4 vn wn (HN3.out.below hb4) (HS3.out.keep (Nat.le_refl _) (keptF_below hb4)) hn4 hs4
  have HB4 := Lib.hid (HB3.out.trans (hb4.mono HB3.out.size))
  clear KE KB2 hn4 hs4 hb4 HN3 HS3 HB3
  go_wp2_with fail
  refine KE2.out.mono ?_
  rintro e w5 ⟨rfl, hb5⟩
  have HB5 := Lib.hid (HB4.out.trans (hb5.mono HB4.out.size))
  clear hb5 KE2
  go_wp2_with fail
  go_ret
  exact ⟨rfl, HB5.out⟩
end Go.Proofs.Ytlmhgeanknhcfaa.ImplMeth
