/-
  spec's EqualMethods.
-/
import Derived.Test.YtlmhgeanknhcfaaSpecMeth
import Derived.Test.YtlmhgeanknhcfaaSpecEqual
namespace Go.Proofs.Ytlmhgeanknhcfaa.Data
open Go.RowKit Go.Sort
open Strs Tree

noncomputable def eqM (a b : M) : Bool := decide (a.sel = b.sel) && (a.cls == b.cls) && eqE (bodyE a) (bodyE b)

set_option maxRecDepth 10000 in
set_option maxHeartbeats 8000000 in
theorem equal_meth {lo1 lo2 : Nat} {w : World} {a b : M} {x2 x3 x4 y2 y3 y4 : Value} (h : MAt lo1 w a x2 x3 x4) (k : MAt lo2 w b y2 y3 y4) (hla : a.params.length + a.temps.length ≤ 4398046511104) (hlb : b.params.length + b.temps.length ≤ 4398046511104) :
    Calls Try.prog 6 #[.agg #[.string a.sel, .bool a.cls, x2, x3, x4], .agg #[.string b.sel, .bool b.cls, y2, y3, y4]] w fun r w' => r = .returned (.bool (eqM a b)) ∧ Below w.heap.size w w' := by
  have hb0 : Below w.heap.size w ((w.alloc (.cells #[.string a.sel, .bool a.cls, x2, x3, x4] 30)).alloc (.cells #[.string b.sel, .bool b.cls, y2, y3, y4] 30)) := ((Below.refl _ _).alloc (Nat.le_refl _) _).alloc (by simp) _
  have hx : Cells w.heap.size (meth5 a x2 x3 x4) ((w.alloc (.cells #[.string a.sel, .bool a.cls, x2, x3, x4] 30)).alloc (.cells #[.string b.sel, .bool b.cls, y2, y3, y4] 30)) := (cells_new w (meth5 a x2 x3 x4) _).step ((Below.refl _ _).alloc (Nat.le_refl _) _)
  have hy : Cells (w.heap.size + 1) (meth5 b y2 y3 y4) ((w.alloc (.cells #[.string a.sel, .bool a.cls, x2, x3, x4] 30)).alloc (.cells #[.string b.sel, .bool b.cls, y2, y3, y4] 30)) := by
    have h := cells_new (w.alloc (.cells #[.string a.sel, .bool a.cls, x2, x3, x4] 30)) (meth5 b y2 y3 y4) 30
    rw [show (w.alloc (.cells #[.string a.sel, .bool a.cls, x2, x3, x4] 30)).heap.size = w.heap.size + 1 by simp] at h
    exact h
  have KA := fun w' (hb : Below w.heap.size w w') => Lib.hid (body_any (h.below hb) hla)
  have KB := fun w' (hb : Below w.heap.size w w') => Lib.hid (body_any (k.below hb) hlb)
  have KE := fun w' (p2 p3 q2 q3 : Value) (h1 : NodeAt 0 w' (bodyE a) p2 p3) (h2 : NodeAt 0 w' (bodyE b) q2 q3) => Lib.hid (SpecEqual.any (bodyE a) (bodyE b) 0 0 w' p2 p3 q2 q3 h1 h2)
  have fa : (bodyE a).kind = 8 ∧ (bodyE a).text = ⟨#[]⟩ ∧ (bodyE a).num = (a.params.length : Int) := ⟨rfl, rfl, rfl⟩
  have fb : (bodyE b).kind = 8 ∧ (bodyE b).text = ⟨#[]⟩ ∧ (bodyE b).num = (b.params.length : Int) := ⟨rfl, rfl, rfl⟩
  simp only [fa, fb] at KE
  have HV : Hid (eqM a b = (decide (a.sel = b.sel) && (a.cls == b.cls) && eqE (bodyE a) (bodyE b))) := Lib.hid rfl
  have p0 := hx.at 0 (.str a.sel) rfl
  have p1 := hx.at 1 (.bool a.cls) rfl
  have p2 := hx.at 2 (.row 0 1 x2 []) rfl
  have p3 := hx.at 3 (.row 0 1 x3 []) rfl
  have p4 := hx.at 4 (.row 0 5 x4 []) rfl
  have q0 := hy.at 0 (.str b.sel) rfl
  have q1 := hy.at 1 (.bool b.cls) rfl
  have q2 := hy.at 2 (.row 0 1 y2 []) rfl
  have q3 := hy.at 3 (.row 0 1 y3 []) rfl
  have q4 := hy.at 4 (.row 0 5 y4 []) rfl
  simp only [val] at p0 p1 p2 p3 p4 q0 q1 q2 q3 q4
  have HB0 := Lib.hid hb0
  generalize eqM a b = R at *
  generalize eqE (bodyE a) (bodyE b) = X at *
  generalize bodyE a = EA at *
  generalize bodyE b = EB at *
  clear h k hx hy hb0 fa fb hla hlb
  by_cases hsel : a.sel = b.sel
  case neg =>
    have hse : (a.sel.toList == b.sel.toList) = false := SpecEqual.beq_no hsel
    have hR : R = false := by rw [HV.out, decide_eq_false hsel]; rfl
    subst hR
    clear HV hsel KA KB KE
    go_enter Try.func6, Try.ntmps6
    go_wp2_with fail
    go_quiet (fail)
    go_wp2_with fail
    go_ret
    exact ⟨rfl, below_drewN HB0.out _⟩
  have hse : (a.sel.toList == b.sel.toList) = true := by rw [hsel]; exact BEq.rfl
  by_cases hcl : a.cls = b.cls
  case neg =>
    have hce : (a.cls == b.cls) = false := by rw [beq_eq_false_iff_ne]; exact hcl
    have hR : R = false := by rw [HV.out, decide_eq_true hsel, hce]; rfl
    subst hR
    clear HV hsel KA KB KE hcl
    go_enter Try.func6, Try.ntmps6
    go_wp2_with fail
    go_quiet (fail)
    go_wp2_with fail
    go_ret
    exact ⟨rfl, below_drewN HB0.out _⟩
  have hce : (a.cls == b.cls) = true := by rw [beq_iff_eq]; exact hcl
  have hR : R = X := by rw [HV.out, decide_eq_true hsel, hce]; rfl
  subst hR
  clear HV hsel hcl
  go_enter Try.func6, Try.ntmps6
  go_wp2_with fail
  go_region_held3 (fun w' => w'.cell? ⟨w.heap.size, 0, none⟩ = some (Value.string a.sel) ∧ w'.cell? ⟨w.heap.size, 1, none⟩ = some (Value.bool a.cls) ∧ w'.cell? ⟨w.heap.size, 2, none⟩ = some (x2) ∧ w'.cell? ⟨w.heap.size, 3, none⟩ = some (x3) ∧ w'.cell? ⟨w.heap.size, 4, none⟩ = some (x4) ∧ w'.cell? ⟨w.heap.size + 1, 0, none⟩ = some (Value.string b.sel) ∧ w'.cell? ⟨w.heap.size + 1, 1, none⟩ = some (Value.bool b.cls) ∧ w'.cell? ⟨w.heap.size + 1, 2, none⟩ = some (y2) ∧ w'.cell? ⟨w.heap.size + 1, 3, none⟩ = some (y3) ∧ w'.cell? ⟨w.heap.size + 1, 4, none⟩ = some (y4))
    (first | exact ⟨(cell_keep hb5 (cell_keep hb4 (cell_keep hb3 (show ((w.alloc (.cells #[.string a.sel, .bool a.cls, x2, x3, x4] 30)).alloc (.cells #[.string b.sel, .bool b.cls, y2, y3, y4] 30)).drew.cell? _ = _ from p0)))), (cell_keep hb5 (cell_keep hb4 (cell_keep hb3 (show ((w.alloc (.cells #[.string a.sel, .bool a.cls, x2, x3, x4] 30)).alloc (.cells #[.string b.sel, .bool b.cls, y2, y3, y4] 30)).drew.cell? _ = _ from p1)))), (cell_keep hb5 (cell_keep hb4 (cell_keep hb3 (show ((w.alloc (.cells #[.string a.sel, .bool a.cls, x2, x3, x4] 30)).alloc (.cells #[.string b.sel, .bool b.cls, y2, y3, y4] 30)).drew.cell? _ = _ from p2)))), (cell_keep hb5 (cell_keep hb4 (cell_keep hb3 (show ((w.alloc (.cells #[.string a.sel, .bool a.cls, x2, x3, x4] 30)).alloc (.cells #[.string b.sel, .bool b.cls, y2, y3, y4] 30)).drew.cell? _ = _ from p3)))), (cell_keep hb5 (cell_keep hb4 (cell_keep hb3 (show ((w.alloc (.cells #[.string a.sel, .bool a.cls, x2, x3, x4] 30)).alloc (.cells #[.string b.sel, .bool b.cls, y2, y3, y4] 30)).drew.cell? _ = _ from p4)))), (cell_keep hb5 (cell_keep hb4 (cell_keep hb3 (show ((w.alloc (.cells #[.string a.sel, .bool a.cls, x2, x3, x4] 30)).alloc (.cells #[.string b.sel, .bool b.cls, y2, y3, y4] 30)).drew.cell? _ = _ from q0)))), (cell_keep hb5 (cell_keep hb4 (cell_keep hb3 (show ((w.alloc (.cells #[.string a.sel, .bool a.cls, x2, x3, x4] 30)).alloc (.cells #[.string b.sel, .bool b.cls, y2, y3, y4] 30)).drew.cell? _ = _ from q1)))), (cell_keep hb5 (cell_keep hb4 (cell_keep hb3 (show ((w.alloc (.cells #[.string a.sel, .bool a.cls, x2, x3, x4] 30)).alloc (.cells #[.string b.sel, .bool b.cls, y2, y3, y4] 30)).drew.cell? _ = _ from q2)))), (cell_keep hb5 (cell_keep hb4 (cell_keep hb3 (show ((w.alloc (.cells #[.string a.sel, .bool a.cls, x2, x3, x4] 30)).alloc (.cells #[.string b.sel, .bool b.cls, y2, y3, y4] 30)).drew.cell? _ = _ from q3)))), (cell_keep hb5 (cell_keep hb4 (cell_keep hb3 (show ((w.alloc (.cells #[.string a.sel, .bool a.cls, x2, x3, x4] 30)).alloc (.cells #[.string b.sel, .bool b.cls, y2, y3, y4] 30)).drew.cell? _ = _ from q4))))⟩ | exact ⟨(cell_keep hb4 (cell_keep hb3 (show ((w.alloc (.cells #[.string a.sel, .bool a.cls, x2, x3, x4] 30)).alloc (.cells #[.string b.sel, .bool b.cls, y2, y3, y4] 30)).drew.cell? _ = _ from p0))), (cell_keep hb4 (cell_keep hb3 (show ((w.alloc (.cells #[.string a.sel, .bool a.cls, x2, x3, x4] 30)).alloc (.cells #[.string b.sel, .bool b.cls, y2, y3, y4] 30)).drew.cell? _ = _ from p1))), (cell_keep hb4 (cell_keep hb3 (show ((w.alloc (.cells #[.string a.sel, .bool a.cls, x2, x3, x4] 30)).alloc (.cells #[.string b.sel, .bool b.cls, y2, y3, y4] 30)).drew.cell? _ = _ from p2))), (cell_keep hb4 (cell_keep hb3 (show ((w.alloc (.cells #[.string a.sel, .bool a.cls, x2, x3, x4] 30)).alloc (.cells #[.string b.sel, .bool b.cls, y2, y3, y4] 30)).drew.cell? _ = _ from p3))), (cell_keep hb4 (cell_keep hb3 (show ((w.alloc (.cells #[.string a.sel, .bool a.cls, x2, x3, x4] 30)).alloc (.cells #[.string b.sel, .bool b.cls, y2, y3, y4] 30)).drew.cell? _ = _ from p4))), (cell_keep hb4 (cell_keep hb3 (show ((w.alloc (.cells #[.string a.sel, .bool a.cls, x2, x3, x4] 30)).alloc (.cells #[.string b.sel, .bool b.cls, y2, y3, y4] 30)).drew.cell? _ = _ from q0))), (cell_keep hb4 (cell_keep hb3 (show ((w.alloc (.cells #[.string a.sel, .bool a.cls, x2, x3, x4] 30)).alloc (.cells #[.string b.sel, .bool b.cls, y2, y3, y4] 30)).drew.cell? _ = _ from q1))), (cell_keep hb4 (cell_keep hb3 (show ((w.alloc (.cells #[.string a.sel, .bool a.cls, x2, x3, x4] 30)).alloc (.cells #[.string b.sel, .bool b.cls, y2, y3, y4] 30)).drew.cell? _ = _ from q2))), (cell_keep hb4 (cell_keep hb3 (show ((w.alloc (.cells #[.string a.sel, .bool a.cls, x2, x3, x4] 30)).alloc (.cells #[.string b.sel, .bool b.cls, y2, y3, y4] 30)).drew.cell? _ = _ from q3))), (cell_keep hb4 (cell_keep hb3 (show ((w.alloc (.cells #[.string a.sel, .bool a.cls, x2, x3, x4] 30)).alloc (.cells #[.string b.sel, .bool b.cls, y2, y3, y4] 30)).drew.cell? _ = _ from q4)))⟩ | exact ⟨(cell_keep hb3 (show ((w.alloc (.cells #[.string a.sel, .bool a.cls, x2, x3, x4] 30)).alloc (.cells #[.string b.sel, .bool b.cls, y2, y3, y4] 30)).drew.cell? _ = _ from p0)), (cell_keep hb3 (show ((w.alloc (.cells #[.string a.sel, .bool a.cls, x2, x3, x4] 30)).alloc (.cells #[.string b.sel, .bool b.cls, y2, y3, y4] 30)).drew.cell? _ = _ from p1)), (cell_keep hb3 (show ((w.alloc (.cells #[.string a.sel, .bool a.cls, x2, x3, x4] 30)).alloc (.cells #[.string b.sel, .bool b.cls, y2, y3, y4] 30)).drew.cell? _ = _ from p2)), (cell_keep hb3 (show ((w.alloc (.cells #[.string a.sel, .bool a.cls, x2, x3, x4] 30)).alloc (.cells #[.string b.sel, .bool b.cls, y2, y3, y4] 30)).drew.cell? _ = _ from p3)), (cell_keep hb3 (show ((w.alloc (.cells #[.string a.sel, .bool a.cls, x2, x3, x4] 30)).alloc (.cells #[.string b.sel, .bool b.cls, y2, y3, y4] 30)).drew.cell? _ = _ from p4)), (cell_keep hb3 (show ((w.alloc (.cells #[.string a.sel, .bool a.cls, x2, x3, x4] 30)).alloc (.cells #[.string b.sel, .bool b.cls, y2, y3, y4] 30)).drew.cell? _ = _ from q0)), (cell_keep hb3 (show ((w.alloc (.cells #[.string a.sel, .bool a.cls, x2, x3, x4] 30)).alloc (.cells #[.string b.sel, .bool b.cls, y2, y3, y4] 30)).drew.cell? _ = _ from q1)), (cell_keep hb3 (show ((w.alloc (.cells #[.string a.sel, .bool a.cls, x2, x3, x4] 30)).alloc (.cells #[.string b.sel, .bool b.cls, y2, y3, y4] 30)).drew.cell? _ = _ from q2)), (cell_keep hb3 (show ((w.alloc (.cells #[.string a.sel, .bool a.cls, x2, x3, x4] 30)).alloc (.cells #[.string b.sel, .bool b.cls, y2, y3, y4] 30)).drew.cell? _ = _ from q3)), (cell_keep hb3 (show ((w.alloc (.cells #[.string a.sel, .bool a.cls, x2, x3, x4] 30)).alloc (.cells #[.string b.sel, .bool b.cls, y2, y3, y4] 30)).drew.cell? _ = _ from q4))⟩ | exact ⟨p0, p1, p2, p3, p4, q0, q1, q2, q3, q4⟩ | go_keep)
    (first
      | (go_at_call_of 18 x4; refine (KA _ HB0.out.drew).out.mono ?_; rintro e w3 ⟨an, ak, rfl, hn3, hb3⟩)
      | (go_at_call_of 18 y4; refine (KB _ (HB0.out.drew.trans (hb3.mono HB0.out.size))).out.mono ?_; rintro e w4 ⟨bn, bk, rfl, hn4, hb4⟩)
      | (go_at_call 17; refine (KE _ _ _ _ _ (hn3.below hb4) hn4).out.mono ?_; rintro e w5 ⟨rfl, hb5⟩))
  all_goals
    have g3 := HB0.out.drew.trans (hb3.mono HB0.out.size)
    have g4 := g3.trans (hb4.mono g3.size)
    have HB5 := Lib.hid (g4.trans (hb5.mono g4.size))
    clear g3 g4 hb3 hb4 hb5 hn3 hn4 p0 p1 p2 p3 p4 q0 q1 q2 q3 q4 KA KB KE HB0
    go_wp2_with fail
    go_ret
    exact ⟨rfl, HB5.out⟩
end Go.Proofs.Ytlmhgeanknhcfaa.Data
