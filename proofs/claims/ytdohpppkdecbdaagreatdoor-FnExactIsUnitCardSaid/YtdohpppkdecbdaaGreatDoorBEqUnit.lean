/-
  laws.eqClassDef and eqClassDefS: two values that read alike are equal, and nothing that was there is written.
  laws.eqUnit and eqUnitS: two values that read alike are equal, and nothing that was there is written.
-/
import Derived.Test.YtdohpppkdecbdaaGreatDoorBDataStr
import Derived.Test.YtdohpppkdecbdaaGreatDoorBEqMethod
import Derived.Test.YtdohpppkdecbdaaGreatDoorBSzExpr
namespace Go.Proofs.YtdohpppkdecbdaaGreatDoor.Data
open Go.RowKit
open Strs Tree Texts
set_option maxRecDepth 10000 in
set_option maxHeartbeats 4000000 in
theorem eq_ClassDef (lo1 lo2 : Nat) (w : World) (ds es : List D) (he : erases ds = erases es) (hf : FitL (env 4) (erases ds)) (hh : Holdss lo1 w ds) (hk : Holdss lo2 w es) :
    Calls Tryz.prog 39 #[agg ds, agg es] w fun r w' => r = .returned (.bool true) ∧ Below w.heap.size w w' := by
  have hg : FitL (env 4) (erases es) := he ▸ hf
  obtain ⟨s0, e0, rfl, hf_0⟩ := fitL_str hf
  clear hf
  obtain ⟨s1, e1, rfl, hf_1⟩ := fitL_str hf_0
  clear hf_0
  obtain ⟨t2, v2, d2, e2, rfl, f2, hf_2⟩ := fitL_row (k := 1) rfl hf_1
  clear hf_1
  obtain ⟨t3, v3, d3, e3, rfl, f3, hf_3⟩ := fitL_row (k := 5) rfl hf_2
  clear hf_2
  obtain rfl := fitL_nil hf_3
  clear hf_3
  obtain ⟨ys0, ye0, rfl, hg_0⟩ := fitL_str hg
  clear hg
  obtain ⟨ys1, ye1, rfl, hg_1⟩ := fitL_str hg_0
  clear hg_0
  obtain ⟨yt2, yv2, yd2, ye2, rfl, yf2, hg_2⟩ := fitL_row (k := 1) rfl hg_1
  clear hg_1
  obtain ⟨yt3, yv3, yd3, ye3, rfl, yf3, hg_3⟩ := fitL_row (k := 5) rfl hg_2
  clear hg_2
  obtain rfl := fitL_nil hg_3
  clear hg_3
  simp only [erases, erase, List.cons.injEq, P.str.injEq, P.row.injEq, true_and,  and_true] at he
  obtain ⟨g0, g1, g2, g3⟩ := he
  subst g0
  subst g1
  simp only [Holdss, and_true] at hh
  obtain ⟨h0, h1, h2, h3⟩ := hh
  simp only [Holdss, and_true] at hk
  obtain ⟨k0, k1, k2, k3⟩ := hk
  have K2 := fun (w' : World) (hb : Below w.heap.size w w') => Lib.hid (eqS_String lo1 lo2 t2 yt2 w' v2 yv2 d2 yd2 g2 f2 (h2.below hb) (k2.below hb))
  have K3 := fun (w' : World) (hb : Below w.heap.size w w') => Lib.hid (eqS_Method lo1 lo2 t3 yt3 w' v3 yv3 d3 yd3 g3 f3 (h3.below hb) (k3.below hb))
  clear h0 k0
  clear h1 k1
  clear h2 k2 f2 yf2 g2
  clear h3 k3 f3 yf3 g3
  have B0 : Hid (Below w.heap.size w ((w.alloc (Obj.cells #[Value.string s0, Value.string s1, v2, v3] 48)).alloc (Obj.cells #[Value.string s0, Value.string s1, yv2, yv3] 48))) := Lib.hid (((Below.refl _ _).alloc (Nat.le_refl _) _).alloc (by simp) _)
  have X0 : Hid (Cells w.heap.size [D.str s0, D.str s1, D.row t2 1 v2 d2, D.row t3 5 v3 d3] ((w.alloc (Obj.cells #[Value.string s0, Value.string s1, v2, v3] 48)).alloc (Obj.cells #[Value.string s0, Value.string s1, yv2, yv3] 48))) := Lib.hid ((cells_new w [D.str s0, D.str s1, D.row t2 1 v2 d2, D.row t3 5 v3 d3] _).step ((Below.refl _ _).alloc (Nat.le_refl _) _))
  have Y0 : Hid (Cells (w.heap.size + 1) [D.str s0, D.str s1, D.row yt2 1 yv2 yd2, D.row yt3 5 yv3 yd3] ((w.alloc (Obj.cells #[Value.string s0, Value.string s1, v2, v3] 48)).alloc (Obj.cells #[Value.string s0, Value.string s1, yv2, yv3] 48))) := Lib.hid (by have h := cells_new (w.alloc (Obj.cells #[Value.string s0, Value.string s1, v2, v3] 48)) [D.str s0, D.str s1, D.row yt2 1 yv2 yd2, D.row yt3 5 yv3 yd3] 48; rw [show (w.alloc (Obj.cells #[Value.string s0, Value.string s1, v2, v3] 48)).heap.size = w.heap.size + 1 by simp] at h; exact h)
  rw [show agg [D.str s0, D.str s1, D.row t2 1 v2 d2, D.row t3 5 v3 d3] = Value.agg #[Value.string s0, Value.string s1, v2, v3] from rfl, show agg [D.str s0, D.str s1, D.row yt2 1 yv2 yd2, D.row yt3 5 yv3 yd3] = Value.agg #[Value.string s0, Value.string s1, yv2, yv3] from rfl]
  go_enter Tryz.func39, Tryz.ntmps39
  have a2 := X0.out.at 2 (D.row t2 1 v2 d2) rfl
  have b2 := Y0.out.at 2 (D.row yt2 1 yv2 yd2) rfl
  simp only [val] at a2 b2
  go_wp2_with fail
  refine (K2 _ B0.out).out.mono ?_
  rintro e w1 ⟨rfl, hb1⟩
  have B1 := Lib.hid (B0.out.trans (hb1.mono B0.out.size))
  have X1 := Lib.hid (X0.out.step hb1)
  have Y1 := Lib.hid (Y0.out.step hb1)
  clear hb1 K2 B0 X0 Y0 a2 b2
  have a3 := X1.out.at 3 (D.row t3 5 v3 d3) rfl
  have b3 := Y1.out.at 3 (D.row yt3 5 yv3 yd3) rfl
  simp only [val] at a3 b3
  go_wp2_with fail
  refine (K3 _ B1.out).out.mono ?_
  rintro e w2 ⟨rfl, hb2⟩
  have B2 := Lib.hid (B1.out.trans (hb2.mono B1.out.size))
  have X2 := Lib.hid (X1.out.step hb2)
  have Y2 := Lib.hid (Y1.out.step hb2)
  clear hb2 K3 B1 X1 Y1 a3 b3
  go_wp2_with fail
  go_ret
  exact ⟨rfl, B2.out⟩
set_option maxRecDepth 10000 in
set_option maxHeartbeats 8000000 in
theorem eqS_ClassDef (lo1 lo2 t1 t2 : Nat) (w : World) (v1 v2 : Value) (ds es : List D) (he : erases ds = erases es) (hf : FitRow 4 (erases ds)) (hh : Holds lo1 w (.row t1 4 v1 ds)) (hk : Holds lo2 w (.row t2 4 v2 es)) :
    Calls Tryz.prog 19 #[v1, v2] w fun r w' => r = .returned (.bool true) ∧ Below w.heap.size w w' := by
  rw [Holds] at hh hk
  obtain ⟨⟨a1, n, cap1, rfl, -, hn, hnc1, hcm1, hc1⟩, hds⟩ := hh
  obtain ⟨⟨a2, n2, cap2, rfl, -, hn2, hnc2, hcm2, hc2⟩, hes⟩ := hk
  unfold maxLen at hcm1 hcm2
  have hl := congrArg List.length he
  rw [erases_len, erases_len] at hl
  have hnn : n2 = n := by omega
  subst hnn
  have HN := Lib.hid hn
  have HN2 := Lib.hid hn2
  have HF := Lib.hid hf
  have HE := Lib.hid he
  have HDS := Lib.hid hds
  have HES := Lib.hid hes
  clear hn hn2 hf he hl hds hes
  by_cases hp : 0 < n2
  rotate_left
  · have hn0 : n2 = 0 := by omega
    subst hn0
    clear hc1 hc2 HN HN2 HF HE HDS HES
    go_enter Tryz.func19, Tryz.ntmps19
    go_wp2_with fail
    refine wp_loop_rounds 1 ?_
    rw [rounds_succ]
    go_wp2_with fail
    go_ret
    exact ⟨rfl, Below.refl _ _⟩
  obtain ⟨bk1, o1, rfl, hp1, hc1⟩ := hc1 hp
  obtain ⟨bk2, o2, rfl, hp2, hc2⟩ := hc2 hp
  have HC1 := Lib.hid hc1
  have HC2 := Lib.hid hc2
  clear hc1 hc2 hp1 hp2
  go_enter Tryz.func19, Tryz.ntmps19
  go_wp2_with fail
  go_loopw [5] (fun j wr => ∃ (i : Nat) (A R A' R' : List D), ds = A ++ R ∧ es = A' ++ R' ∧ A.length = i * 4 ∧ A'.length = i * 4 ∧ FitRow 4 (erases R) ∧ erases R = erases R' ∧ j = .int .i64 i ∧ Below w.heap.size w wr) (fun j _ => n2 - (intOf j).toNat)
  case atStart => exact ⟨0, [], ds, [], es, rfl, rfl, by simp, by simp, HF.out, HE.out, rfl, Below.refl _ _⟩
  case round =>
    obtain ⟨i, A, R, A', R', hds, hes, hal, hal', hfr, her, rfl, hbw⟩ := hrel
    have HD := Lib.hid hds
    have HD' := Lib.hid hes
    have HAL := Lib.hid hal
    have HAL' := Lib.hid hal'
    clear hds hes hal hal'
    rcases fitRow_cases hfr with rfl | ⟨item, rest, rfl, hfi, hfrest⟩
    · have hin : i = n2 := by
        have h1 := HN.out
        rw [HD.out, List.append_nil, HAL.out] at h1
        omega
      subst hin
      clear hfr her
      go_wp2_with fail
      go_ret
      exact ⟨rfl, hbw⟩
    have hil : item.length = 4 := by have := fitL_len hfi; rw [erases_len] at this; exact this
    have hlt : i < n2 := by
      have h1 := HN.out
      rw [HD.out, List.length_append, List.length_append, HAL.out, hil] at h1
      omega
    rw [erases_append] at her
    obtain ⟨item', rest', rfl, hei, her'⟩ := erases_split her.symm
    have hfi' : FitL (env 4) (erases item') := hei.symm ▸ hfi
    have HFI := Lib.hid hfi
    have HFR := Lib.hid hfrest
    have HER := Lib.hid her'.symm
    have he := hei.symm
    have HEI := Lib.hid he
    clear hil hfr her hfrest her' hei
    obtain ⟨s0, e0, rfl, hfi_0⟩ := fitL_str hfi
    clear hfi
    obtain ⟨s1, e1, rfl, hfi_1⟩ := fitL_str hfi_0
    clear hfi_0
    obtain ⟨t2, v2, d2, e2, rfl, f2, hfi_2⟩ := fitL_row (k := 1) rfl hfi_1
    clear hfi_1
    obtain ⟨t3, v3, d3, e3, rfl, f3, hfi_3⟩ := fitL_row (k := 5) rfl hfi_2
    clear hfi_2
    obtain rfl := fitL_nil hfi_3
    clear hfi_3
    obtain ⟨ys0, ye0, rfl, hfi'_0⟩ := fitL_str hfi'
    clear hfi'
    obtain ⟨ys1, ye1, rfl, hfi'_1⟩ := fitL_str hfi'_0
    clear hfi'_0
    obtain ⟨yt2, yv2, yd2, ye2, rfl, yf2, hfi'_2⟩ := fitL_row (k := 1) rfl hfi'_1
    clear hfi'_1
    obtain ⟨yt3, yv3, yd3, ye3, rfl, yf3, hfi'_3⟩ := fitL_row (k := 5) rfl hfi'_2
    clear hfi'_2
    obtain rfl := fitL_nil hfi'_3
    clear hfi'_3
    simp only [erases, erase, List.cons.injEq, P.str.injEq, P.row.injEq, true_and,  and_true] at he
    obtain ⟨g0, g1, g2, g3⟩ := he
    subst g0
    subst g1
    have p0 := cell_keep hbw (row_at0 HC1.out HD.out HAL.out (D.str s0) rfl)
    have q0 := cell_keep hbw (row_at0 HC2.out HD'.out HAL'.out (D.str s0) rfl)
    simp only [val] at p0 q0
    have p1 := cell_keep hbw (row_at HC1.out HD.out HAL.out 1 (D.str s1) rfl)
    have q1 := cell_keep hbw (row_at HC2.out HD'.out HAL'.out 1 (D.str s1) rfl)
    simp only [val] at p1 q1
    have p2 := cell_keep hbw (row_at HC1.out HD.out HAL.out 2 (D.row t2 1 v2 d2) rfl)
    have q2 := cell_keep hbw (row_at HC2.out HD'.out HAL'.out 2 (D.row yt2 1 yv2 yd2) rfl)
    simp only [val] at p2 q2
    have p3 := cell_keep hbw (row_at HC1.out HD.out HAL.out 3 (D.row t3 5 v3 d3) rfl)
    have q3 := cell_keep hbw (row_at HC2.out HD'.out HAL'.out 3 (D.row yt3 5 yv3 yd3) rfl)
    simp only [val] at p3 q3
    have hit : Holdss lo1 w [D.str s0, D.str s1, D.row t2 1 v2 d2, D.row t3 5 v3 d3] := (Holdss.append.1 ((Holdss.append.1 (HD.out ▸ HDS.out)).2)).1
    have hit' : Holdss lo2 w [D.str s0, D.str s1, D.row yt2 1 yv2 yd2, D.row yt3 5 yv3 yd3] := (Holdss.append.1 ((Holdss.append.1 (HD'.out ▸ HES.out)).2)).1
    have KI := fun (w' : World) (hb : Below w.heap.size w w') => Lib.hid (eq_ClassDef lo1 lo2 w' [D.str s0, D.str s1, D.row t2 1 v2 d2, D.row t3 5 v3 d3] [D.str s0, D.str s1, D.row yt2 1 yv2 yd2, D.row yt3 5 yv3 yd3] HEI.out HFI.out (hit.below hb) (hit'.below hb))
    have HD2 : Hid (ds = (A ++ [D.str s0, D.str s1, D.row t2 1 v2 d2, D.row t3 5 v3 d3]) ++ rest) := Lib.hid (by rw [HD.out, List.append_assoc])
    have HE2 : Hid (es = (A' ++ [D.str s0, D.str s1, D.row yt2 1 yv2 yd2, D.row yt3 5 yv3 yd3]) ++ rest') := Lib.hid (by rw [HD'.out, List.append_assoc])
    have HAL2 : Hid ((A ++ [D.str s0, D.str s1, D.row t2 1 v2 d2, D.row t3 5 v3 d3]).length = (i + 1) * 4) := Lib.hid (by rw [List.length_append, HAL.out, Nat.succ_mul]; rfl)
    have HAL3 : Hid ((A' ++ [D.str s0, D.str s1, D.row yt2 1 yv2 yd2, D.row yt3 5 yv3 yd3]).length = (i + 1) * 4) := Lib.hid (by rw [List.length_append, HAL'.out, Nat.succ_mul]; rfl)
    have HB := Lib.hid hbw
    clear hit hit' hbw HFI HEI HD HD' HAL HAL' f2 yf2 g2 f3 yf3 g3
    simp only [agg, vals, List.map, val] at KI
    go_wp2_with fail
    go_region_held3 (fun w' => w'.cell? ⟨bk1, o1 + i * 4, none⟩ = some (Value.string s0) ∧ w'.cell? ⟨bk1, o1 + i * 4 + 1, none⟩ = some (Value.string s1) ∧ w'.cell? ⟨bk1, o1 + i * 4 + 2, none⟩ = some v2 ∧ w'.cell? ⟨bk1, o1 + i * 4 + 3, none⟩ = some v3 ∧ w'.cell? ⟨bk2, o2 + i * 4, none⟩ = some (Value.string s0) ∧ w'.cell? ⟨bk2, o2 + i * 4 + 1, none⟩ = some (Value.string s1) ∧ w'.cell? ⟨bk2, o2 + i * 4 + 2, none⟩ = some yv2 ∧ w'.cell? ⟨bk2, o2 + i * 4 + 3, none⟩ = some yv3)
      (first | exact ⟨p0, p1, p2, p3, q0, q1, q2, q3⟩ | exact ⟨cell_keep hb1 (show wr.drew.cell? _ = _ from p0), cell_keep hb1 (show wr.drew.cell? _ = _ from p1), cell_keep hb1 (show wr.drew.cell? _ = _ from p2), cell_keep hb1 (show wr.drew.cell? _ = _ from p3), cell_keep hb1 (show wr.drew.cell? _ = _ from q0), cell_keep hb1 (show wr.drew.cell? _ = _ from q1), cell_keep hb1 (show wr.drew.cell? _ = _ from q2), cell_keep hb1 (show wr.drew.cell? _ = _ from q3)⟩ | go_keep)
      (first | (go_at_call 39; refine (KI _ HB.out.drew).out.mono ?_; rintro e w1 ⟨rfl, hb1⟩))
    all_goals go_wp2_with fail
    go_roundw
    case rel => exact ⟨i + 1, A ++ [D.str s0, D.str s1, D.row t2 1 v2 d2, D.row t3 5 v3 d3], rest, A' ++ [D.str s0, D.str s1, D.row yt2 1 yv2 yd2, D.row yt3 5 yv3 yd3], rest', HD2.out, HE2.out, HAL2.out, HAL3.out, HFR.out, HER.out, by go_num, HB.out.drew.trans (hb1.mono HB.out.size)⟩
    case measure => simp [intOf]; omega
end Go.Proofs.YtdohpppkdecbdaaGreatDoor.Data

namespace Go.Proofs.YtdohpppkdecbdaaGreatDoor.Data
open Go.RowKit
open Strs Tree Texts
set_option maxRecDepth 10000 in
set_option maxHeartbeats 4000000 in
theorem eq_Unit (lo1 lo2 : Nat) (w : World) (ds es : List D) (he : erases ds = erases es) (hf : FitL (env 5) (erases ds)) (hh : Holdss lo1 w ds) (hk : Holdss lo2 w es) :
    Calls Tryz.prog 8 #[agg ds, agg es] w fun r w' => r = .returned (.bool true) ∧ Below w.heap.size w w' := by
  have hg : FitL (env 5) (erases es) := he ▸ hf
  obtain ⟨t0, v0, d0, e0, rfl, f0, hf_0⟩ := fitL_row (k := 4) rfl hf
  clear hf
  obtain ⟨s1, e1, rfl, hf_1⟩ := fitL_str hf_0
  clear hf_0
  obtain ⟨x2, e2, rfl, hf_2⟩ := fitL_bool hf_1
  clear hf_1
  obtain ⟨t3, v3, d3, e3, rfl, f3, hf_3⟩ := fitL_row (k := 1) rfl hf_2
  clear hf_2
  obtain ⟨t4, v4, d4, e4, rfl, f4, hf_4⟩ := fitL_row (k := 1) rfl hf_3
  clear hf_3
  obtain ⟨t5, v5, d5, e5, rfl, f5, hf_5⟩ := fitL_row (k := 5) rfl hf_4
  clear hf_4
  obtain rfl := fitL_nil hf_5
  clear hf_5
  obtain ⟨yt0, yv0, yd0, ye0, rfl, yf0, hg_0⟩ := fitL_row (k := 4) rfl hg
  clear hg
  obtain ⟨ys1, ye1, rfl, hg_1⟩ := fitL_str hg_0
  clear hg_0
  obtain ⟨yx2, ye2, rfl, hg_2⟩ := fitL_bool hg_1
  clear hg_1
  obtain ⟨yt3, yv3, yd3, ye3, rfl, yf3, hg_3⟩ := fitL_row (k := 1) rfl hg_2
  clear hg_2
  obtain ⟨yt4, yv4, yd4, ye4, rfl, yf4, hg_4⟩ := fitL_row (k := 1) rfl hg_3
  clear hg_3
  obtain ⟨yt5, yv5, yd5, ye5, rfl, yf5, hg_5⟩ := fitL_row (k := 5) rfl hg_4
  clear hg_4
  obtain rfl := fitL_nil hg_5
  clear hg_5
  simp only [erases, erase, List.cons.injEq, P.str.injEq, P.bool.injEq, P.row.injEq, true_and,  and_true] at he
  obtain ⟨g0, g1, g2, g3, g4, g5⟩ := he
  subst g1
  subst g2
  simp only [Holdss, and_true] at hh
  obtain ⟨h0, h1, h2, h3, h4, h5⟩ := hh
  simp only [Holdss, and_true] at hk
  obtain ⟨k0, k1, k2, k3, k4, k5⟩ := hk
  have K0 := fun (w' : World) (hb : Below w.heap.size w w') => Lib.hid (eqS_ClassDef lo1 lo2 t0 yt0 w' v0 yv0 d0 yd0 g0 f0 (h0.below hb) (k0.below hb))
  have K1 := fun (w' : World) (hb : Below w.heap.size w w') => Lib.hid (eq_Method lo1 lo2 w' [D.str s1, D.bool x2, D.row t3 1 v3 d3, D.row t4 1 v4 d4, D.row t5 5 v5 d5] [D.str s1, D.bool x2, D.row yt3 1 yv3 yd3, D.row yt4 1 yv4 yd4, D.row yt5 5 yv5 yd5] (by simp only [erases, erase, g3, g4, g5]) (FitL.cons _ _ _ _ (Fit.str _) (FitL.cons _ _ _ _ (Fit.bool _) (FitL.cons _ _ _ _ (Fit.row _ _ _ rfl f3) (FitL.cons _ _ _ _ (Fit.row _ _ _ rfl f4) (FitL.cons _ _ _ _ (Fit.row _ _ _ rfl f5) FitL.nil))))) (Holdss.below ⟨h1, h2, h3, h4, h5, trivial⟩ hb) (Holdss.below ⟨k1, k2, k3, k4, k5, trivial⟩ hb))
  clear h0 k0 f0 yf0 g0
  clear h1 k1
  clear h2 k2
  clear h3 k3 f3 yf3 g3
  clear h4 k4 f4 yf4 g4
  clear h5 k5 f5 yf5 g5
  have B0 : Hid (Below w.heap.size w ((w.alloc (Obj.cells #[v0, Value.string s1, Value.bool x2, v3, v4, v5] 36)).alloc (Obj.cells #[yv0, Value.string s1, Value.bool x2, yv3, yv4, yv5] 36))) := Lib.hid (((Below.refl _ _).alloc (Nat.le_refl _) _).alloc (by simp) _)
  have X0 : Hid (Cells w.heap.size [D.row t0 4 v0 d0, D.str s1, D.bool x2, D.row t3 1 v3 d3, D.row t4 1 v4 d4, D.row t5 5 v5 d5] ((w.alloc (Obj.cells #[v0, Value.string s1, Value.bool x2, v3, v4, v5] 36)).alloc (Obj.cells #[yv0, Value.string s1, Value.bool x2, yv3, yv4, yv5] 36))) := Lib.hid ((cells_new w [D.row t0 4 v0 d0, D.str s1, D.bool x2, D.row t3 1 v3 d3, D.row t4 1 v4 d4, D.row t5 5 v5 d5] _).step ((Below.refl _ _).alloc (Nat.le_refl _) _))
  have Y0 : Hid (Cells (w.heap.size + 1) [D.row yt0 4 yv0 yd0, D.str s1, D.bool x2, D.row yt3 1 yv3 yd3, D.row yt4 1 yv4 yd4, D.row yt5 5 yv5 yd5] ((w.alloc (Obj.cells #[v0, Value.string s1, Value.bool x2, v3, v4, v5] 36)).alloc (Obj.cells #[yv0, Value.string s1, Value.bool x2, yv3, yv4, yv5] 36))) := Lib.hid (by have h := cells_new (w.alloc (Obj.cells #[v0, Value.string s1, Value.bool x2, v3, v4, v5] 36)) [D.row yt0 4 yv0 yd0, D.str s1, D.bool x2, D.row yt3 1 yv3 yd3, D.row yt4 1 yv4 yd4, D.row yt5 5 yv5 yd5] 36; rw [show (w.alloc (Obj.cells #[v0, Value.string s1, Value.bool x2, v3, v4, v5] 36)).heap.size = w.heap.size + 1 by simp] at h; exact h)
  rw [show agg [D.row t0 4 v0 d0, D.str s1, D.bool x2, D.row t3 1 v3 d3, D.row t4 1 v4 d4, D.row t5 5 v5 d5] = Value.agg #[v0, Value.string s1, Value.bool x2, v3, v4, v5] from rfl, show agg [D.row yt0 4 yv0 yd0, D.str s1, D.bool x2, D.row yt3 1 yv3 yd3, D.row yt4 1 yv4 yd4, D.row yt5 5 yv5 yd5] = Value.agg #[yv0, Value.string s1, Value.bool x2, yv3, yv4, yv5] from rfl]
  go_enter Tryz.func8, Tryz.ntmps8
  have a0 := X0.out.at 0 (D.row t0 4 v0 d0) rfl
  have b0 := Y0.out.at 0 (D.row yt0 4 yv0 yd0) rfl
  simp only [val] at a0 b0
  go_wp2_with fail
  refine (K0 _ B0.out).out.mono ?_
  rintro e w1 ⟨rfl, hb1⟩
  have B1 := Lib.hid (B0.out.trans (hb1.mono B0.out.size))
  have X1 := Lib.hid (X0.out.step hb1)
  have Y1 := Lib.hid (Y0.out.step hb1)
  clear hb1 K0 B0 X0 Y0 a0 b0
  have a1 := X1.out.at 1 (D.str s1) rfl
  have b1 := Y1.out.at 1 (D.str s1) rfl
  simp only [val] at a1 b1
  have a2 := X1.out.at 2 (D.bool x2) rfl
  have b2 := Y1.out.at 2 (D.bool x2) rfl
  simp only [val] at a2 b2
  have a3 := X1.out.at 3 (D.row t3 1 v3 d3) rfl
  have b3 := Y1.out.at 3 (D.row yt3 1 yv3 yd3) rfl
  simp only [val] at a3 b3
  have a4 := X1.out.at 4 (D.row t4 1 v4 d4) rfl
  have b4 := Y1.out.at 4 (D.row yt4 1 yv4 yd4) rfl
  simp only [val] at a4 b4
  have a5 := X1.out.at 5 (D.row t5 5 v5 d5) rfl
  have b5 := Y1.out.at 5 (D.row yt5 5 yv5 yd5) rfl
  simp only [val] at a5 b5
  go_wp2_with fail
  refine (K1 _ B1.out).out.mono ?_
  rintro e w2 ⟨rfl, hb2⟩
  have B2 := Lib.hid (B1.out.trans (hb2.mono B1.out.size))
  have X2 := Lib.hid (X1.out.step hb2)
  have Y2 := Lib.hid (Y1.out.step hb2)
  clear hb2 K1 B1 X1 Y1 a1 b1 a2 b2 a3 b3 a4 b4 a5 b5
  go_wp2_with fail
  go_ret
  exact ⟨rfl, B2.out⟩
end Go.Proofs.YtdohpppkdecbdaaGreatDoor.Data
