/-
  laws.eqClassInfo and eqClassInfoS: two values that read alike are equal, and nothing that was there is written.
  laws.eqSystem and eqSystemS: two values that read alike are equal, and nothing that was there is written.
-/
import Derived.Test.YtekeondbbikkpaaGreatBDataStr
import Derived.Test.YtekeondbbikkpaaGreatBEqRoutine
import Derived.Test.YtekeondbbikkpaaGreatBToClassInfo
namespace Go.Proofs.YtekeondbbikkpaaGreat.Data
open Go.RowKit
open Strs Tree Texts
set_option maxRecDepth 10000 in
set_option maxHeartbeats 4000000 in
theorem eq_ClassInfo (lo1 lo2 : Nat) (w : World) (ds es : List D) (he : erases ds = erases es) (hf : FitL (env 6) (erases ds)) (hh : Holdss lo1 w ds) (hk : Holdss lo2 w es) :
    Calls Tryz.prog 50 #[agg ds, agg es] w fun r w' => r = .returned (.bool true) ∧ Below w.heap.size w w' := by
  have hg : FitL (env 6) (erases es) := he ▸ hf
  obtain ⟨s0, e0, rfl, hf_0⟩ := fitL_str hf
  clear hf
  obtain ⟨n1, e1, rfl, hf_1⟩ := fitL_int hf_0
  clear hf_0
  obtain ⟨t2, v2, d2, e2, rfl, f2, hf_2⟩ := fitL_row (k := 1) rfl hf_1
  clear hf_1
  obtain rfl := fitL_nil hf_2
  clear hf_2
  obtain ⟨ys0, ye0, rfl, hg_0⟩ := fitL_str hg
  clear hg
  obtain ⟨yn1, ye1, rfl, hg_1⟩ := fitL_int hg_0
  clear hg_0
  obtain ⟨yt2, yv2, yd2, ye2, rfl, yf2, hg_2⟩ := fitL_row (k := 1) rfl hg_1
  clear hg_1
  obtain rfl := fitL_nil hg_2
  clear hg_2
  simp only [erases, erase, List.cons.injEq, P.int.injEq, P.str.injEq, P.row.injEq, true_and,  and_true] at he
  obtain ⟨g0, g1, g2⟩ := he
  subst g0
  subst g1
  simp only [Holdss, and_true] at hh
  obtain ⟨h0, h1, h2⟩ := hh
  simp only [Holdss, and_true] at hk
  obtain ⟨k0, k1, k2⟩ := hk
  have K2 := fun (w' : World) (hb : Below w.heap.size w w') => Lib.hid (eqS_String lo1 lo2 t2 yt2 w' v2 yv2 d2 yd2 g2 f2 (h2.below hb) (k2.below hb))
  clear h0 k0
  clear h1 k1
  clear h2 k2 f2 yf2 g2
  have B0 : Hid (Below w.heap.size w ((w.alloc (Obj.cells #[Value.string s0, Value.int .i64 n1, v2] 76)).alloc (Obj.cells #[Value.string s0, Value.int .i64 n1, yv2] 76))) := Lib.hid (((Below.refl _ _).alloc (Nat.le_refl _) _).alloc (by simp) _)
  have X0 : Hid (Cells w.heap.size [D.str s0, D.int n1, D.row t2 1 v2 d2] ((w.alloc (Obj.cells #[Value.string s0, Value.int .i64 n1, v2] 76)).alloc (Obj.cells #[Value.string s0, Value.int .i64 n1, yv2] 76))) := Lib.hid ((cells_new w [D.str s0, D.int n1, D.row t2 1 v2 d2] _).step ((Below.refl _ _).alloc (Nat.le_refl _) _))
  have Y0 : Hid (Cells (w.heap.size + 1) [D.str s0, D.int n1, D.row yt2 1 yv2 yd2] ((w.alloc (Obj.cells #[Value.string s0, Value.int .i64 n1, v2] 76)).alloc (Obj.cells #[Value.string s0, Value.int .i64 n1, yv2] 76))) := Lib.hid (by have h := cells_new (w.alloc (Obj.cells #[Value.string s0, Value.int .i64 n1, v2] 76)) [D.str s0, D.int n1, D.row yt2 1 yv2 yd2] 76; rw [show (w.alloc (Obj.cells #[Value.string s0, Value.int .i64 n1, v2] 76)).heap.size = w.heap.size + 1 by simp] at h; exact h)
  rw [show agg [D.str s0, D.int n1, D.row t2 1 v2 d2] = Value.agg #[Value.string s0, Value.int .i64 n1, v2] from rfl, show agg [D.str s0, D.int n1, D.row yt2 1 yv2 yd2] = Value.agg #[Value.string s0, Value.int .i64 n1, yv2] from rfl]
  go_enter Tryz.func50, Tryz.ntmps50
  have a2 := X0.out.at 2 (D.row t2 1 v2 d2) rfl
  have b2 := Y0.out.at 2 (D.row yt2 1 yv2 yd2) rfl
  simp only [val] at a2 b2
  go_wp2_with fail
  refine (K2 _ B0.out).out.mono ?_
  rintro e w1 ⟨rfl, hb1⟩
  have B1 := Lib.hid (B0.out.trans (hb1.mono B0.out.size))
  have X1 := Lib.hid (X0.out.step hb1)
  have Y1 := Lib.hid (Y0.out.step hb1)
  clear hb1 K2 B0 X0 Y0 a2 b2
  go_wp2_with fail
  go_ret
  exact ⟨rfl, B1.out⟩
set_option maxRecDepth 10000 in
set_option maxHeartbeats 8000000 in
theorem eqS_ClassInfo (lo1 lo2 t1 t2 : Nat) (w : World) (v1 v2 : Value) (ds es : List D) (he : erases ds = erases es) (hf : FitRow 6 (erases ds)) (hh : Holds lo1 w (.row t1 3 v1 ds)) (hk : Holds lo2 w (.row t2 3 v2 es)) :
    Calls Tryz.prog 25 #[v1, v2] w fun r w' => r = .returned (.bool true) ∧ Below w.heap.size w w' := by
  rw [Holds] at hh hk
  obtain ⟨⟨a1, n, cap1, rfl, -, hn, hnc1, hcm1, hc1⟩, hds⟩ := hh
  obtain ⟨⟨a2, n2, cap2, rfl, -, hn2, hnc2, hcm2, hc2⟩, hes⟩ := hk
  unfold maxLen at hcm1 hcm2
  have hl := congrArg List.length he
  rw [erases_len, erases_len] at hl
  have hnn : n2 = n := by omega
  subst hnn
  have HN := Lib.hid hn
  have HN2 := Lib.hid hn2
  have HF := Lib.hid hf
  have HE := Lib.hid he
  have HDS := Lib.hid hds
  have HES := Lib.hid hes
  clear hn hn2 hf he hl hds hes
  by_cases hp : 0 < n2
  rotate_left
  · have hn0 : n2 = 0 := by omega
    subst hn0
    clear hc1 hc2 HN HN2 HF HE HDS HES
    go_enter Tryz.func25, Tryz.ntmps25
    go_wp2_with fail
    refine wp_loop_rounds 1 ?_
    rw [rounds_succ]
    go_wp2_with fail
    go_ret
    exact ⟨rfl, Below.refl _ _⟩
  obtain ⟨bk1, o1, rfl, hp1, hc1⟩ := hc1 hp
  obtain ⟨bk2, o2, rfl, hp2, hc2⟩ := hc2 hp
  have HC1 := Lib.hid hc1
  have HC2 := Lib.hid hc2
  clear hc1 hc2 hp1 hp2
  go_enter Tryz.func25, Tryz.ntmps25
  go_wp2_with fail
  go_loopw [5] (fun j wr => ∃ (i : Nat) (A R A' R' : List D), ds = A ++ R ∧ es = A' ++ R' ∧ A.length = i * 3 ∧ A'.length = i * 3 ∧ FitRow 6 (erases R) ∧ erases R = erases R' ∧ j = .int .i64 i ∧ Below w.heap.size w wr) (fun j _ => n2 - (intOf j).toNat)
  case atStart => exact ⟨0, [], ds, [], es, rfl, rfl, by simp, by simp, HF.out, HE.out, rfl, Below.refl _ _⟩
  case round =>
    obtain ⟨i, A, R, A', R', hds, hes, hal, hal', hfr, her, rfl, hbw⟩ := hrel
    have HD := Lib.hid hds
    have HD' := Lib.hid hes
    have HAL := Lib.hid hal
    have HAL' := Lib.hid hal'
    clear hds hes hal hal'
    rcases fitRow_cases hfr with rfl | ⟨item, rest, rfl, hfi, hfrest⟩
    · have hin : i = n2 := by
        have h1 := HN.out
        rw [HD.out, List.append_nil, HAL.out] at h1
        omega
      subst hin
      clear hfr her
      go_wp2_with fail
      go_ret
      exact ⟨rfl, hbw⟩
    have hil : item.length = 3 := by have := fitL_len hfi; rw [erases_len] at this; exact this
    have hlt : i < n2 := by
      have h1 := HN.out
      rw [HD.out, List.length_append, List.length_append, HAL.out, hil] at h1
      omega
    rw [erases_append] at her
    obtain ⟨item', rest', rfl, hei, her'⟩ := erases_split her.symm
    have hfi' : FitL (env 6) (erases item') := hei.symm ▸ hfi
    have HFI := Lib.hid hfi
    have HFR := Lib.hid hfrest
    have HER := Lib.hid her'.symm
    have he := hei.symm
    have HEI := Lib.hid he
    clear hil hfr her hfrest her' hei
    obtain ⟨s0, e0, rfl, hfi_0⟩ := fitL_str hfi
    clear hfi
    obtain ⟨n1, e1, rfl, hfi_1⟩ := fitL_int hfi_0
    clear hfi_0
    obtain ⟨t2, v2, d2, e2, rfl, f2, hfi_2⟩ := fitL_row (k := 1) rfl hfi_1
    clear hfi_1
    obtain rfl := fitL_nil hfi_2
    clear hfi_2
    obtain ⟨ys0, ye0, rfl, hfi'_0⟩ := fitL_str hfi'
    clear hfi'
    obtain ⟨yn1, ye1, rfl, hfi'_1⟩ := fitL_int hfi'_0
    clear hfi'_0
    obtain ⟨yt2, yv2, yd2, ye2, rfl, yf2, hfi'_2⟩ := fitL_row (k := 1) rfl hfi'_1
    clear hfi'_1
    obtain rfl := fitL_nil hfi'_2
    clear hfi'_2
    simp only [erases, erase, List.cons.injEq, P.int.injEq, P.str.injEq, P.row.injEq, true_and,  and_true] at he
    obtain ⟨g0, g1, g2⟩ := he
    subst g0
    subst g1
    have p0 := cell_keep hbw (row_at0 HC1.out HD.out HAL.out (D.str s0) rfl)
    have q0 := cell_keep hbw (row_at0 HC2.out HD'.out HAL'.out (D.str s0) rfl)
    simp only [val] at p0 q0
    have p1 := cell_keep hbw (row_at HC1.out HD.out HAL.out 1 (D.int n1) rfl)
    have q1 := cell_keep hbw (row_at HC2.out HD'.out HAL'.out 1 (D.int n1) rfl)
    simp only [val] at p1 q1
    have p2 := cell_keep hbw (row_at HC1.out HD.out HAL.out 2 (D.row t2 1 v2 d2) rfl)
    have q2 := cell_keep hbw (row_at HC2.out HD'.out HAL'.out 2 (D.row yt2 1 yv2 yd2) rfl)
    simp only [val] at p2 q2
    have hit : Holdss lo1 w [D.str s0, D.int n1, D.row t2 1 v2 d2] := (Holdss.append.1 ((Holdss.append.1 (HD.out ▸ HDS.out)).2)).1
    have hit' : Holdss lo2 w [D.str s0, D.int n1, D.row yt2 1 yv2 yd2] := (Holdss.append.1 ((Holdss.append.1 (HD'.out ▸ HES.out)).2)).1
    have KI := fun (w' : World) (hb : Below w.heap.size w w') => Lib.hid (eq_ClassInfo lo1 lo2 w' [D.str s0, D.int n1, D.row t2 1 v2 d2] [D.str s0, D.int n1, D.row yt2 1 yv2 yd2] HEI.out HFI.out (hit.below hb) (hit'.below hb))
    have HD2 : Hid (ds = (A ++ [D.str s0, D.int n1, D.row t2 1 v2 d2]) ++ rest) := Lib.hid (by rw [HD.out, List.append_assoc])
    have HE2 : Hid (es = (A' ++ [D.str s0, D.int n1, D.row yt2 1 yv2 yd2]) ++ rest') := Lib.hid (by rw [HD'.out, List.append_assoc])
    have HAL2 : Hid ((A ++ [D.str s0, D.int n1, D.row t2 1 v2 d2]).length = (i + 1) * 3) := Lib.hid (by rw [List.length_append, HAL.out, Nat.succ_mul]; rfl)
    have HAL3 : Hid ((A' ++ [D.str s0, D.int n1, D.row yt2 1 yv2 yd2]).length = (i + 1) * 3) := Lib.hid (by rw [List.length_append, HAL'.out, Nat.succ_mul]; rfl)
    have HB := Lib.hid hbw
    clear hit hit' hbw HFI HEI HD HD' HAL HAL' f2 yf2 g2
    simp only [agg, vals, List.map, val] at KI
    go_wp2_with fail
    go_region_held3 (fun w' => w'.cell? ⟨bk1, o1 + i * 3, none⟩ = some (Value.string s0) ∧ w'.cell? ⟨bk1, o1 + i * 3 + 1, none⟩ = some (Value.int .i64 n1) ∧ w'.cell? ⟨bk1, o1 + i * 3 + 2, none⟩ = some v2 ∧ w'.cell? ⟨bk2, o2 + i * 3, none⟩ = some (Value.string s0) ∧ w'.cell? ⟨bk2, o2 + i * 3 + 1, none⟩ = some (Value.int .i64 n1) ∧ w'.cell? ⟨bk2, o2 + i * 3 + 2, none⟩ = some yv2)
      (first | exact ⟨p0, p1, p2, q0, q1, q2⟩ | exact ⟨cell_keep hb1 (show wr.drew.cell? _ = _ from p0), cell_keep hb1 (show wr.drew.cell? _ = _ from p1), cell_keep hb1 (show wr.drew.cell? _ = _ from p2), cell_keep hb1 (show wr.drew.cell? _ = _ from q0), cell_keep hb1 (show wr.drew.cell? _ = _ from q1), cell_keep hb1 (show wr.drew.cell? _ = _ from q2)⟩ | go_keep)
      (first | (go_at_call 50; refine (KI _ HB.out.drew).out.mono ?_; rintro e w1 ⟨rfl, hb1⟩))
    all_goals go_wp2_with fail
    go_roundw
    case rel => exact ⟨i + 1, A ++ [D.str s0, D.int n1, D.row t2 1 v2 d2], rest, A' ++ [D.str s0, D.int n1, D.row yt2 1 yv2 yd2], rest', HD2.out, HE2.out, HAL2.out, HAL3.out, HFR.out, HER.out, by go_num, HB.out.drew.trans (hb1.mono HB.out.size)⟩
    case measure => simp [intOf]; omega
end Go.Proofs.YtekeondbbikkpaaGreat.Data

namespace Go.Proofs.YtekeondbbikkpaaGreat.Data
open Go.RowKit
open Strs Tree Texts
set_option maxRecDepth 10000 in
set_option maxHeartbeats 4000000 in
theorem eq_System (lo1 lo2 : Nat) (w : World) (ds es : List D) (he : erases ds = erases es) (hf : FitL (env 9) (erases ds)) (hh : Holdss lo1 w ds) (hk : Holdss lo2 w es) :
    Calls Tryz.prog 8 #[agg ds, agg es] w fun r w' => r = .returned (.bool true) ∧ Below w.heap.size w w' := by
  have hg : FitL (env 9) (erases es) := he ▸ hf
  obtain ⟨t0, v0, d0, e0, rfl, f0, hf_0⟩ := fitL_row (k := 3) rfl hf
  clear hf
  obtain ⟨t1, v1, d1, e1, rfl, f1, hf_1⟩ := fitL_row (k := 10) rfl hf_0
  clear hf_0
  obtain ⟨s2, e2, rfl, hf_2⟩ := fitL_str hf_1
  clear hf_1
  obtain ⟨n3, e3, rfl, hf_3⟩ := fitL_int hf_2
  clear hf_2
  obtain ⟨x4, e4, rfl, hf_4⟩ := fitL_bool hf_3
  clear hf_3
  obtain ⟨n5, e5, rfl, hf_5⟩ := fitL_int hf_4
  clear hf_4
  obtain ⟨n6, e6, rfl, hf_6⟩ := fitL_int hf_5
  clear hf_5
  obtain ⟨n7, e7, rfl, hf_7⟩ := fitL_int hf_6
  clear hf_6
  obtain ⟨s8, e8, rfl, hf_8⟩ := fitL_str hf_7
  clear hf_7
  obtain ⟨n9, e9, rfl, hf_9⟩ := fitL_int hf_8
  clear hf_8
  obtain ⟨n10, e10, rfl, hf_10⟩ := fitL_int hf_9
  clear hf_9
  obtain ⟨t11, v11, d11, e11, rfl, f11, hf_11⟩ := fitL_row (k := 5) rfl hf_10
  clear hf_10
  obtain rfl := fitL_nil hf_11
  clear hf_11
  obtain ⟨yt0, yv0, yd0, ye0, rfl, yf0, hg_0⟩ := fitL_row (k := 3) rfl hg
  clear hg
  obtain ⟨yt1, yv1, yd1, ye1, rfl, yf1, hg_1⟩ := fitL_row (k := 10) rfl hg_0
  clear hg_0
  obtain ⟨ys2, ye2, rfl, hg_2⟩ := fitL_str hg_1
  clear hg_1
  obtain ⟨yn3, ye3, rfl, hg_3⟩ := fitL_int hg_2
  clear hg_2
  obtain ⟨yx4, ye4, rfl, hg_4⟩ := fitL_bool hg_3
  clear hg_3
  obtain ⟨yn5, ye5, rfl, hg_5⟩ := fitL_int hg_4
  clear hg_4
  obtain ⟨yn6, ye6, rfl, hg_6⟩ := fitL_int hg_5
  clear hg_5
  obtain ⟨yn7, ye7, rfl, hg_7⟩ := fitL_int hg_6
  clear hg_6
  obtain ⟨ys8, ye8, rfl, hg_8⟩ := fitL_str hg_7
  clear hg_7
  obtain ⟨yn9, ye9, rfl, hg_9⟩ := fitL_int hg_8
  clear hg_8
  obtain ⟨yn10, ye10, rfl, hg_10⟩ := fitL_int hg_9
  clear hg_9
  obtain ⟨yt11, yv11, yd11, ye11, rfl, yf11, hg_11⟩ := fitL_row (k := 5) rfl hg_10
  clear hg_10
  obtain rfl := fitL_nil hg_11
  clear hg_11
  simp only [erases, erase, List.cons.injEq, P.int.injEq, P.str.injEq, P.bool.injEq, P.row.injEq, true_and,  and_true] at he
  obtain ⟨g0, g1, g2, g3, g4, g5, g6, g7, g8, g9, g10, g11⟩ := he
  subst g2
  subst g3
  subst g4
  subst g5
  subst g6
  subst g7
  subst g8
  subst g9
  subst g10
  simp only [Holdss, and_true] at hh
  obtain ⟨h0, h1, h2, h3, h4, h5, h6, h7, h8, h9, h10, h11⟩ := hh
  simp only [Holdss, and_true] at hk
  obtain ⟨k0, k1, k2, k3, k4, k5, k6, k7, k8, k9, k10, k11⟩ := hk
  have K0 := fun (w' : World) (hb : Below w.heap.size w w') => Lib.hid (eqS_ClassInfo lo1 lo2 t0 yt0 w' v0 yv0 d0 yd0 g0 f0 (h0.below hb) (k0.below hb))
  have K1 := fun (w' : World) (hb : Below w.heap.size w w') => Lib.hid (eqS_Routine lo1 lo2 t1 yt1 w' v1 yv1 d1 yd1 g1 f1 (h1.below hb) (k1.below hb))
  have K2 := fun (w' : World) (hb : Below w.heap.size w w') => Lib.hid (eq_Routine lo1 lo2 w' [D.str s2, D.int n3, D.bool x4, D.int n5, D.int n6, D.int n7, D.str s8, D.int n9, D.int n10, D.row t11 5 v11 d11] [D.str s2, D.int n3, D.bool x4, D.int n5, D.int n6, D.int n7, D.str s8, D.int n9, D.int n10, D.row yt11 5 yv11 yd11] (by simp only [erases, erase, g11]) (FitL.cons _ _ _ _ (Fit.str _) (FitL.cons _ _ _ _ (Fit.int _) (FitL.cons _ _ _ _ (Fit.bool _) (FitL.cons _ _ _ _ (Fit.int _) (FitL.cons _ _ _ _ (Fit.int _) (FitL.cons _ _ _ _ (Fit.int _) (FitL.cons _ _ _ _ (Fit.str _) (FitL.cons _ _ _ _ (Fit.int _) (FitL.cons _ _ _ _ (Fit.int _) (FitL.cons _ _ _ _ (Fit.row _ _ _ rfl f11) FitL.nil)))))))))) (Holdss.below ⟨h2, h3, h4, h5, h6, h7, h8, h9, h10, h11, trivial⟩ hb) (Holdss.below ⟨k2, k3, k4, k5, k6, k7, k8, k9, k10, k11, trivial⟩ hb))
  clear h0 k0 f0 yf0 g0
  clear h1 k1 f1 yf1 g1
  clear h2 k2
  clear h3 k3
  clear h4 k4
  clear h5 k5
  clear h6 k6
  clear h7 k7
  clear h8 k8
  clear h9 k9
  clear h10 k10
  clear h11 k11 f11 yf11 g11
  have B0 : Hid (Below w.heap.size w ((w.alloc (Obj.cells #[v0, v1, Value.string s2, Value.int .i64 n3, Value.bool x4, Value.int .i64 n5, Value.int .i64 n6, Value.int .i64 n7, Value.string s8, Value.int .i64 n9, Value.int .i64 n10, v11] 41)).alloc (Obj.cells #[yv0, yv1, Value.string s2, Value.int .i64 n3, Value.bool x4, Value.int .i64 n5, Value.int .i64 n6, Value.int .i64 n7, Value.string s8, Value.int .i64 n9, Value.int .i64 n10, yv11] 41))) := Lib.hid (((Below.refl _ _).alloc (Nat.le_refl _) _).alloc (by simp) _)
  have X0 : Hid (Cells w.heap.size [D.row t0 3 v0 d0, D.row t1 10 v1 d1, D.str s2, D.int n3, D.bool x4, D.int n5, D.int n6, D.int n7, D.str s8, D.int n9, D.int n10, D.row t11 5 v11 d11] ((w.alloc (Obj.cells #[v0, v1, Value.string s2, Value.int .i64 n3, Value.bool x4, Value.int .i64 n5, Value.int .i64 n6, Value.int .i64 n7, Value.string s8, Value.int .i64 n9, Value.int .i64 n10, v11] 41)).alloc (Obj.cells #[yv0, yv1, Value.string s2, Value.int .i64 n3, Value.bool x4, Value.int .i64 n5, Value.int .i64 n6, Value.int .i64 n7, Value.string s8, Value.int .i64 n9, Value.int .i64 n10, yv11] 41))) := Lib.hid ((cells_new w [D.row t0 3 v0 d0, D.row t1 10 v1 d1, D.str s2, D.int n3, D.bool x4, D.int n5, D.int n6, D.int n7, D.str s8, D.int n9, D.int n10, D.row t11 5 v11 d11] _).step ((Below.refl _ _).alloc (Nat.le_refl _) _))
  have Y0 : Hid (Cells (w.heap.size + 1) [D.row yt0 3 yv0 yd0, D.row yt1 10 yv1 yd1, D.str s2, D.int n3, D.bool x4, D.int n5, D.int n6, D.int n7, D.str s8, D.int n9, D.int n10, D.row yt11 5 yv11 yd11] ((w.alloc (Obj.cells #[v0, v1, Value.string s2, Value.int .i64 n3, Value.bool x4, Value.int .i64 n5, Value.int .i64 n6, Value.int .i64 n7, Value.string s8, Value.int .i64 n9, Value.int .i64 n10, v11] 41)).alloc (Obj.cells #[yv0, yv1, Value.string s2, Value.int .i64 n3, Value.bool x4, Value.int .i64 n5, Value.int .i64 n6, Value.int .i64 n7, Value.string s8, Value.int .i64 n9, Value.int .i64 n10, yv11] 41))) := Lib.hid (by have h := cells_new (w.alloc (Obj.cells #[v0, v1, Value.string s2, Value.int .i64 n3, Value.bool x4, Value.int .i64 n5, Value.int .i64 n6, Value.int .i64 n7, Value.string s8, Value.int .i64 n9, Value.int .i64 n10, v11] 41)) [D.row yt0 3 yv0 yd0, D.row yt1 10 yv1 yd1, D.str s2, D.int n3, D.bool x4, D.int n5, D.int n6, D.int n7, D.str s8, D.int n9, D.int n10, D.row yt11 5 yv11 yd11] 41; rw [show (w.alloc (Obj.cells #[v0, v1, Value.string s2, Value.int .i64 n3, Value.bool x4, Value.int .i64 n5, Value.int .i64 n6, Value.int .i64 n7, Value.string s8, Value.int .i64 n9, Value.int .i64 n10, v11] 41)).heap.size = w.heap.size + 1 by simp] at h; exact h)
  rw [show agg [D.row t0 3 v0 d0, D.row t1 10 v1 d1, D.str s2, D.int n3, D.bool x4, D.int n5, D.int n6, D.int n7, D.str s8, D.int n9, D.int n10, D.row t11 5 v11 d11] = Value.agg #[v0, v1, Value.string s2, Value.int .i64 n3, Value.bool x4, Value.int .i64 n5, Value.int .i64 n6, Value.int .i64 n7, Value.string s8, Value.int .i64 n9, Value.int .i64 n10, v11] from rfl, show agg [D.row yt0 3 yv0 yd0, D.row yt1 10 yv1 yd1, D.str s2, D.int n3, D.bool x4, D.int n5, D.int n6, D.int n7, D.str s8, D.int n9, D.int n10, D.row yt11 5 yv11 yd11] = Value.agg #[yv0, yv1, Value.string s2, Value.int .i64 n3, Value.bool x4, Value.int .i64 n5, Value.int .i64 n6, Value.int .i64 n7, Value.string s8, Value.int .i64 n9, Value.int .i64 n10, yv11] from rfl]
  go_enter Tryz.func8, Tryz.ntmps8
  have a0 := X0.out.at 0 (D.row t0 3 v0 d0) rfl
  have b0 := Y0.out.at 0 (D.row yt0 3 yv0 yd0) rfl
  simp only [val] at a0 b0
  go_wp2_with fail
  refine (K0 _ B0.out).out.mono ?_
  rintro e w1 ⟨rfl, hb1⟩
  have B1 := Lib.hid (B0.out.trans (hb1.mono B0.out.size))
  have X1 := Lib.hid (X0.out.step hb1)
  have Y1 := Lib.hid (Y0.out.step hb1)
  clear hb1 K0 B0 X0 Y0 a0 b0
  have a1 := X1.out.at 1 (D.row t1 10 v1 d1) rfl
  have b1 := Y1.out.at 1 (D.row yt1 10 yv1 yd1) rfl
  simp only [val] at a1 b1
  go_wp2_with fail
  refine (K1 _ B1.out).out.mono ?_
  rintro e w2 ⟨rfl, hb2⟩
  have B2 := Lib.hid (B1.out.trans (hb2.mono B1.out.size))
  have X2 := Lib.hid (X1.out.step hb2)
  have Y2 := Lib.hid (Y1.out.step hb2)
  clear hb2 K1 B1 X1 Y1 a1 b1
  have a2 := X2.out.at 2 (D.str s2) rfl
  have b2 := Y2.out.at 2 (D.str s2) rfl
  simp only [val] at a2 b2
  have a3 := X2.out.at 3 (D.int n3) rfl
  have b3 := Y2.out.at 3 (D.int n3) rfl
  simp only [val] at a3 b3
  have a4 := X2.out.at 4 (D.bool x4) rfl
  have b4 := Y2.out.at 4 (D.bool x4) rfl
  simp only [val] at a4 b4
  have a5 := X2.out.at 5 (D.int n5) rfl
  have b5 := Y2.out.at 5 (D.int n5) rfl
  simp only [val] at a5 b5
  have a6 := X2.out.at 6 (D.int n6) rfl
  have b6 := Y2.out.at 6 (D.int n6) rfl
  simp only [val] at a6 b6
  have a7 := X2.out.at 7 (D.int n7) rfl
  have b7 := Y2.out.at 7 (D.int n7) rfl
  simp only [val] at a7 b7
  have a8 := X2.out.at 8 (D.str s8) rfl
  have b8 := Y2.out.at 8 (D.str s8) rfl
  simp only [val] at a8 b8
  have a9 := X2.out.at 9 (D.int n9) rfl
  have b9 := Y2.out.at 9 (D.int n9) rfl
  simp only [val] at a9 b9
  have a10 := X2.out.at 10 (D.int n10) rfl
  have b10 := Y2.out.at 10 (D.int n10) rfl
  simp only [val] at a10 b10
  have a11 := X2.out.at 11 (D.row t11 5 v11 d11) rfl
  have b11 := Y2.out.at 11 (D.row yt11 5 yv11 yd11) rfl
  simp only [val] at a11 b11
  go_wp2_with fail
  refine (K2 _ B2.out).out.mono ?_
  rintro e w3 ⟨rfl, hb3⟩
  have B3 := Lib.hid (B2.out.trans (hb3.mono B2.out.size))
  have X3 := Lib.hid (X2.out.step hb3)
  have Y3 := Lib.hid (Y2.out.step hb3)
  clear hb3 K2 B2 X2 Y2 a2 b2 a3 b3 a4 b4 a5 b5 a6 b6 a7 b7 a8 b8 a9 b9 a10 b10 a11 b11
  go_wp2_with fail
  go_ret
  exact ⟨rfl, B3.out⟩
end Go.Proofs.YtekeondbbikkpaaGreat.Data
