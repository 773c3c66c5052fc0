/-
  laws.eqCore and eqCoreS: two values that read alike are equal, and nothing that was there is written.
  laws.eqRoutine and eqRoutineS: two values that read alike are equal, and nothing that was there is written.
-/
import Derived.Test.YtekeondbbikkpaaGreatBDataStr
import Derived.Test.YtekeondbbikkpaaGreatBToClassInfo
namespace Go.Proofs.YtekeondbbikkpaaGreat.Data
open Go.RowKit
open Strs Tree Texts
set_option maxRecDepth 10000 in
set_option maxHeartbeats 4000000 in
theorem eq_Core_of (NN : Nat) (KR : ∀ (lo1 lo2 t1 t2 : Nat) (w : World) (v1 v2 : Value) (ds es : List D), masses (erases ds) < NN → erases ds = erases es → FitRow 7 (erases ds) → Holds lo1 w (.row t1 5 v1 ds) → Holds lo2 w (.row t2 5 v2 es) → Calls Tryz.prog 79 #[v1, v2] w fun r w' => r = .returned (.bool true) ∧ Below w.heap.size w w') (lo1 lo2 : Nat) (w : World) (ds es : List D) (hm : masses (erases ds) ≤ NN) (he : erases ds = erases es) (hf : FitL (env 7) (erases ds)) (hh : Holdss lo1 w ds) (hk : Holdss lo2 w es) :
    Calls Tryz.prog 51 #[agg ds, agg es] w fun r w' => r = .returned (.bool true) ∧ Below w.heap.size w w' := by
  have hg : FitL (env 7) (erases es) := he ▸ hf
  obtain ⟨n0, e0, rfl, hf_0⟩ := fitL_int hf
  clear hf
  obtain ⟨s1, e1, rfl, hf_1⟩ := fitL_str hf_0
  clear hf_0
  obtain ⟨n2, e2, rfl, hf_2⟩ := fitL_int hf_1
  clear hf_1
  obtain ⟨n3, e3, rfl, hf_3⟩ := fitL_int hf_2
  clear hf_2
  obtain ⟨t4, v4, d4, e4, rfl, f4, hf_4⟩ := fitL_row (k := 5) rfl hf_3
  clear hf_3
  obtain rfl := fitL_nil hf_4
  clear hf_4
  obtain ⟨yn0, ye0, rfl, hg_0⟩ := fitL_int hg
  clear hg
  obtain ⟨ys1, ye1, rfl, hg_1⟩ := fitL_str hg_0
  clear hg_0
  obtain ⟨yn2, ye2, rfl, hg_2⟩ := fitL_int hg_1
  clear hg_1
  obtain ⟨yn3, ye3, rfl, hg_3⟩ := fitL_int hg_2
  clear hg_2
  obtain ⟨yt4, yv4, yd4, ye4, rfl, yf4, hg_4⟩ := fitL_row (k := 5) rfl hg_3
  clear hg_3
  obtain rfl := fitL_nil hg_4
  clear hg_4
  simp only [erases, erase, List.cons.injEq, P.int.injEq, P.str.injEq, P.row.injEq, true_and,  and_true] at he
  obtain ⟨g0, g1, g2, g3, g4⟩ := he
  subst g0
  subst g1
  subst g2
  subst g3
  simp only [erases, erase, masses, mass] at hm
  simp only [Holdss, and_true] at hh
  obtain ⟨h0, h1, h2, h3, h4⟩ := hh
  simp only [Holdss, and_true] at hk
  obtain ⟨k0, k1, k2, k3, k4⟩ := hk
  have K4 := fun (w' : World) (hb : Below w.heap.size w w') => Lib.hid (KR lo1 lo2 t4 yt4 w' v4 yv4 d4 yd4 (by omega) g4 f4 (h4.below hb) (k4.below hb))
  clear h0 k0
  clear h1 k1
  clear h2 k2
  clear h3 k3
  clear h4 k4 f4 yf4 g4
  clear KR hm
  have B0 : Hid (Below w.heap.size w ((w.alloc (Obj.cells #[Value.int .i64 n0, Value.string s1, Value.int .i64 n2, Value.int .i64 n3, v4] 37)).alloc (Obj.cells #[Value.int .i64 n0, Value.string s1, Value.int .i64 n2, Value.int .i64 n3, yv4] 37))) := Lib.hid (((Below.refl _ _).alloc (Nat.le_refl _) _).alloc (by simp) _)
  have X0 : Hid (Cells w.heap.size [D.int n0, D.str s1, D.int n2, D.int n3, D.row t4 5 v4 d4] ((w.alloc (Obj.cells #[Value.int .i64 n0, Value.string s1, Value.int .i64 n2, Value.int .i64 n3, v4] 37)).alloc (Obj.cells #[Value.int .i64 n0, Value.string s1, Value.int .i64 n2, Value.int .i64 n3, yv4] 37))) := Lib.hid ((cells_new w [D.int n0, D.str s1, D.int n2, D.int n3, D.row t4 5 v4 d4] _).step ((Below.refl _ _).alloc (Nat.le_refl _) _))
  have Y0 : Hid (Cells (w.heap.size + 1) [D.int n0, D.str s1, D.int n2, D.int n3, D.row yt4 5 yv4 yd4] ((w.alloc (Obj.cells #[Value.int .i64 n0, Value.string s1, Value.int .i64 n2, Value.int .i64 n3, v4] 37)).alloc (Obj.cells #[Value.int .i64 n0, Value.string s1, Value.int .i64 n2, Value.int .i64 n3, yv4] 37))) := Lib.hid (by have h := cells_new (w.alloc (Obj.cells #[Value.int .i64 n0, Value.string s1, Value.int .i64 n2, Value.int .i64 n3, v4] 37)) [D.int n0, D.str s1, D.int n2, D.int n3, D.row yt4 5 yv4 yd4] 37; rw [show (w.alloc (Obj.cells #[Value.int .i64 n0, Value.string s1, Value.int .i64 n2, Value.int .i64 n3, v4] 37)).heap.size = w.heap.size + 1 by simp] at h; exact h)
  rw [show agg [D.int n0, D.str s1, D.int n2, D.int n3, D.row t4 5 v4 d4] = Value.agg #[Value.int .i64 n0, Value.string s1, Value.int .i64 n2, Value.int .i64 n3, v4] from rfl, show agg [D.int n0, D.str s1, D.int n2, D.int n3, D.row yt4 5 yv4 yd4] = Value.agg #[Value.int .i64 n0, Value.string s1, Value.int .i64 n2, Value.int .i64 n3, yv4] from rfl]
  go_enter Tryz.func51, Tryz.ntmps51
  have a4 := X0.out.at 4 (D.row t4 5 v4 d4) rfl
  have b4 := Y0.out.at 4 (D.row yt4 5 yv4 yd4) rfl
  simp only [val] at a4 b4
  go_wp2_with fail
  refine (K4 _ B0.out).out.mono ?_
  rintro e w1 ⟨rfl, hb1⟩
  have B1 := Lib.hid (B0.out.trans (hb1.mono B0.out.size))
  have X1 := Lib.hid (X0.out.step hb1)
  have Y1 := Lib.hid (Y0.out.step hb1)
  clear hb1 K4 B0 X0 Y0 a4 b4
  go_wp2_with fail
  go_ret
  exact ⟨rfl, B1.out⟩
set_option maxRecDepth 10000 in
set_option maxHeartbeats 8000000 in
theorem eqS_Core_of (NN : Nat) (KT : ∀ (lo1 lo2 : Nat) (w : World) (ds es : List D), masses (erases ds) ≤ NN → erases ds = erases es → FitL (env 7) (erases ds) → Holdss lo1 w ds → Holdss lo2 w es → Calls Tryz.prog 51 #[agg ds, agg es] w fun r w' => r = .returned (.bool true) ∧ Below w.heap.size w w') (lo1 lo2 t1 t2 : Nat) (w : World) (v1 v2 : Value) (ds es : List D) (hm : masses (erases ds) ≤ NN) (he : erases ds = erases es) (hf : FitRow 7 (erases ds)) (hh : Holds lo1 w (.row t1 5 v1 ds)) (hk : Holds lo2 w (.row t2 5 v2 es)) :
    Calls Tryz.prog 79 #[v1, v2] w fun r w' => r = .returned (.bool true) ∧ Below w.heap.size w w' := by
  rw [Holds] at hh hk
  obtain ⟨⟨a1, n, cap1, rfl, -, hn, hnc1, hcm1, hc1⟩, hds⟩ := hh
  obtain ⟨⟨a2, n2, cap2, rfl, -, hn2, hnc2, hcm2, hc2⟩, hes⟩ := hk
  unfold maxLen at hcm1 hcm2
  have hl := congrArg List.length he
  rw [erases_len, erases_len] at hl
  have hnn : n2 = n := by omega
  subst hnn
  have HN := Lib.hid hn
  have HN2 := Lib.hid hn2
  have HF := Lib.hid hf
  have HE := Lib.hid he
  have HDS := Lib.hid hds
  have HES := Lib.hid hes
  clear hn hn2 hf he hl hds hes
  by_cases hp : 0 < n2
  rotate_left
  · have hn0 : n2 = 0 := by omega
    subst hn0
    clear hc1 hc2 HN HN2 HF HE HDS HES KT hm
    go_enter Tryz.func79, Tryz.ntmps79
    go_wp2_with fail
    refine wp_loop_rounds 1 ?_
    rw [rounds_succ]
    go_wp2_with fail
    go_ret
    exact ⟨rfl, Below.refl _ _⟩
  obtain ⟨bk1, o1, rfl, hp1, hc1⟩ := hc1 hp
  obtain ⟨bk2, o2, rfl, hp2, hc2⟩ := hc2 hp
  have HC1 := Lib.hid hc1
  have HC2 := Lib.hid hc2
  clear hc1 hc2 hp1 hp2
  go_enter Tryz.func79, Tryz.ntmps79
  go_wp2_with fail
  go_loopw [5] (fun j wr => ∃ (i : Nat) (A R A' R' : List D), ds = A ++ R ∧ es = A' ++ R' ∧ A.length = i * 5 ∧ A'.length = i * 5 ∧ FitRow 7 (erases R) ∧ erases R = erases R' ∧ j = .int .i64 i ∧ Below w.heap.size w wr) (fun j _ => n2 - (intOf j).toNat)
  case atStart => exact ⟨0, [], ds, [], es, rfl, rfl, by simp, by simp, HF.out, HE.out, rfl, Below.refl _ _⟩
  case round =>
    obtain ⟨i, A, R, A', R', hds, hes, hal, hal', hfr, her, rfl, hbw⟩ := hrel
    have HD := Lib.hid hds
    have HD' := Lib.hid hes
    have HAL := Lib.hid hal
    have HAL' := Lib.hid hal'
    clear hds hes hal hal'
    rcases fitRow_cases hfr with rfl | ⟨item, rest, rfl, hfi, hfrest⟩
    · have hin : i = n2 := by
        have h1 := HN.out
        rw [HD.out, List.append_nil, HAL.out] at h1
        omega
      subst hin
      clear hfr her
      go_wp2_with fail
      go_ret
      exact ⟨rfl, hbw⟩
    have hil : item.length = 5 := by have := fitL_len hfi; rw [erases_len] at this; exact this
    have hlt : i < n2 := by
      have h1 := HN.out
      rw [HD.out, List.length_append, List.length_append, HAL.out, hil] at h1
      omega
    rw [erases_append] at her
    obtain ⟨item', rest', rfl, hei, her'⟩ := erases_split her.symm
    have hfi' : FitL (env 7) (erases item') := hei.symm ▸ hfi
    have HFI := Lib.hid hfi
    have HFR := Lib.hid hfrest
    have HER := Lib.hid her'.symm
    have he := hei.symm
    have HEI := Lib.hid he
    clear hil hfr her hfrest her' hei
    obtain ⟨n0, e0, rfl, hfi_0⟩ := fitL_int hfi
    clear hfi
    obtain ⟨s1, e1, rfl, hfi_1⟩ := fitL_str hfi_0
    clear hfi_0
    obtain ⟨n2, e2, rfl, hfi_2⟩ := fitL_int hfi_1
    clear hfi_1
    obtain ⟨n3, e3, rfl, hfi_3⟩ := fitL_int hfi_2
    clear hfi_2
    obtain ⟨t4, v4, d4, e4, rfl, f4, hfi_4⟩ := fitL_row (k := 5) rfl hfi_3
    clear hfi_3
    obtain rfl := fitL_nil hfi_4
    clear hfi_4
    obtain ⟨yn0, ye0, rfl, hfi'_0⟩ := fitL_int hfi'
    clear hfi'
    obtain ⟨ys1, ye1, rfl, hfi'_1⟩ := fitL_str hfi'_0
    clear hfi'_0
    obtain ⟨yn2, ye2, rfl, hfi'_2⟩ := fitL_int hfi'_1
    clear hfi'_1
    obtain ⟨yn3, ye3, rfl, hfi'_3⟩ := fitL_int hfi'_2
    clear hfi'_2
    obtain ⟨yt4, yv4, yd4, ye4, rfl, yf4, hfi'_4⟩ := fitL_row (k := 5) rfl hfi'_3
    clear hfi'_3
    obtain rfl := fitL_nil hfi'_4
    clear hfi'_4
    simp only [erases, erase, List.cons.injEq, P.int.injEq, P.str.injEq, P.row.injEq, true_and,  and_true] at he
    obtain ⟨g0, g1, g2, g3, g4⟩ := he
    subst g0
    subst g1
    subst g2
    subst g3
    have p0 := cell_keep hbw (row_at0 HC1.out HD.out HAL.out (D.int n0) rfl)
    have q0 := cell_keep hbw (row_at0 HC2.out HD'.out HAL'.out (D.int n0) rfl)
    simp only [val] at p0 q0
    have p1 := cell_keep hbw (row_at HC1.out HD.out HAL.out 1 (D.str s1) rfl)
    have q1 := cell_keep hbw (row_at HC2.out HD'.out HAL'.out 1 (D.str s1) rfl)
    simp only [val] at p1 q1
    have p2 := cell_keep hbw (row_at HC1.out HD.out HAL.out 2 (D.int n2) rfl)
    have q2 := cell_keep hbw (row_at HC2.out HD'.out HAL'.out 2 (D.int n2) rfl)
    simp only [val] at p2 q2
    have p3 := cell_keep hbw (row_at HC1.out HD.out HAL.out 3 (D.int n3) rfl)
    have q3 := cell_keep hbw (row_at HC2.out HD'.out HAL'.out 3 (D.int n3) rfl)
    simp only [val] at p3 q3
    have p4 := cell_keep hbw (row_at HC1.out HD.out HAL.out 4 (D.row t4 5 v4 d4) rfl)
    have q4 := cell_keep hbw (row_at HC2.out HD'.out HAL'.out 4 (D.row yt4 5 yv4 yd4) rfl)
    simp only [val] at p4 q4
    have hit : Holdss lo1 w [D.int n0, D.str s1, D.int n2, D.int n3, D.row t4 5 v4 d4] := (Holdss.append.1 ((Holdss.append.1 (HD.out ▸ HDS.out)).2)).1
    have hit' : Holdss lo2 w [D.int n0, D.str s1, D.int n2, D.int n3, D.row yt4 5 yv4 yd4] := (Holdss.append.1 ((Holdss.append.1 (HD'.out ▸ HES.out)).2)).1
    have KI := fun (w' : World) (hb : Below w.heap.size w w') => Lib.hid (KT lo1 lo2 w' [D.int n0, D.str s1, D.int n2, D.int n3, D.row t4 5 v4 d4] [D.int n0, D.str s1, D.int n2, D.int n3, D.row yt4 5 yv4 yd4] (by have h1 := hm; rw [HD.out, erases_append, erases_append, masses_append, masses_append] at h1; omega) HEI.out HFI.out (hit.below hb) (hit'.below hb))
    have HD2 : Hid (ds = (A ++ [D.int n0, D.str s1, D.int n2, D.int n3, D.row t4 5 v4 d4]) ++ rest) := Lib.hid (by rw [HD.out, List.append_assoc])
    have HE2 : Hid (es = (A' ++ [D.int n0, D.str s1, D.int n2, D.int n3, D.row yt4 5 yv4 yd4]) ++ rest') := Lib.hid (by rw [HD'.out, List.append_assoc])
    have HAL2 : Hid ((A ++ [D.int n0, D.str s1, D.int n2, D.int n3, D.row t4 5 v4 d4]).length = (i + 1) * 5) := Lib.hid (by rw [List.length_append, HAL.out, Nat.succ_mul]; rfl)
    have HAL3 : Hid ((A' ++ [D.int n0, D.str s1, D.int n2, D.int n3, D.row yt4 5 yv4 yd4]).length = (i + 1) * 5) := Lib.hid (by rw [List.length_append, HAL'.out, Nat.succ_mul]; rfl)
    have HB := Lib.hid hbw
    clear hit hit' hbw HFI HEI HD HD' HAL HAL' f4 yf4 g4
    simp only [agg, vals, List.map, val] at KI
    go_wp2_with fail
    go_region_held3 (fun w' => w'.cell? ⟨bk1, o1 + i * 5, none⟩ = some (Value.int .i64 n0) ∧ w'.cell? ⟨bk1, o1 + i * 5 + 1, none⟩ = some (Value.string s1) ∧ w'.cell? ⟨bk1, o1 + i * 5 + 2, none⟩ = some (Value.int .i64 n2) ∧ w'.cell? ⟨bk1, o1 + i * 5 + 3, none⟩ = some (Value.int .i64 n3) ∧ w'.cell? ⟨bk1, o1 + i * 5 + 4, none⟩ = some v4 ∧ w'.cell? ⟨bk2, o2 + i * 5, none⟩ = some (Value.int .i64 n0) ∧ w'.cell? ⟨bk2, o2 + i * 5 + 1, none⟩ = some (Value.string s1) ∧ w'.cell? ⟨bk2, o2 + i * 5 + 2, none⟩ = some (Value.int .i64 n2) ∧ w'.cell? ⟨bk2, o2 + i * 5 + 3, none⟩ = some (Value.int .i64 n3) ∧ w'.cell? ⟨bk2, o2 + i * 5 + 4, none⟩ = some yv4)
      (first | exact ⟨p0, p1, p2, p3, p4, q0, q1, q2, q3, q4⟩ | exact ⟨cell_keep hb1 (show wr.drew.cell? _ = _ from p0), cell_keep hb1 (show wr.drew.cell? _ = _ from p1), cell_keep hb1 (show wr.drew.cell? _ = _ from p2), cell_keep hb1 (show wr.drew.cell? _ = _ from p3), cell_keep hb1 (show wr.drew.cell? _ = _ from p4), cell_keep hb1 (show wr.drew.cell? _ = _ from q0), cell_keep hb1 (show wr.drew.cell? _ = _ from q1), cell_keep hb1 (show wr.drew.cell? _ = _ from q2), cell_keep hb1 (show wr.drew.cell? _ = _ from q3), cell_keep hb1 (show wr.drew.cell? _ = _ from q4)⟩ | go_keep)
      (first | (go_at_call 51; refine (KI _ HB.out.drew).out.mono ?_; rintro e w1 ⟨rfl, hb1⟩))
    all_goals go_wp2_with fail
    go_roundw
    case rel => exact ⟨i + 1, A ++ [D.int n0, D.str s1, D.int n2, D.int n3, D.row t4 5 v4 d4], rest, A' ++ [D.int n0, D.str s1, D.int n2, D.int n3, D.row yt4 5 yv4 yd4], rest', HD2.out, HE2.out, HAL2.out, HAL3.out, HFR.out, HER.out, by go_num, HB.out.drew.trans (hb1.mono HB.out.size)⟩
    case measure => simp [intOf]; omega
theorem eqS_Core_all (NN : Nat) : ∀ (lo1 lo2 t1 t2 : Nat) (w : World) (v1 v2 : Value) (ds es : List D), masses (erases ds) < NN → erases ds = erases es → FitRow 7 (erases ds) → Holds lo1 w (.row t1 5 v1 ds) → Holds lo2 w (.row t2 5 v2 es) → Calls Tryz.prog 79 #[v1, v2] w fun r w' => r = .returned (.bool true) ∧ Below w.heap.size w w' := by
  induction NN with
  | zero => intro _ _ _ _ _ _ _ _ _ h; omega
  | succ NN ih =>
    intro lo1 lo2 t1 t2 w v1 v2 ds es hm he hf hh hk
    exact eqS_Core_of NN (fun lo1 lo2 w ds es hm he hf hh hk => eq_Core_of NN ih lo1 lo2 w ds es hm he hf hh hk) lo1 lo2 t1 t2 w v1 v2 ds es (by omega) he hf hh hk
theorem eqS_Core (lo1 lo2 t1 t2 : Nat) (w : World) (v1 v2 : Value) (ds es : List D) (he : erases ds = erases es) (hf : FitRow 7 (erases ds)) (hh : Holds lo1 w (.row t1 5 v1 ds)) (hk : Holds lo2 w (.row t2 5 v2 es)) :
    Calls Tryz.prog 79 #[v1, v2] w fun r w' => r = .returned (.bool true) ∧ Below w.heap.size w w' := eqS_Core_all _ lo1 lo2 t1 t2 w v1 v2 ds es (Nat.lt_succ_self _) he hf hh hk
theorem eq_Core (lo1 lo2 : Nat) (w : World) (ds es : List D) (he : erases ds = erases es) (hf : FitL (env 7) (erases ds)) (hh : Holdss lo1 w ds) (hk : Holdss lo2 w es) :
    Calls Tryz.prog 51 #[agg ds, agg es] w fun r w' => r = .returned (.bool true) ∧ Below w.heap.size w w' := eq_Core_of _ (eqS_Core_all _) lo1 lo2 w ds es (Nat.le_refl _) he hf hh hk
end Go.Proofs.YtekeondbbikkpaaGreat.Data

namespace Go.Proofs.YtekeondbbikkpaaGreat.Data
open Go.RowKit
open Strs Tree Texts
set_option maxRecDepth 10000 in
set_option maxHeartbeats 4000000 in
theorem eq_Routine (lo1 lo2 : Nat) (w : World) (ds es : List D) (he : erases ds = erases es) (hf : FitL (env 8) (erases ds)) (hh : Holdss lo1 w ds) (hk : Holdss lo2 w es) :
    Calls Tryz.prog 27 #[agg ds, agg es] w fun r w' => r = .returned (.bool true) ∧ Below w.heap.size w w' := by
  have hg : FitL (env 8) (erases es) := he ▸ hf
  obtain ⟨s0, e0, rfl, hf_0⟩ := fitL_str hf
  clear hf
  obtain ⟨n1, e1, rfl, hf_1⟩ := fitL_int hf_0
  clear hf_0
  obtain ⟨x2, e2, rfl, hf_2⟩ := fitL_bool hf_1
  clear hf_1
  obtain ⟨n3, e3, rfl, hf_3⟩ := fitL_int hf_2
  clear hf_2
  obtain ⟨n4, e4, rfl, hf_4⟩ := fitL_int hf_3
  clear hf_3
  obtain ⟨n5, e5, rfl, hf_5⟩ := fitL_int hf_4
  clear hf_4
  obtain ⟨s6, e6, rfl, hf_6⟩ := fitL_str hf_5
  clear hf_5
  obtain ⟨n7, e7, rfl, hf_7⟩ := fitL_int hf_6
  clear hf_6
  obtain ⟨n8, e8, rfl, hf_8⟩ := fitL_int hf_7
  clear hf_7
  obtain ⟨t9, v9, d9, e9, rfl, f9, hf_9⟩ := fitL_row (k := 5) rfl hf_8
  clear hf_8
  obtain rfl := fitL_nil hf_9
  clear hf_9
  obtain ⟨ys0, ye0, rfl, hg_0⟩ := fitL_str hg
  clear hg
  obtain ⟨yn1, ye1, rfl, hg_1⟩ := fitL_int hg_0
  clear hg_0
  obtain ⟨yx2, ye2, rfl, hg_2⟩ := fitL_bool hg_1
  clear hg_1
  obtain ⟨yn3, ye3, rfl, hg_3⟩ := fitL_int hg_2
  clear hg_2
  obtain ⟨yn4, ye4, rfl, hg_4⟩ := fitL_int hg_3
  clear hg_3
  obtain ⟨yn5, ye5, rfl, hg_5⟩ := fitL_int hg_4
  clear hg_4
  obtain ⟨ys6, ye6, rfl, hg_6⟩ := fitL_str hg_5
  clear hg_5
  obtain ⟨yn7, ye7, rfl, hg_7⟩ := fitL_int hg_6
  clear hg_6
  obtain ⟨yn8, ye8, rfl, hg_8⟩ := fitL_int hg_7
  clear hg_7
  obtain ⟨yt9, yv9, yd9, ye9, rfl, yf9, hg_9⟩ := fitL_row (k := 5) rfl hg_8
  clear hg_8
  obtain rfl := fitL_nil hg_9
  clear hg_9
  simp only [erases, erase, List.cons.injEq, P.int.injEq, P.str.injEq, P.bool.injEq, P.row.injEq, true_and,  and_true] at he
  obtain ⟨g0, g1, g2, g3, g4, g5, g6, g7, g8, g9⟩ := he
  subst g0
  subst g1
  subst g2
  subst g3
  subst g4
  subst g5
  subst g6
  subst g7
  subst g8
  simp only [Holdss, and_true] at hh
  obtain ⟨h0, h1, h2, h3, h4, h5, h6, h7, h8, h9⟩ := hh
  simp only [Holdss, and_true] at hk
  obtain ⟨k0, k1, k2, k3, k4, k5, k6, k7, k8, k9⟩ := hk
  have K5 := fun (w' : World) (hb : Below w.heap.size w w') => Lib.hid (eq_Core lo1 lo2 w' [D.int n5, D.str s6, D.int n7, D.int n8, D.row t9 5 v9 d9] [D.int n5, D.str s6, D.int n7, D.int n8, D.row yt9 5 yv9 yd9] (by simp only [erases, erase, g9]) (FitL.cons _ _ _ _ (Fit.int _) (FitL.cons _ _ _ _ (Fit.str _) (FitL.cons _ _ _ _ (Fit.int _) (FitL.cons _ _ _ _ (Fit.int _) (FitL.cons _ _ _ _ (Fit.row _ _ _ rfl f9) FitL.nil))))) (Holdss.below ⟨h5, h6, h7, h8, h9, trivial⟩ hb) (Holdss.below ⟨k5, k6, k7, k8, k9, trivial⟩ hb))
  clear h0 k0
  clear h1 k1
  clear h2 k2
  clear h3 k3
  clear h4 k4
  clear h5 k5
  clear h6 k6
  clear h7 k7
  clear h8 k8
  clear h9 k9 f9 yf9 g9
  have B0 : Hid (Below w.heap.size w ((w.alloc (Obj.cells #[Value.string s0, Value.int .i64 n1, Value.bool x2, Value.int .i64 n3, Value.int .i64 n4, Value.int .i64 n5, Value.string s6, Value.int .i64 n7, Value.int .i64 n8, v9] 39)).alloc (Obj.cells #[Value.string s0, Value.int .i64 n1, Value.bool x2, Value.int .i64 n3, Value.int .i64 n4, Value.int .i64 n5, Value.string s6, Value.int .i64 n7, Value.int .i64 n8, yv9] 39))) := Lib.hid (((Below.refl _ _).alloc (Nat.le_refl _) _).alloc (by simp) _)
  have X0 : Hid (Cells w.heap.size [D.str s0, D.int n1, D.bool x2, D.int n3, D.int n4, D.int n5, D.str s6, D.int n7, D.int n8, D.row t9 5 v9 d9] ((w.alloc (Obj.cells #[Value.string s0, Value.int .i64 n1, Value.bool x2, Value.int .i64 n3, Value.int .i64 n4, Value.int .i64 n5, Value.string s6, Value.int .i64 n7, Value.int .i64 n8, v9] 39)).alloc (Obj.cells #[Value.string s0, Value.int .i64 n1, Value.bool x2, Value.int .i64 n3, Value.int .i64 n4, Value.int .i64 n5, Value.string s6, Value.int .i64 n7, Value.int .i64 n8, yv9] 39))) := Lib.hid ((cells_new w [D.str s0, D.int n1, D.bool x2, D.int n3, D.int n4, D.int n5, D.str s6, D.int n7, D.int n8, D.row t9 5 v9 d9] _).step ((Below.refl _ _).alloc (Nat.le_refl _) _))
  have Y0 : Hid (Cells (w.heap.size + 1) [D.str s0, D.int n1, D.bool x2, D.int n3, D.int n4, D.int n5, D.str s6, D.int n7, D.int n8, D.row yt9 5 yv9 yd9] ((w.alloc (Obj.cells #[Value.string s0, Value.int .i64 n1, Value.bool x2, Value.int .i64 n3, Value.int .i64 n4, Value.int .i64 n5, Value.string s6, Value.int .i64 n7, Value.int .i64 n8, v9] 39)).alloc (Obj.cells #[Value.string s0, Value.int .i64 n1, Value.bool x2, Value.int .i64 n3, Value.int .i64 n4, Value.int .i64 n5, Value.string s6, Value.int .i64 n7, Value.int .i64 n8, yv9] 39))) := Lib.hid (by have h := cells_new (w.alloc (Obj.cells #[Value.string s0, Value.int .i64 n1, Value.bool x2, Value.int .i64 n3, Value.int .i64 n4, Value.int .i64 n5, Value.string s6, Value.int .i64 n7, Value.int .i64 n8, v9] 39)) [D.str s0, D.int n1, D.bool x2, D.int n3, D.int n4, D.int n5, D.str s6, D.int n7, D.int n8, D.row yt9 5 yv9 yd9] 39; rw [show (w.alloc (Obj.cells #[Value.string s0, Value.int .i64 n1, Value.bool x2, Value.int .i64 n3, Value.int .i64 n4, Value.int .i64 n5, Value.string s6, Value.int .i64 n7, Value.int .i64 n8, v9] 39)).heap.size = w.heap.size + 1 by simp] at h; exact h)
  rw [show agg [D.str s0, D.int n1, D.bool x2, D.int n3, D.int n4, D.int n5, D.str s6, D.int n7, D.int n8, D.row t9 5 v9 d9] = Value.agg #[Value.string s0, Value.int .i64 n1, Value.bool x2, Value.int .i64 n3, Value.int .i64 n4, Value.int .i64 n5, Value.string s6, Value.int .i64 n7, Value.int .i64 n8, v9] from rfl, show agg [D.str s0, D.int n1, D.bool x2, D.int n3, D.int n4, D.int n5, D.str s6, D.int n7, D.int n8, D.row yt9 5 yv9 yd9] = Value.agg #[Value.string s0, Value.int .i64 n1, Value.bool x2, Value.int .i64 n3, Value.int .i64 n4, Value.int .i64 n5, Value.string s6, Value.int .i64 n7, Value.int .i64 n8, yv9] from rfl]
  go_enter Tryz.func27, Tryz.ntmps27
  have a5 := X0.out.at 5 (D.int n5) rfl
  have b5 := Y0.out.at 5 (D.int n5) rfl
  simp only [val] at a5 b5
  have a6 := X0.out.at 6 (D.str s6) rfl
  have b6 := Y0.out.at 6 (D.str s6) rfl
  simp only [val] at a6 b6
  have a7 := X0.out.at 7 (D.int n7) rfl
  have b7 := Y0.out.at 7 (D.int n7) rfl
  simp only [val] at a7 b7
  have a8 := X0.out.at 8 (D.int n8) rfl
  have b8 := Y0.out.at 8 (D.int n8) rfl
  simp only [val] at a8 b8
  have a9 := X0.out.at 9 (D.row t9 5 v9 d9) rfl
  have b9 := Y0.out.at 9 (D.row yt9 5 yv9 yd9) rfl
  simp only [val] at a9 b9
  go_wp2_with fail
  refine (K5 _ B0.out).out.mono ?_
  rintro e w1 ⟨rfl, hb1⟩
  have B1 := Lib.hid (B0.out.trans (hb1.mono B0.out.size))
  have X1 := Lib.hid (X0.out.step hb1)
  have Y1 := Lib.hid (Y0.out.step hb1)
  clear hb1 K5 B0 X0 Y0 a5 b5 a6 b6 a7 b7 a8 b8 a9 b9
  go_wp2_with fail
  go_ret
  exact ⟨rfl, B1.out⟩
set_option maxRecDepth 10000 in
set_option maxHeartbeats 8000000 in
theorem eqS_Routine (lo1 lo2 t1 t2 : Nat) (w : World) (v1 v2 : Value) (ds es : List D) (he : erases ds = erases es) (hf : FitRow 8 (erases ds)) (hh : Holds lo1 w (.row t1 10 v1 ds)) (hk : Holds lo2 w (.row t2 10 v2 es)) :
    Calls Tryz.prog 26 #[v1, v2] w fun r w' => r = .returned (.bool true) ∧ Below w.heap.size w w' := by
  rw [Holds] at hh hk
  obtain ⟨⟨a1, n, cap1, rfl, -, hn, hnc1, hcm1, hc1⟩, hds⟩ := hh
  obtain ⟨⟨a2, n2, cap2, rfl, -, hn2, hnc2, hcm2, hc2⟩, hes⟩ := hk
  unfold maxLen at hcm1 hcm2
  have hl := congrArg List.length he
  rw [erases_len, erases_len] at hl
  have hnn : n2 = n := by omega
  subst hnn
  have HN := Lib.hid hn
  have HN2 := Lib.hid hn2
  have HF := Lib.hid hf
  have HE := Lib.hid he
  have HDS := Lib.hid hds
  have HES := Lib.hid hes
  clear hn hn2 hf he hl hds hes
  by_cases hp : 0 < n2
  rotate_left
  · have hn0 : n2 = 0 := by omega
    subst hn0
    clear hc1 hc2 HN HN2 HF HE HDS HES
    go_enter Tryz.func26, Tryz.ntmps26
    go_wp2_with fail
    refine wp_loop_rounds 1 ?_
    rw [rounds_succ]
    go_wp2_with fail
    go_ret
    exact ⟨rfl, Below.refl _ _⟩
  obtain ⟨bk1, o1, rfl, hp1, hc1⟩ := hc1 hp
  obtain ⟨bk2, o2, rfl, hp2, hc2⟩ := hc2 hp
  have HC1 := Lib.hid hc1
  have HC2 := Lib.hid hc2
  clear hc1 hc2 hp1 hp2
  go_enter Tryz.func26, Tryz.ntmps26
  go_wp2_with fail
  go_loopw [5] (fun j wr => ∃ (i : Nat) (A R A' R' : List D), ds = A ++ R ∧ es = A' ++ R' ∧ A.length = i * 10 ∧ A'.length = i * 10 ∧ FitRow 8 (erases R) ∧ erases R = erases R' ∧ j = .int .i64 i ∧ Below w.heap.size w wr) (fun j _ => n2 - (intOf j).toNat)
  case atStart => exact ⟨0, [], ds, [], es, rfl, rfl, by simp, by simp, HF.out, HE.out, rfl, Below.refl _ _⟩
  case round =>
    obtain ⟨i, A, R, A', R', hds, hes, hal, hal', hfr, her, rfl, hbw⟩ := hrel
    have HD := Lib.hid hds
    have HD' := Lib.hid hes
    have HAL := Lib.hid hal
    have HAL' := Lib.hid hal'
    clear hds hes hal hal'
    rcases fitRow_cases hfr with rfl | ⟨item, rest, rfl, hfi, hfrest⟩
    · have hin : i = n2 := by
        have h1 := HN.out
        rw [HD.out, List.append_nil, HAL.out] at h1
        omega
      subst hin
      clear hfr her
      go_wp2_with fail
      go_ret
      exact ⟨rfl, hbw⟩
    have hil : item.length = 10 := by have := fitL_len hfi; rw [erases_len] at this; exact this
    have hlt : i < n2 := by
      have h1 := HN.out
      rw [HD.out, List.length_append, List.length_append, HAL.out, hil] at h1
      omega
    rw [erases_append] at her
    obtain ⟨item', rest', rfl, hei, her'⟩ := erases_split her.symm
    have hfi' : FitL (env 8) (erases item') := hei.symm ▸ hfi
    have HFI := Lib.hid hfi
    have HFR := Lib.hid hfrest
    have HER := Lib.hid her'.symm
    have he := hei.symm
    have HEI := Lib.hid he
    clear hil hfr her hfrest her' hei
    obtain ⟨s0, e0, rfl, hfi_0⟩ := fitL_str hfi
    clear hfi
    obtain ⟨n1, e1, rfl, hfi_1⟩ := fitL_int hfi_0
    clear hfi_0
    obtain ⟨x2, e2, rfl, hfi_2⟩ := fitL_bool hfi_1
    clear hfi_1
    obtain ⟨n3, e3, rfl, hfi_3⟩ := fitL_int hfi_2
    clear hfi_2
    obtain ⟨n4, e4, rfl, hfi_4⟩ := fitL_int hfi_3
    clear hfi_3
    obtain ⟨n5, e5, rfl, hfi_5⟩ := fitL_int hfi_4
    clear hfi_4
    obtain ⟨s6, e6, rfl, hfi_6⟩ := fitL_str hfi_5
    clear hfi_5
    obtain ⟨n7, e7, rfl, hfi_7⟩ := fitL_int hfi_6
    clear hfi_6
    obtain ⟨n8, e8, rfl, hfi_8⟩ := fitL_int hfi_7
    clear hfi_7
    obtain ⟨t9, v9, d9, e9, rfl, f9, hfi_9⟩ := fitL_row (k := 5) rfl hfi_8
    clear hfi_8
    obtain rfl := fitL_nil hfi_9
    clear hfi_9
    obtain ⟨ys0, ye0, rfl, hfi'_0⟩ := fitL_str hfi'
    clear hfi'
    obtain ⟨yn1, ye1, rfl, hfi'_1⟩ := fitL_int hfi'_0
    clear hfi'_0
    obtain ⟨yx2, ye2, rfl, hfi'_2⟩ := fitL_bool hfi'_1
    clear hfi'_1
    obtain ⟨yn3, ye3, rfl, hfi'_3⟩ := fitL_int hfi'_2
    clear hfi'_2
    obtain ⟨yn4, ye4, rfl, hfi'_4⟩ := fitL_int hfi'_3
    clear hfi'_3
    obtain ⟨yn5, ye5, rfl, hfi'_5⟩ := fitL_int hfi'_4
    clear hfi'_4
    obtain ⟨ys6, ye6, rfl, hfi'_6⟩ := fitL_str hfi'_5
    clear hfi'_5
    obtain ⟨yn7, ye7, rfl, hfi'_7⟩ := fitL_int hfi'_6
    clear hfi'_6
    obtain ⟨yn8, ye8, rfl, hfi'_8⟩ := fitL_int hfi'_7
    clear hfi'_7
    obtain ⟨yt9, yv9, yd9, ye9, rfl, yf9, hfi'_9⟩ := fitL_row (k := 5) rfl hfi'_8
    clear hfi'_8
    obtain rfl := fitL_nil hfi'_9
    clear hfi'_9
    simp only [erases, erase, List.cons.injEq, P.int.injEq, P.str.injEq, P.bool.injEq, P.row.injEq, true_and,  and_true] at he
    obtain ⟨g0, g1, g2, g3, g4, g5, g6, g7, g8, g9⟩ := he
    subst g0
    subst g1
    subst g2
    subst g3
    subst g4
    subst g5
    subst g6
    subst g7
    subst g8
    have p0 := cell_keep hbw (row_at0 HC1.out HD.out HAL.out (D.str s0) rfl)
    have q0 := cell_keep hbw (row_at0 HC2.out HD'.out HAL'.out (D.str s0) rfl)
    simp only [val] at p0 q0
    have p1 := cell_keep hbw (row_at HC1.out HD.out HAL.out 1 (D.int n1) rfl)
    have q1 := cell_keep hbw (row_at HC2.out HD'.out HAL'.out 1 (D.int n1) rfl)
    simp only [val] at p1 q1
    have p2 := cell_keep hbw (row_at HC1.out HD.out HAL.out 2 (D.bool x2) rfl)
    have q2 := cell_keep hbw (row_at HC2.out HD'.out HAL'.out 2 (D.bool x2) rfl)
    simp only [val] at p2 q2
    have p3 := cell_keep hbw (row_at HC1.out HD.out HAL.out 3 (D.int n3) rfl)
    have q3 := cell_keep hbw (row_at HC2.out HD'.out HAL'.out 3 (D.int n3) rfl)
    simp only [val] at p3 q3
    have p4 := cell_keep hbw (row_at HC1.out HD.out HAL.out 4 (D.int n4) rfl)
    have q4 := cell_keep hbw (row_at HC2.out HD'.out HAL'.out 4 (D.int n4) rfl)
    simp only [val] at p4 q4
    have p5 := cell_keep hbw (row_at HC1.out HD.out HAL.out 5 (D.int n5) rfl)
    have q5 := cell_keep hbw (row_at HC2.out HD'.out HAL'.out 5 (D.int n5) rfl)
    simp only [val] at p5 q5
    have p6 := cell_keep hbw (row_at HC1.out HD.out HAL.out 6 (D.str s6) rfl)
    have q6 := cell_keep hbw (row_at HC2.out HD'.out HAL'.out 6 (D.str s6) rfl)
    simp only [val] at p6 q6
    have p7 := cell_keep hbw (row_at HC1.out HD.out HAL.out 7 (D.int n7) rfl)
    have q7 := cell_keep hbw (row_at HC2.out HD'.out HAL'.out 7 (D.int n7) rfl)
    simp only [val] at p7 q7
    have p8 := cell_keep hbw (row_at HC1.out HD.out HAL.out 8 (D.int n8) rfl)
    have q8 := cell_keep hbw (row_at HC2.out HD'.out HAL'.out 8 (D.int n8) rfl)
    simp only [val] at p8 q8
    have p9 := cell_keep hbw (row_at HC1.out HD.out HAL.out 9 (D.row t9 5 v9 d9) rfl)
    have q9 := cell_keep hbw (row_at HC2.out HD'.out HAL'.out 9 (D.row yt9 5 yv9 yd9) rfl)
    simp only [val] at p9 q9
    have hit : Holdss lo1 w [D.str s0, D.int n1, D.bool x2, D.int n3, D.int n4, D.int n5, D.str s6, D.int n7, D.int n8, D.row t9 5 v9 d9] := (Holdss.append.1 ((Holdss.append.1 (HD.out ▸ HDS.out)).2)).1
    have hit' : Holdss lo2 w [D.str s0, D.int n1, D.bool x2, D.int n3, D.int n4, D.int n5, D.str s6, D.int n7, D.int n8, D.row yt9 5 yv9 yd9] := (Holdss.append.1 ((Holdss.append.1 (HD'.out ▸ HES.out)).2)).1
    have KI := fun (w' : World) (hb : Below w.heap.size w w') => Lib.hid (eq_Routine lo1 lo2 w' [D.str s0, D.int n1, D.bool x2, D.int n3, D.int n4, D.int n5, D.str s6, D.int n7, D.int n8, D.row t9 5 v9 d9] [D.str s0, D.int n1, D.bool x2, D.int n3, D.int n4, D.int n5, D.str s6, D.int n7, D.int n8, D.row yt9 5 yv9 yd9] HEI.out HFI.out (hit.below hb) (hit'.below hb))
    have HD2 : Hid (ds = (A ++ [D.str s0, D.int n1, D.bool x2, D.int n3, D.int n4, D.int n5, D.str s6, D.int n7, D.int n8, D.row t9 5 v9 d9]) ++ rest) := Lib.hid (by rw [HD.out, List.append_assoc])
    have HE2 : Hid (es = (A' ++ [D.str s0, D.int n1, D.bool x2, D.int n3, D.int n4, D.int n5, D.str s6, D.int n7, D.int n8, D.row yt9 5 yv9 yd9]) ++ rest') := Lib.hid (by rw [HD'.out, List.append_assoc])
    have HAL2 : Hid ((A ++ [D.str s0, D.int n1, D.bool x2, D.int n3, D.int n4, D.int n5, D.str s6, D.int n7, D.int n8, D.row t9 5 v9 d9]).length = (i + 1) * 10) := Lib.hid (by rw [List.length_append, HAL.out, Nat.succ_mul]; rfl)
    have HAL3 : Hid ((A' ++ [D.str s0, D.int n1, D.bool x2, D.int n3, D.int n4, D.int n5, D.str s6, D.int n7, D.int n8, D.row yt9 5 yv9 yd9]).length = (i + 1) * 10) := Lib.hid (by rw [List.length_append, HAL'.out, Nat.succ_mul]; rfl)
    have HB := Lib.hid hbw
    clear hit hit' hbw HFI HEI HD HD' HAL HAL' f9 yf9 g9
    simp only [agg, vals, List.map, val] at KI
    go_wp2_with fail
    go_region_held3 (fun w' => w'.cell? ⟨bk1, o1 + i * 10, none⟩ = some (Value.string s0) ∧ w'.cell? ⟨bk1, o1 + i * 10 + 1, none⟩ = some (Value.int .i64 n1) ∧ w'.cell? ⟨bk1, o1 + i * 10 + 2, none⟩ = some (Value.bool x2) ∧ w'.cell? ⟨bk1, o1 + i * 10 + 3, none⟩ = some (Value.int .i64 n3) ∧ w'.cell? ⟨bk1, o1 + i * 10 + 4, none⟩ = some (Value.int .i64 n4) ∧ w'.cell? ⟨bk1, o1 + i * 10 + 5, none⟩ = some (Value.int .i64 n5) ∧ w'.cell? ⟨bk1, o1 + i * 10 + 6, none⟩ = some (Value.string s6) ∧ w'.cell? ⟨bk1, o1 + i * 10 + 7, none⟩ = some (Value.int .i64 n7) ∧ w'.cell? ⟨bk1, o1 + i * 10 + 8, none⟩ = some (Value.int .i64 n8) ∧ w'.cell? ⟨bk1, o1 + i * 10 + 9, none⟩ = some v9 ∧ w'.cell? ⟨bk2, o2 + i * 10, none⟩ = some (Value.string s0) ∧ w'.cell? ⟨bk2, o2 + i * 10 + 1, none⟩ = some (Value.int .i64 n1) ∧ w'.cell? ⟨bk2, o2 + i * 10 + 2, none⟩ = some (Value.bool x2) ∧ w'.cell? ⟨bk2, o2 + i * 10 + 3, none⟩ = some (Value.int .i64 n3) ∧ w'.cell? ⟨bk2, o2 + i * 10 + 4, none⟩ = some (Value.int .i64 n4) ∧ w'.cell? ⟨bk2, o2 + i * 10 + 5, none⟩ = some (Value.int .i64 n5) ∧ w'.cell? ⟨bk2, o2 + i * 10 + 6, none⟩ = some (Value.string s6) ∧ w'.cell? ⟨bk2, o2 + i * 10 + 7, none⟩ = some (Value.int .i64 n7) ∧ w'.cell? ⟨bk2, o2 + i * 10 + 8, none⟩ = some (Value.int .i64 n8) ∧ w'.cell? ⟨bk2, o2 + i * 10 + 9, none⟩ = some yv9)
      (first | exact ⟨p0, p1, p2, p3, p4, p5, p6, p7, p8, p9, q0, q1, q2, q3, q4, q5, q6, q7, q8, q9⟩ | exact ⟨cell_keep hb1 (show wr.drew.cell? _ = _ from p0), cell_keep hb1 (show wr.drew.cell? _ = _ from p1), cell_keep hb1 (show wr.drew.cell? _ = _ from p2), cell_keep hb1 (show wr.drew.cell? _ = _ from p3), cell_keep hb1 (show wr.drew.cell? _ = _ from p4), cell_keep hb1 (show wr.drew.cell? _ = _ from p5), cell_keep hb1 (show wr.drew.cell? _ = _ from p6), cell_keep hb1 (show wr.drew.cell? _ = _ from p7), cell_keep hb1 (show wr.drew.cell? _ = _ from p8), cell_keep hb1 (show wr.drew.cell? _ = _ from p9), cell_keep hb1 (show wr.drew.cell? _ = _ from q0), cell_keep hb1 (show wr.drew.cell? _ = _ from q1), cell_keep hb1 (show wr.drew.cell? _ = _ from q2), cell_keep hb1 (show wr.drew.cell? _ = _ from q3), cell_keep hb1 (show wr.drew.cell? _ = _ from q4), cell_keep hb1 (show wr.drew.cell? _ = _ from q5), cell_keep hb1 (show wr.drew.cell? _ = _ from q6), cell_keep hb1 (show wr.drew.cell? _ = _ from q7), cell_keep hb1 (show wr.drew.cell? _ = _ from q8), cell_keep hb1 (show wr.drew.cell? _ = _ from q9)⟩ | go_keep)
      (first | (go_at_call 27; refine (KI _ HB.out.drew).out.mono ?_; rintro e w1 ⟨rfl, hb1⟩))
    all_goals go_wp2_with fail
    go_roundw
    case rel => exact ⟨i + 1, A ++ [D.str s0, D.int n1, D.bool x2, D.int n3, D.int n4, D.int n5, D.str s6, D.int n7, D.int n8, D.row t9 5 v9 d9], rest, A' ++ [D.str s0, D.int n1, D.bool x2, D.int n3, D.int n4, D.int n5, D.str s6, D.int n7, D.int n8, D.row yt9 5 yv9 yd9], rest', HD2.out, HE2.out, HAL2.out, HAL3.out, HFR.out, HER.out, by go_num, HB.out.drew.trans (hb1.mono HB.out.size)⟩
    case measure => simp [intOf]; omega
end Go.Proofs.YtekeondbbikkpaaGreat.Data
