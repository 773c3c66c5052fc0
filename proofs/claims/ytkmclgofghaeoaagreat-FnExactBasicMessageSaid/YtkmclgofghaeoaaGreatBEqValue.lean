/-
  laws.eqValue and eqValueS: two values that read alike are equal, and nothing that was there is written.
-/
import Derived.Test.YtkmclgofghaeoaaGreatBDataBox
import Derived.Test.YtkmclgofghaeoaaGreatBSzValue
namespace Go.Proofs.YtkmclgofghaeoaaGreat.Data
open Go.RowKit
open Strs Tree Texts
set_option maxRecDepth 10000 in
set_option maxHeartbeats 4000000 in
theorem eq_Value (lo1 lo2 : Nat) (w : World) (ds es : List D) (he : erases ds = erases es) (hf : FitL (env 10) (erases ds)) (hh : Holdss lo1 w ds) (hk : Holdss lo2 w es) :
    Calls Tryz.prog 22 #[agg ds, agg es] w fun r w' => r = .returned (.bool true) ∧ Below w.heap.size w w' := by
  have hg : FitL (env 10) (erases es) := he ▸ hf
  obtain ⟨n0, e0, rfl, hf_0⟩ := fitL_int hf
  clear hf
  obtain ⟨n1, e1, rfl, hf_1⟩ := fitL_int hf_0
  clear hf_0
  obtain ⟨s2, e2, rfl, hf_2⟩ := fitL_str hf_1
  clear hf_1
  obtain rfl := fitL_nil hf_2
  clear hf_2
  obtain ⟨yn0, ye0, rfl, hg_0⟩ := fitL_int hg
  clear hg
  obtain ⟨yn1, ye1, rfl, hg_1⟩ := fitL_int hg_0
  clear hg_0
  obtain ⟨ys2, ye2, rfl, hg_2⟩ := fitL_str hg_1
  clear hg_1
  obtain rfl := fitL_nil hg_2
  clear hg_2
  simp only [erases, erase, List.cons.injEq, P.int.injEq, P.str.injEq,  and_true] at he
  obtain ⟨g0, g1, g2⟩ := he
  subst g0
  subst g1
  subst g2
  simp only [Holdss, and_true] at hh
  obtain ⟨h0, h1, h2⟩ := hh
  simp only [Holdss, and_true] at hk
  obtain ⟨k0, k1, k2⟩ := hk
  clear h0 k0
  clear h1 k1
  clear h2 k2
  have B0 : Hid (Below w.heap.size w ((w.alloc (Obj.cells #[Value.int .i64 n0, Value.int .i64 n1, Value.string s2] 27)).alloc (Obj.cells #[Value.int .i64 n0, Value.int .i64 n1, Value.string s2] 27))) := Lib.hid (((Below.refl _ _).alloc (Nat.le_refl _) _).alloc (by simp) _)
  have X0 : Hid (Cells w.heap.size [D.int n0, D.int n1, D.str s2] ((w.alloc (Obj.cells #[Value.int .i64 n0, Value.int .i64 n1, Value.string s2] 27)).alloc (Obj.cells #[Value.int .i64 n0, Value.int .i64 n1, Value.string s2] 27))) := Lib.hid ((cells_new w [D.int n0, D.int n1, D.str s2] _).step ((Below.refl _ _).alloc (Nat.le_refl _) _))
  have Y0 : Hid (Cells (w.heap.size + 1) [D.int n0, D.int n1, D.str s2] ((w.alloc (Obj.cells #[Value.int .i64 n0, Value.int .i64 n1, Value.string s2] 27)).alloc (Obj.cells #[Value.int .i64 n0, Value.int .i64 n1, Value.string s2] 27))) := Lib.hid (by have h := cells_new (w.alloc (Obj.cells #[Value.int .i64 n0, Value.int .i64 n1, Value.string s2] 27)) [D.int n0, D.int n1, D.str s2] 27; rw [show (w.alloc (Obj.cells #[Value.int .i64 n0, Value.int .i64 n1, Value.string s2] 27)).heap.size = w.heap.size + 1 by simp] at h; exact h)
  rw [show agg [D.int n0, D.int n1, D.str s2] = Value.agg #[Value.int .i64 n0, Value.int .i64 n1, Value.string s2] from rfl]
  go_enter Tryz.func22, Tryz.ntmps22
  go_wp2_with fail
  go_ret
  exact ⟨rfl, B0.out⟩
set_option maxRecDepth 10000 in
set_option maxHeartbeats 8000000 in
theorem eqS_Value (lo1 lo2 t1 t2 : Nat) (w : World) (v1 v2 : Value) (ds es : List D) (he : erases ds = erases es) (hf : FitRow 10 (erases ds)) (hh : Holds lo1 w (.row t1 3 v1 ds)) (hk : Holds lo2 w (.row t2 3 v2 es)) :
    Calls Tryz.prog 11 #[v1, v2] w fun r w' => r = .returned (.bool true) ∧ Below w.heap.size w w' := by
  rw [Holds] at hh hk
  obtain ⟨⟨a1, n, cap1, rfl, -, hn, hnc1, hcm1, hc1⟩, hds⟩ := hh
  obtain ⟨⟨a2, n2, cap2, rfl, -, hn2, hnc2, hcm2, hc2⟩, hes⟩ := hk
  unfold maxLen at hcm1 hcm2
  have hl := congrArg List.length he
  rw [erases_len, erases_len] at hl
  have hnn : n2 = n := by omega
  subst hnn
  have HN := Lib.hid hn
  have HN2 := Lib.hid hn2
  have HF := Lib.hid hf
  have HE := Lib.hid he
  have HDS := Lib.hid hds
  have HES := Lib.hid hes
  clear hn hn2 hf he hl hds hes
  by_cases hp : 0 < n2
  rotate_left
  · have hn0 : n2 = 0 := by omega
    subst hn0
    clear hc1 hc2 HN HN2 HF HE HDS HES
    go_enter Tryz.func11, Tryz.ntmps11
    go_wp2_with fail
    refine wp_loop_rounds 1 ?_
    rw [rounds_succ]
    go_wp2_with fail
    go_ret
    exact ⟨rfl, Below.refl _ _⟩
  obtain ⟨bk1, o1, rfl, hp1, hc1⟩ := hc1 hp
  obtain ⟨bk2, o2, rfl, hp2, hc2⟩ := hc2 hp
  have HC1 := Lib.hid hc1
  have HC2 := Lib.hid hc2
  clear hc1 hc2 hp1 hp2
  go_enter Tryz.func11, Tryz.ntmps11
  go_wp2_with fail
  go_loopw [5] (fun j wr => ∃ (i : Nat) (A R A' R' : List D), ds = A ++ R ∧ es = A' ++ R' ∧ A.length = i * 3 ∧ A'.length = i * 3 ∧ FitRow 10 (erases R) ∧ erases R = erases R' ∧ j = .int .i64 i ∧ Below w.heap.size w wr) (fun j _ => n2 - (intOf j).toNat)
  case atStart => exact ⟨0, [], ds, [], es, rfl, rfl, by simp, by simp, HF.out, HE.out, rfl, Below.refl _ _⟩
  case round =>
    obtain ⟨i, A, R, A', R', hds, hes, hal, hal', hfr, her, rfl, hbw⟩ := hrel
    have HD := Lib.hid hds
    have HD' := Lib.hid hes
    have HAL := Lib.hid hal
    have HAL' := Lib.hid hal'
    clear hds hes hal hal'
    rcases fitRow_cases hfr with rfl | ⟨item, rest, rfl, hfi, hfrest⟩
    · have hin : i = n2 := by
        have h1 := HN.out
        rw [HD.out, List.append_nil, HAL.out] at h1
        omega
      subst hin
      clear hfr her
      go_wp2_with fail
      go_ret
      exact ⟨rfl, hbw⟩
    have hil : item.length = 3 := by have := fitL_len hfi; rw [erases_len] at this; exact this
    have hlt : i < n2 := by
      have h1 := HN.out
      rw [HD.out, List.length_append, List.length_append, HAL.out, hil] at h1
      omega
    rw [erases_append] at her
    obtain ⟨item', rest', rfl, hei, her'⟩ := erases_split her.symm
    have hfi' : FitL (env 10) (erases item') := hei.symm ▸ hfi
    have HFI := Lib.hid hfi
    have HFR := Lib.hid hfrest
    have HER := Lib.hid her'.symm
    have he := hei.symm
    have HEI := Lib.hid he
    clear hil hfr her hfrest her' hei
    obtain ⟨n0, e0, rfl, hfi_0⟩ := fitL_int hfi
    clear hfi
    obtain ⟨n1, e1, rfl, hfi_1⟩ := fitL_int hfi_0
    clear hfi_0
    obtain ⟨s2, e2, rfl, hfi_2⟩ := fitL_str hfi_1
    clear hfi_1
    obtain rfl := fitL_nil hfi_2
    clear hfi_2
    obtain ⟨yn0, ye0, rfl, hfi'_0⟩ := fitL_int hfi'
    clear hfi'
    obtain ⟨yn1, ye1, rfl, hfi'_1⟩ := fitL_int hfi'_0
    clear hfi'_0
    obtain ⟨ys2, ye2, rfl, hfi'_2⟩ := fitL_str hfi'_1
    clear hfi'_1
    obtain rfl := fitL_nil hfi'_2
    clear hfi'_2
    simp only [erases, erase, List.cons.injEq, P.int.injEq, P.str.injEq,  and_true] at he
    obtain ⟨g0, g1, g2⟩ := he
    subst g0
    subst g1
    subst g2
    have p0 := cell_keep hbw (row_at0 HC1.out HD.out HAL.out (D.int n0) rfl)
    have q0 := cell_keep hbw (row_at0 HC2.out HD'.out HAL'.out (D.int n0) rfl)
    simp only [val] at p0 q0
    have p1 := cell_keep hbw (row_at HC1.out HD.out HAL.out 1 (D.int n1) rfl)
    have q1 := cell_keep hbw (row_at HC2.out HD'.out HAL'.out 1 (D.int n1) rfl)
    simp only [val] at p1 q1
    have p2 := cell_keep hbw (row_at HC1.out HD.out HAL.out 2 (D.str s2) rfl)
    have q2 := cell_keep hbw (row_at HC2.out HD'.out HAL'.out 2 (D.str s2) rfl)
    simp only [val] at p2 q2
    have hit : Holdss lo1 w [D.int n0, D.int n1, D.str s2] := (Holdss.append.1 ((Holdss.append.1 (HD.out ▸ HDS.out)).2)).1
    have hit' : Holdss lo2 w [D.int n0, D.int n1, D.str s2] := (Holdss.append.1 ((Holdss.append.1 (HD'.out ▸ HES.out)).2)).1
    have KI := fun (w' : World) (hb : Below w.heap.size w w') => Lib.hid (eq_Value lo1 lo2 w' [D.int n0, D.int n1, D.str s2] [D.int n0, D.int n1, D.str s2] HEI.out HFI.out (hit.below hb) (hit'.below hb))
    have HD2 : Hid (ds = (A ++ [D.int n0, D.int n1, D.str s2]) ++ rest) := Lib.hid (by rw [HD.out, List.append_assoc])
    have HE2 : Hid (es = (A' ++ [D.int n0, D.int n1, D.str s2]) ++ rest') := Lib.hid (by rw [HD'.out, List.append_assoc])
    have HAL2 : Hid ((A ++ [D.int n0, D.int n1, D.str s2]).length = (i + 1) * 3) := Lib.hid (by rw [List.length_append, HAL.out, Nat.succ_mul]; rfl)
    have HAL3 : Hid ((A' ++ [D.int n0, D.int n1, D.str s2]).length = (i + 1) * 3) := Lib.hid (by rw [List.length_append, HAL'.out, Nat.succ_mul]; rfl)
    have HB := Lib.hid hbw
    clear hit hit' hbw HFI HEI HD HD' HAL HAL'
    simp only [agg, vals, List.map, val] at KI
    go_wp2_with fail
    go_region_held3 (fun w' => w'.cell? ⟨bk1, o1 + i * 3, none⟩ = some (Value.int .i64 n0) ∧ w'.cell? ⟨bk1, o1 + i * 3 + 1, none⟩ = some (Value.int .i64 n1) ∧ w'.cell? ⟨bk1, o1 + i * 3 + 2, none⟩ = some (Value.string s2) ∧ w'.cell? ⟨bk2, o2 + i * 3, none⟩ = some (Value.int .i64 n0) ∧ w'.cell? ⟨bk2, o2 + i * 3 + 1, none⟩ = some (Value.int .i64 n1) ∧ w'.cell? ⟨bk2, o2 + i * 3 + 2, none⟩ = some (Value.string s2))
      (first | exact ⟨p0, p1, p2, q0, q1, q2⟩ | exact ⟨cell_keep hb1 (show wr.drew.cell? _ = _ from p0), cell_keep hb1 (show wr.drew.cell? _ = _ from p1), cell_keep hb1 (show wr.drew.cell? _ = _ from p2), cell_keep hb1 (show wr.drew.cell? _ = _ from q0), cell_keep hb1 (show wr.drew.cell? _ = _ from q1), cell_keep hb1 (show wr.drew.cell? _ = _ from q2)⟩ | go_keep)
      (first | (go_at_call 22; refine (KI _ HB.out.drew).out.mono ?_; rintro e w1 ⟨rfl, hb1⟩))
    all_goals go_wp2_with fail
    go_roundw
    case rel => exact ⟨i + 1, A ++ [D.int n0, D.int n1, D.str s2], rest, A' ++ [D.int n0, D.int n1, D.str s2], rest', HD2.out, HE2.out, HAL2.out, HAL3.out, HFR.out, HER.out, by go_num, HB.out.drew.trans (hb1.mono HB.out.size)⟩
    case measure => simp [intOf]; omega
end Go.Proofs.YtkmclgofghaeoaaGreat.Data
