/-
  Rows of texts as data: laws.szStringS, toStringS and eqStringS over them.
  laws.szValue and szValueS: what they answer, and that they write nothing that was there.
-/
import Derived.Test.YtkmclgofghaeoaaGreatBDataBox
import Derived.Test.YtkmclgofghaeoaaGreatBSpecTree2
namespace Go.Proofs.YtkmclgofghaeoaaGreat.Data
open Go.RowKit
open Strs Tree Texts
def strs (xs : List ByteArray) : List D := xs.map D.str
theorem strs_vals (xs : List ByteArray) : vals (strs xs) = xs.map Value.string := by simp [vals, strs, val, Function.comp_def]
theorem strs_len (xs : List ByteArray) : (strs xs).length = xs.length := by simp [strs]
theorem strs_erases (xs : List ByteArray) : erases (strs xs) = xs.map P.str := by
  induction xs with
  | nil => rfl
  | cons x xs ih => rw [strs, List.map_cons, erases]; show _ :: erases (strs xs) = _; rw [ih]; rfl
theorem strs_foots (xs : List ByteArray) : foots (strs xs) = [] := by
  induction xs with
  | nil => rfl
  | cons x xs ih => rw [strs, List.map_cons, foots]; show foot (.str x) ++ foots (strs xs) = _; rw [ih]; rfl
theorem strs_fit (xs : List ByteArray) : FitRow 0 (xs.map P.str) := by
  induction xs with
  | nil => exact FitRow.nil 0
  | cons x xs ih => exact FitRow.cons 0 _ [.str x] _ rfl (FitL.cons _ _ _ _ (Fit.str x) FitL.nil) ih
theorem strs_weights (xs : List ByteArray) : weights (xs.map P.str) = lens xs := by
  induction xs with
  | nil => rfl
  | cons x xs ih => rw [List.map_cons, weights, weight, lens, ih]
theorem strs_cnts (xs : List ByteArray) : cnts (xs.map P.str) = xs.length := by
  induction xs with
  | nil => rfl
  | cons x xs ih => rw [List.map_cons, cnts, cnt, ih, List.length_cons]; omega
theorem strs_of : ∀ (n : Nat) (ds : List D), ds.length ≤ n → FitRow 0 (erases ds) → ∃ xs, ds = strs xs := by
  intro n
  induction n with
  | zero => intro ds hl _; exact ⟨[], List.eq_nil_of_length_eq_zero (Nat.le_zero.1 hl)⟩
  | succ n ih =>
    intro ds hl h
    rcases fitRow_cases h with rfl | ⟨item, rest, rfl, h1, h2⟩
    · exact ⟨[], rfl⟩
    · obtain ⟨s, es, rfl, h3⟩ := fitL_str h1
      obtain rfl := fitL_nil h3
      obtain ⟨xs, rfl⟩ := ih rest (by simp at hl; omega) h2
      exact ⟨s :: xs, rfl⟩
theorem strs_get {ds : List D} (h : FitRow 0 (erases ds)) : ∃ xs, ds = strs xs := strs_of _ ds (Nat.le_refl _) h
theorem strs_goods {w : World} {xs : List ByteArray} : Goods w (strs xs) ↔ ∀ x, x ∈ xs → x.size ≤ maxLen := by
  rw [goods_iff]
  constructor
  · intro h x hx
    have := h (.str x) (by simp [strs, hx])
    rw [Good] at this
    exact this
  · intro h d hd
    simp only [strs, List.mem_map] at hd
    obtain ⟨x, hx, rfl⟩ := hd
    rw [Good]
    exact h x hx
theorem strs_texts {lo t : Nat} {w : World} {v : Value} {xs : List ByteArray} (h : Holds lo w (.row t 1 v (strs xs))) : Texts lo w xs v := by
  rw [Holds] at h
  obtain ⟨⟨a, n, cap, rfl, -, h1, h2, h3, h4⟩, h5⟩ := h
  rw [strs_len, Nat.mul_one] at h1
  subst h1
  refine ⟨a, cap, rfl, ⟨h2, h3⟩, fun x hx => ?_, fun hp => ?_⟩
  · have := holdss_iff.1 h5 (.str x) (by simp [strs, hx])
    rw [Holds] at this
    exact this
  · obtain ⟨b, o, rfl, hb, hc⟩ := h4 hp
    refine ⟨b, o, rfl, hb, fun j hj => ?_⟩
    rw [hc j (by rw [strs_len]; exact hj)]
    simp [strs, val]
theorem strs_row {T base : Nat} {w : World} {v : Value} {xs : List ByteArray} (h : w.ownsRow base T 1 v xs.length (xs.map Value.string)) (hx : ∀ x, x ∈ xs → x.size ≤ maxLen) : Row base w T 1 v (strs xs) :=
  ⟨⟨xs.length, by decide, by rw [strs_len, Nat.mul_one], by rw [strs_vals]; exact h⟩, ⟨strs_goods.2 hx, by rw [strs_foots]; exact List.nodup_nil, fun b hb => by rw [strs_foots] at hb; cases hb⟩, fun b _ hb => by rw [strs_foots] at hb; cases hb⟩
end Go.Proofs.YtkmclgofghaeoaaGreat.Data

namespace Go.Proofs.YtkmclgofghaeoaaGreat.Data
open Go.RowKit
open Strs Tree Texts
set_option maxRecDepth 10000 in
set_option maxHeartbeats 4000000 in
theorem sz_Value (lo left : Nat) (w : World) (ds : List D) (hl : left ≤ 1048576) (hf : FitL (env 10) (erases ds)) (hh : Holdss lo w ds) :
    Calls Tryz.prog 4 #[agg ds, .int .i64 left] w fun r w' => r = .returned (.int .i64 (after left (weights (erases ds)))) ∧ Below w.heap.size w w' := by
  obtain ⟨n0, e0, rfl, hf_0⟩ := fitL_int hf
  clear hf
  obtain ⟨n1, e1, rfl, hf_1⟩ := fitL_int hf_0
  clear hf_0
  obtain ⟨s2, e2, rfl, hf_2⟩ := fitL_str hf_1
  clear hf_1
  obtain rfl := fitL_nil hf_2
  clear hf_2
  replace hh : Holdss lo w [D.int n0, D.int n1, D.str s2] := hh
  simp only [Holdss, and_true] at hh
  obtain ⟨h0, h1, h2⟩ := hh
  clear h0
  clear h1
  rw [Holds] at h2
  unfold maxLen at h2
  have HW : weights (erases [D.int n0, D.int n1, D.str s2]) = s2.size := by
    first | (simp only [erases, erase, weights, weight]; done) | (simp only [erases, erase, weights, weight]; omega)
  have C0 : Hid (Cells w.heap.size [D.int n0, D.int n1, D.str s2] (w.alloc (Obj.cells #[Value.int .i64 n0, Value.int .i64 n1, Value.string s2] 23))) := Lib.hid (cells_new w [D.int n0, D.int n1, D.str s2] _)
  have B0 : Hid (Below w.heap.size w (w.alloc (Obj.cells #[Value.int .i64 n0, Value.int .i64 n1, Value.string s2] 23))) := Lib.hid ((Below.refl _ _).alloc (Nat.le_refl _) _)
  generalize weights (erases [D.int n0, D.int n1, D.str s2]) = WW at *
  generalize hR : after left WW = R
  have HA := Lib.hid hR
  clear hR
  have HW := Lib.hid HW
  rw [show agg [D.int n0, D.int n1, D.str s2] = Value.agg #[Value.int .i64 n0, Value.int .i64 n1, Value.string s2] from rfl]
  by_cases hs1 : (left : Int) - (s2.size : Int) < 0
  · skip
    have hR : R = -1 := by rw [← HA.out]; exact after_no (by have h0' := HW.out; omega)
    subst hR
    go_enter Tryz.func4, Tryz.ntmps4
    go_wp2_with fail
    go_ret
    exact ⟨rfl, B0.out⟩
  obtain ⟨l1, hl1⟩ : ∃ l' : Nat, l' + s2.size = left := ⟨left - s2.size, by omega⟩
  have e1' : (left : Int) - (s2.size : Int) = (l1 : Int) := by omega
  have HL1 := Lib.hid hl1
  clear hl1
  go_enter Tryz.func4, Tryz.ntmps4
  have hR : R = (l1 : Int) := by rw [← HA.out, after_yes (by have h0' := HW.out; have h1' := HL1.out; omega)]; have h0' := HW.out; have h1' := HL1.out; omega
  subst hR
  go_wp2_with fail
  go_ret
  exact ⟨rfl, B0.out⟩
set_option maxRecDepth 10000 in
set_option maxHeartbeats 4000000 in
theorem szS_Value (lo left t : Nat) (w : World) (v : Value) (ds : List D) (hl : left ≤ 1048576) (hf : FitRow 10 (erases ds)) (hh : Holds lo w (.row t 3 v ds)) :
    Calls Tryz.prog 5 #[v, .int .i64 left] w fun r w' => r = .returned (.int .i64 (after left (weight (.row 3 (erases ds))))) ∧ Below w.heap.size w w' := by
  rw [Holds] at hh
  obtain ⟨⟨a, n, cap, rfl, -, hn, hnc, hcm, hc⟩, hds⟩ := hh
  unfold maxLen at hcm
  have HWT : weight (.row 3 (erases ds)) = n + weights (erases ds) := by
    rw [weight, erases_len, hn, Nat.mul_div_cancel _ (by decide)]
  have HN := Lib.hid hn
  have HF := Lib.hid hf
  have HDS := Lib.hid hds
  clear hn hf hds
  by_cases hp : 0 < n
  rotate_left
  · have hn0 : n = 0 := by omega
    subst hn0
    have hd0 : ds = [] := List.eq_nil_of_length_eq_zero (by have := HN.out; omega)
    subst hd0
    rw [HWT]
    simp only [erases, weights]
    rw [after_yes (Nat.zero_le _)]
    clear hc HWT HN HF HDS
    go_enter Tryz.func5, Tryz.ntmps5
    go_wp2_with fail
    refine wp_loop_rounds 1 ?_
    rw [rounds_succ]
    go_wp2_with fail
    go_ret
    exact ⟨by simp, Below.refl _ _⟩
  obtain ⟨b, off, rfl, hb, hc⟩ := hc hp
  have HC := Lib.hid hc
  clear hc hb
  generalize hR : after left (weight (.row 3 (erases ds))) = R
  rw [HWT] at hR
  have HA := Lib.hid hR
  clear hR HWT
  by_cases hbig : (left : Int) - (n : Int) < 0
  · have hR : R = -1 := by rw [← HA.out]; exact after_no (by omega)
    subst hR
    go_enter Tryz.func5, Tryz.ntmps5
    go_wp2_with fail
    go_ret
    exact ⟨rfl, Below.refl _ _⟩
  go_enter Tryz.func5, Tryz.ntmps5
  go_wp2_with fail
  go_loopw [1, 5] (fun t j wr => ∃ (i r : Nat) (A R : List D), ds = A ++ R ∧ A.length = i * 3 ∧ FitRow 10 (erases R) ∧ j = .int .i64 i ∧ r + n + weights (erases A) = left ∧ t = .int .i64 r ∧ Below w.heap.size w wr) (fun _ j _ => n - (intOf j).toNat)
  case atStart => exact ⟨0, left - n, [], ds, rfl, by simp, HF.out, rfl, by simp [erases, weights]; omega, by go_num, Below.refl _ _⟩
  case round =>
    obtain ⟨i, r, A, R', hds, hal, hfr, rfl, hq, rfl, hbw⟩ := hrel
    have HD := Lib.hid hds
    have HAL := Lib.hid hal
    have HQ := Lib.hid hq
    clear hds hal hq
    rcases fitRow_cases hfr with rfl | ⟨item, rest, rfl, hfi, hfrest⟩
    · have hin : i = n := by
        have h1 := HN.out
        rw [HD.out, List.append_nil, HAL.out] at h1
        omega
      have hR : R = (r : Int) := by
        have h1 := HQ.out
        rw [← HA.out, HD.out, List.append_nil, after_yes (by omega)]
        omega
      subst hin
      have HR2 := Lib.hid hR
      clear hR hfr
      go_wp2_with fail
      go_ret
      exact ⟨by rw [HR2.out]; rfl, hbw⟩
    have hil : item.length = 3 := by have := fitL_len hfi; rw [erases_len] at this; exact this
    have hlt : i < n := by
      have h1 := HN.out
      rw [HD.out, List.length_append, List.length_append, HAL.out, hil] at h1
      omega
    have HIT := Lib.hid hfi
    clear hil hfr
    obtain ⟨n0, e0, rfl, hfi_0⟩ := fitL_int hfi
    clear hfi
    obtain ⟨n1, e1, rfl, hfi_1⟩ := fitL_int hfi_0
    clear hfi_0
    obtain ⟨s2, e2, rfl, hfi_2⟩ := fitL_str hfi_1
    clear hfi_1
    obtain rfl := fitL_nil hfi_2
    clear hfi_2
    have c0 := cell_keep hbw (row_at0 HC.out HD.out HAL.out (D.int n0) rfl)
    simp only [val] at c0
    have c1 := cell_keep hbw (row_at HC.out HD.out HAL.out 1 (D.int n1) rfl)
    simp only [val] at c1
    have c2 := cell_keep hbw (row_at HC.out HD.out HAL.out 2 (D.str s2) rfl)
    simp only [val] at c2
    have hit : Holdss lo wr [D.int n0, D.int n1, D.str s2] := ((Holdss.append.1 ((Holdss.append.1 (HD.out ▸ HDS.out)).2)).1).below hbw
    have KI := Lib.hid (sz_Value lo r wr [D.int n0, D.int n1, D.str s2] (by have := HQ.out; omega) HIT.out hit)
    have HWA : Hid (weights (erases (A ++ [D.int n0, D.int n1, D.str s2])) = weights (erases A) + weights (erases [D.int n0, D.int n1, D.str s2])) := Lib.hid (by rw [erases_append, weights_append])
    have HWB : Hid (weights (erases ds) = weights (erases A) + weights (erases [D.int n0, D.int n1, D.str s2]) + weights (erases rest)) := Lib.hid (by rw [HD.out, erases_append, erases_append, weights_append, weights_append, Nat.add_assoc])
    have HD2 : Hid (ds = (A ++ [D.int n0, D.int n1, D.str s2]) ++ rest) := Lib.hid (by rw [HD.out, List.append_assoc])
    have HAL2 : Hid ((A ++ [D.int n0, D.int n1, D.str s2]).length = (i + 1) * 3) := Lib.hid (by rw [List.length_append, HAL.out, Nat.succ_mul]; rfl)
    have HFR := Lib.hid hfrest
    generalize hqi : weights (erases [D.int n0, D.int n1, D.str s2]) = qi at *
    have HB := Lib.hid hbw
    clear hit hfrest hqi hbw HIT HD HAL
    simp only [agg, vals, List.map, val] at KI
    go_wp2_with fail
    refine KI.out.mono ?_
    rintro e w1 ⟨rfl, hb1⟩
    have HB1 := Lib.hid (HB.out.trans (hb1.mono HB.out.size))
    clear hb1 KI HB
    by_cases hle : qi ≤ r
    · rw [after_yes hle]
      have HT2 : Hid (r - qi + n + weights (erases (A ++ [D.int n0, D.int n1, D.str s2])) = left) := Lib.hid (by
        have h1 := HWA.out
        have h2 := HQ.out
        omega)
      generalize r - qi = r' at *
      go_wp2_with fail
      go_roundw
      case rel => exact ⟨i + 1, r', A ++ [D.int n0, D.int n1, D.str s2], rest, HD2.out, HAL2.out, HFR.out, by go_num, HT2.out, rfl, HB1.out⟩
      case measure => simp [intOf]; omega
    · rw [after_no (by omega)]
      have hR : R = -1 := by
        rw [← HA.out]
        have h1 := HWB.out
        have h2 := HQ.out
        exact after_no (by omega)
      subst hR
      go_wp2_with fail
      go_ret
      exact ⟨rfl, HB1.out⟩
end Go.Proofs.YtkmclgofghaeoaaGreat.Data
