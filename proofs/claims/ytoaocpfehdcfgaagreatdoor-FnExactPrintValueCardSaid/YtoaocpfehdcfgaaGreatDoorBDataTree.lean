/-
  Rows of texts as data: laws.szStringS, toStringS and eqStringS over them.
  laws.szValue and szValueS: what they answer, and that they write nothing that was there.
  Trees as data: what reads as one reads as the other.
-/
import Derived.Test.YtoaocpfehdcfgaaGreatDoorBDataLay
import Derived.Test.YtoaocpfehdcfgaaGreatDoorBSoft
import Derived.Test.YtoaocpfehdcfgaaGreatDoorBSpecTexts
namespace Go.Proofs.YtoaocpfehdcfgaaGreatDoor.Data
open Go.RowKit
open Strs Tree Texts
def strs (xs : List ByteArray) : List D := xs.map D.str
theorem strs_vals (xs : List ByteArray) : vals (strs xs) = xs.map Value.string := by simp [vals, strs, val, Function.comp_def]
theorem strs_len (xs : List ByteArray) : (strs xs).length = xs.length := by simp [strs]
theorem strs_erases (xs : List ByteArray) : erases (strs xs) = xs.map P.str := by
  induction xs with
  | nil => rfl
  | cons x xs ih => rw [strs, List.map_cons, erases]; show _ :: erases (strs xs) = _; rw [ih]; rfl
theorem strs_foots (xs : List ByteArray) : foots (strs xs) = [] := by
  induction xs with
  | nil => rfl
  | cons x xs ih => rw [strs, List.map_cons, foots]; show foot (.str x) ++ foots (strs xs) = _; rw [ih]; rfl
theorem strs_fit (xs : List ByteArray) : FitRow 0 (xs.map P.str) := by
  induction xs with
  | nil => exact FitRow.nil 0
  | cons x xs ih => exact FitRow.cons 0 _ [.str x] _ rfl (FitL.cons _ _ _ _ (Fit.str x) FitL.nil) ih
theorem strs_weights (xs : List ByteArray) : weights (xs.map P.str) = lens xs := by
  induction xs with
  | nil => rfl
  | cons x xs ih => rw [List.map_cons, weights, weight, lens, ih]
theorem strs_cnts (xs : List ByteArray) : cnts (xs.map P.str) = xs.length := by
  induction xs with
  | nil => rfl
  | cons x xs ih => rw [List.map_cons, cnts, cnt, ih, List.length_cons]; omega
theorem strs_of : ∀ (n : Nat) (ds : List D), ds.length ≤ n → FitRow 0 (erases ds) → ∃ xs, ds = strs xs := by
  intro n
  induction n with
  | zero => intro ds hl _; exact ⟨[], List.eq_nil_of_length_eq_zero (Nat.le_zero.1 hl)⟩
  | succ n ih =>
    intro ds hl h
    rcases fitRow_cases h with rfl | ⟨item, rest, rfl, h1, h2⟩
    · exact ⟨[], rfl⟩
    · obtain ⟨s, es, rfl, h3⟩ := fitL_str h1
      obtain rfl := fitL_nil h3
      obtain ⟨xs, rfl⟩ := ih rest (by simp at hl; omega) h2
      exact ⟨s :: xs, rfl⟩
theorem strs_get {ds : List D} (h : FitRow 0 (erases ds)) : ∃ xs, ds = strs xs := strs_of _ ds (Nat.le_refl _) h
theorem strs_goods {w : World} {xs : List ByteArray} : Goods w (strs xs) ↔ ∀ x, x ∈ xs → x.size ≤ maxLen := by
  rw [goods_iff]
  constructor
  · intro h x hx
    have := h (.str x) (by simp [strs, hx])
    rw [Good] at this
    exact this
  · intro h d hd
    simp only [strs, List.mem_map] at hd
    obtain ⟨x, hx, rfl⟩ := hd
    rw [Good]
    exact h x hx
theorem strs_texts {lo t : Nat} {w : World} {v : Value} {xs : List ByteArray} (h : Holds lo w (.row t 1 v (strs xs))) : Texts lo w xs v := by
  rw [Holds] at h
  obtain ⟨⟨a, n, cap, rfl, -, h1, h2, h3, h4⟩, h5⟩ := h
  rw [strs_len, Nat.mul_one] at h1
  subst h1
  refine ⟨a, cap, rfl, ⟨h2, h3⟩, fun x hx => ?_, fun hp => ?_⟩
  · have := holdss_iff.1 h5 (.str x) (by simp [strs, hx])
    rw [Holds] at this
    exact this
  · obtain ⟨b, o, rfl, hb, hc⟩ := h4 hp
    refine ⟨b, o, rfl, hb, fun j hj => ?_⟩
    rw [hc j (by rw [strs_len]; exact hj)]
    simp [strs, val]
theorem strs_row {T base : Nat} {w : World} {v : Value} {xs : List ByteArray} (h : w.ownsRow base T 1 v xs.length (xs.map Value.string)) (hx : ∀ x, x ∈ xs → x.size ≤ maxLen) : Row base w T 1 v (strs xs) :=
  ⟨⟨xs.length, by decide, by rw [strs_len, Nat.mul_one], by rw [strs_vals]; exact h⟩, ⟨strs_goods.2 hx, by rw [strs_foots]; exact List.nodup_nil, fun b hb => by rw [strs_foots] at hb; cases hb⟩, fun b _ hb => by rw [strs_foots] at hb; cases hb⟩
theorem szS_String (lo left t : Nat) (w : World) (v : Value) (ds : List D) (hl : left ≤ 1048576) (hf : FitRow 0 (erases ds)) (hh : Holds lo w (.row t 1 v ds)) :
    Calls Tryz.prog 13 #[v, .int .i64 left] w fun r w' => r = .returned (.int .i64 (after left (weight (.row 1 (erases ds))))) ∧ Below w.heap.size w w' := by
  obtain ⟨xs, rfl⟩ := strs_get hf
  refine (sz_any (strs_texts hh) hl).mono ?_
  rintro e w' ⟨rfl, rfl⟩
  refine ⟨?_, Below.refl _ _⟩
  rw [strs_erases, weight, strs_weights, List.length_map, Nat.div_one]
theorem toS_String (lo t : Nat) (w : World) (v : Value) (ds : List D) (hw : weight (.row 1 (erases ds)) ≤ 1048576) (hf : FitRow 0 (erases ds)) (hh : Holds lo w (.row t 1 v ds)) :
    Calls Tryz.prog 19 #[v] w fun r w' => ∃ a n c ds', r = .returned (.slice a n c) ∧ erases ds' = erases ds ∧ Row w.heap.size w' 9 1 (.slice a n c) ds' ∧ Below w.heap.size w w' := by
  obtain ⟨xs, rfl⟩ := strs_get hf
  have hn : xs.length ≤ 1048576 := by rw [strs_erases, weight, List.length_map, Nat.div_one] at hw; omega
  have ht := strs_texts hh
  have hx := ht.choose_spec.choose_spec.2.2.1
  have H : Calls Tryz.prog 19 #[v] w (Copied xs xs.length w) := by
    obtain ⟨a, cap, rfl, hm, hs, hc⟩ := ht
    by_cases hp : 0 < xs.length
    · obtain ⟨b, off, rfl, hb, hd⟩ := hc hp
      exact to_cons b off cap _ xs w rfl hn hd
    · have : xs = [] := List.eq_nil_of_length_eq_zero (by omega)
      subst this
      exact to_nil a cap w
  refine H.mono ?_
  rintro e w' ⟨rfl, ho, hb⟩
  exact ⟨_, _, _, strs xs, rfl, rfl, strs_row ho hx, hb⟩
theorem eqS_String (lo1 lo2 t1 t2 : Nat) (w : World) (v1 v2 : Value) (ds1 ds2 : List D) (he : erases ds1 = erases ds2) (hf : FitRow 0 (erases ds1)) (h1 : Holds lo1 w (.row t1 1 v1 ds1)) (h2 : Holds lo2 w (.row t2 1 v2 ds2)) :
    Calls Tryz.prog 25 #[v1, v2] w fun r w' => r = .returned (.bool true) ∧ Below w.heap.size w w' := by
  obtain ⟨xs, rfl⟩ := strs_get hf
  obtain ⟨ys, rfl⟩ := strs_get (he ▸ hf)
  rw [strs_erases, strs_erases] at he
  have : xs = ys := by
    have inj : ∀ a b : ByteArray, P.str a = P.str b → a = b := fun a b h => by cases h; rfl
    exact (List.map_inj_right inj).1 he
  subst this
  exact Texts.eq_same (strs_texts h1) (strs_texts h2)
end Go.Proofs.YtoaocpfehdcfgaaGreatDoor.Data

namespace Go.Proofs.YtoaocpfehdcfgaaGreatDoor.Data
open Go.RowKit
open Strs Tree Texts
set_option maxRecDepth 10000 in
set_option maxHeartbeats 4000000 in
theorem sz_Value (lo left : Nat) (w : World) (ds : List D) (hl : left ≤ 1048576) (hf : FitL (env 10) (erases ds)) (hh : Holdss lo w ds) :
    Calls Tryz.prog 5 #[agg ds, .int .i64 left] w fun r w' => r = .returned (.int .i64 (after left (weights (erases ds)))) ∧ Below w.heap.size w w' := by
  obtain ⟨n0, e0, rfl, hf_0⟩ := fitL_int hf
  clear hf
  obtain ⟨n1, e1, rfl, hf_1⟩ := fitL_int hf_0
  clear hf_0
  obtain ⟨s2, e2, rfl, hf_2⟩ := fitL_str hf_1
  clear hf_1
  obtain rfl := fitL_nil hf_2
  clear hf_2
  replace hh : Holdss lo w [D.int n0, D.int n1, D.str s2] := hh
  simp only [Holdss, and_true] at hh
  obtain ⟨h0, h1, h2⟩ := hh
  clear h0
  clear h1
  rw [Holds] at h2
  unfold maxLen at h2
  have HW : weights (erases [D.int n0, D.int n1, D.str s2]) = s2.size := by
    first | (simp only [erases, erase, weights, weight]; done) | (simp only [erases, erase, weights, weight]; omega)
  have C0 : Hid (Cells w.heap.size [D.int n0, D.int n1, D.str s2] (w.alloc (Obj.cells #[Value.int .i64 n0, Value.int .i64 n1, Value.string s2] 28))) := Lib.hid (cells_new w [D.int n0, D.int n1, D.str s2] _)
  have B0 : Hid (Below w.heap.size w (w.alloc (Obj.cells #[Value.int .i64 n0, Value.int .i64 n1, Value.string s2] 28))) := Lib.hid ((Below.refl _ _).alloc (Nat.le_refl _) _)
  generalize weights (erases [D.int n0, D.int n1, D.str s2]) = WW at *
  generalize hR : after left WW = R
  have HA := Lib.hid hR
  clear hR
  have HW := Lib.hid HW
  rw [show agg [D.int n0, D.int n1, D.str s2] = Value.agg #[Value.int .i64 n0, Value.int .i64 n1, Value.string s2] from rfl]
  by_cases hs1 : (left : Int) - (s2.size : Int) < 0
  · skip
    have hR : R = -1 := by rw [← HA.out]; exact after_no (by have h0' := HW.out; omega)
    subst hR
    go_enter Tryz.func5, Tryz.ntmps5
    go_wp2_with fail
    go_ret
    exact ⟨rfl, B0.out⟩
  obtain ⟨l1, hl1⟩ : ∃ l' : Nat, l' + s2.size = left := ⟨left - s2.size, by omega⟩
  have e1' : (left : Int) - (s2.size : Int) = (l1 : Int) := by omega
  have HL1 := Lib.hid hl1
  clear hl1
  go_enter Tryz.func5, Tryz.ntmps5
  have hR : R = (l1 : Int) := by rw [← HA.out, after_yes (by have h0' := HW.out; have h1' := HL1.out; omega)]; have h0' := HW.out; have h1' := HL1.out; omega
  subst hR
  go_wp2_with fail
  go_ret
  exact ⟨rfl, B0.out⟩
set_option maxRecDepth 10000 in
set_option maxHeartbeats 4000000 in
theorem szS_Value (lo left t : Nat) (w : World) (v : Value) (ds : List D) (hl : left ≤ 1048576) (hf : FitRow 10 (erases ds)) (hh : Holds lo w (.row t 3 v ds)) :
    Calls Tryz.prog 54 #[v, .int .i64 left] w fun r w' => r = .returned (.int .i64 (after left (weight (.row 3 (erases ds))))) ∧ Below w.heap.size w w' := by
  rw [Holds] at hh
  obtain ⟨⟨a, n, cap, rfl, -, hn, hnc, hcm, hc⟩, hds⟩ := hh
  unfold maxLen at hcm
  have HWT : weight (.row 3 (erases ds)) = n + weights (erases ds) := by
    rw [weight, erases_len, hn, Nat.mul_div_cancel _ (by decide)]
  have HN := Lib.hid hn
  have HF := Lib.hid hf
  have HDS := Lib.hid hds
  clear hn hf hds
  by_cases hp : 0 < n
  rotate_left
  · have hn0 : n = 0 := by omega
    subst hn0
    have hd0 : ds = [] := List.eq_nil_of_length_eq_zero (by have := HN.out; omega)
    subst hd0
    rw [HWT]
    simp only [erases, weights]
    rw [after_yes (Nat.zero_le _)]
    clear hc HWT HN HF HDS
    go_enter Tryz.func54, Tryz.ntmps54
    go_wp2_with fail
    refine wp_loop_rounds 1 ?_
    rw [rounds_succ]
    go_wp2_with fail
    go_ret
    exact ⟨by simp, Below.refl _ _⟩
  obtain ⟨b, off, rfl, hb, hc⟩ := hc hp
  have HC := Lib.hid hc
  clear hc hb
  generalize hR : after left (weight (.row 3 (erases ds))) = R
  rw [HWT] at hR
  have HA := Lib.hid hR
  clear hR HWT
  by_cases hbig : (left : Int) - (n : Int) < 0
  · have hR : R = -1 := by rw [← HA.out]; exact after_no (by omega)
    subst hR
    go_enter Tryz.func54, Tryz.ntmps54
    go_wp2_with fail
    go_ret
    exact ⟨rfl, Below.refl _ _⟩
  go_enter Tryz.func54, Tryz.ntmps54
  go_wp2_with fail
  go_loopw [1, 5] (fun t j wr => ∃ (i r : Nat) (A R : List D), ds = A ++ R ∧ A.length = i * 3 ∧ FitRow 10 (erases R) ∧ j = .int .i64 i ∧ r + n + weights (erases A) = left ∧ t = .int .i64 r ∧ Below w.heap.size w wr) (fun _ j _ => n - (intOf j).toNat)
  case atStart => exact ⟨0, left - n, [], ds, rfl, by simp, HF.out, rfl, by simp [erases, weights]; omega, by go_num, Below.refl _ _⟩
  case round =>
    obtain ⟨i, r, A, R', hds, hal, hfr, rfl, hq, rfl, hbw⟩ := hrel
    have HD := Lib.hid hds
    have HAL := Lib.hid hal
    have HQ := Lib.hid hq
    clear hds hal hq
    rcases fitRow_cases hfr with rfl | ⟨item, rest, rfl, hfi, hfrest⟩
    · have hin : i = n := by
        have h1 := HN.out
        rw [HD.out, List.append_nil, HAL.out] at h1
        omega
      have hR : R = (r : Int) := by
        have h1 := HQ.out
        rw [← HA.out, HD.out, List.append_nil, after_yes (by omega)]
        omega
      subst hin
      have HR2 := Lib.hid hR
      clear hR hfr
      go_wp2_with fail
      go_ret
      exact ⟨by rw [HR2.out]; rfl, hbw⟩
    have hil : item.length = 3 := by have := fitL_len hfi; rw [erases_len] at this; exact this
    have hlt : i < n := by
      have h1 := HN.out
      rw [HD.out, List.length_append, List.length_append, HAL.out, hil] at h1
      omega
    have HIT := Lib.hid hfi
    clear hil hfr
    obtain ⟨n0, e0, rfl, hfi_0⟩ := fitL_int hfi
    clear hfi
    obtain ⟨n1, e1, rfl, hfi_1⟩ := fitL_int hfi_0
    clear hfi_0
    obtain ⟨s2, e2, rfl, hfi_2⟩ := fitL_str hfi_1
    clear hfi_1
    obtain rfl := fitL_nil hfi_2
    clear hfi_2
    have c0 := cell_keep hbw (row_at0 HC.out HD.out HAL.out (D.int n0) rfl)
    simp only [val] at c0
    have c1 := cell_keep hbw (row_at HC.out HD.out HAL.out 1 (D.int n1) rfl)
    simp only [val] at c1
    have c2 := cell_keep hbw (row_at HC.out HD.out HAL.out 2 (D.str s2) rfl)
    simp only [val] at c2
    have hit : Holdss lo wr [D.int n0, D.int n1, D.str s2] := ((Holdss.append.1 ((Holdss.append.1 (HD.out ▸ HDS.out)).2)).1).below hbw
    have KI := Lib.hid (sz_Value lo r wr [D.int n0, D.int n1, D.str s2] (by have := HQ.out; omega) HIT.out hit)
    have HWA : Hid (weights (erases (A ++ [D.int n0, D.int n1, D.str s2])) = weights (erases A) + weights (erases [D.int n0, D.int n1, D.str s2])) := Lib.hid (by rw [erases_append, weights_append])
    have HWB : Hid (weights (erases ds) = weights (erases A) + weights (erases [D.int n0, D.int n1, D.str s2]) + weights (erases rest)) := Lib.hid (by rw [HD.out, erases_append, erases_append, weights_append, weights_append, Nat.add_assoc])
    have HD2 : Hid (ds = (A ++ [D.int n0, D.int n1, D.str s2]) ++ rest) := Lib.hid (by rw [HD.out, List.append_assoc])
    have HAL2 : Hid ((A ++ [D.int n0, D.int n1, D.str s2]).length = (i + 1) * 3) := Lib.hid (by rw [List.length_append, HAL.out, Nat.succ_mul]; rfl)
    have HFR := Lib.hid hfrest
    generalize hqi : weights (erases [D.int n0, D.int n1, D.str s2]) = qi at *
    have HB := Lib.hid hbw
    clear hit hfrest hqi hbw HIT HD HAL
    simp only [agg, vals, List.map, val] at KI
    go_wp2_with fail
    refine KI.out.mono ?_
    rintro e w1 ⟨rfl, hb1⟩
    have HB1 := Lib.hid (HB.out.trans (hb1.mono HB.out.size))
    clear hb1 KI HB
    by_cases hle : qi ≤ r
    · rw [after_yes hle]
      have HT2 : Hid (r - qi + n + weights (erases (A ++ [D.int n0, D.int n1, D.str s2])) = left) := Lib.hid (by
        have h1 := HWA.out
        have h2 := HQ.out
        omega)
      generalize r - qi = r' at *
      go_wp2_with fail
      go_roundw
      case rel => exact ⟨i + 1, r', A ++ [D.int n0, D.int n1, D.str s2], rest, HD2.out, HAL2.out, HFR.out, by go_num, HT2.out, rfl, HB1.out⟩
      case measure => simp [intOf]; omega
    · rw [after_no (by omega)]
      have hR : R = -1 := by
        rw [← HA.out]
        have h1 := HWB.out
        have h2 := HQ.out
        exact after_no (by omega)
      subst hR
      go_wp2_with fail
      go_ret
      exact ⟨rfl, HB1.out⟩
end Go.Proofs.YtoaocpfehdcfgaaGreatDoor.Data

namespace Go.Proofs.YtoaocpfehdcfgaaGreatDoor.Data
open Go.RowKit
open Strs Tree
mutual
def plainE : E → List P
  | .mk k t n ns ks => [.int k, .str t, .int n, .row 1 (ns.map P.str), .row 5 (plainEs ks)]
def plainEs : List E → List P
  | [] => []
  | e :: es => plainE e ++ plainEs es
end
theorem plainE_eq (e : E) : plainE e = [.int e.kind, .str e.text, .int e.num, .row 1 (e.names.map P.str), .row 5 (plainEs e.kids)] := by
  cases e with
  | mk k t n ns ks => rw [plainE]; rfl
theorem plainE_len (e : E) : (plainE e).length = 5 := by rw [plainE_eq]; rfl
theorem plainEs_len (es : List E) : (plainEs es).length = es.length * 5 := by
  induction es with
  | nil => rfl
  | cons e es ih => rw [plainEs, List.length_append, plainE_len, ih, List.length_cons, Nat.succ_mul, Nat.add_comm]
theorem plainEs_append (a b : List E) : plainEs (a ++ b) = plainEs a ++ plainEs b := by
  induction a with
  | nil => rfl
  | cons e es ih => rw [List.cons_append, plainEs, plainEs, ih, List.append_assoc]
theorem plainE_weight : ∀ e, Data.weights (plainE e) = Tree.weight e := by
  refine Tree.ind fun k t n ns ks ih => ?_
  have h : ∀ l : List E, (∀ e, e ∈ l → Data.weights (plainE e) = Tree.weight e) → Data.weights (plainEs l) = Tree.weights l := by
    intro l
    induction l with
    | nil => intro _; rfl
    | cons e es ihl =>
      intro hl
      rw [plainEs, Data.weights_append, hl e (by simp), ihl fun x hx => hl x (by simp [hx]), Tree.weights]
  rw [plainE, Tree.weight]
  simp only [Data.weights, Data.weight]
  rw [List.length_map, strs_weights, h ks ih, plainEs_len, Nat.mul_div_cancel _ (by decide), Nat.div_one]
  omega
theorem plainEs_weight (es : List E) : Data.weights (plainEs es) = Tree.weights es := by
  induction es with
  | nil => rfl
  | cons e es ih => rw [plainEs, Data.weights_append, plainE_weight, ih, Tree.weights]
theorem row_weight (es : List E) : Data.weight (.row 5 (plainEs es)) = es.length + Tree.weights es := by
  rw [Data.weight, plainEs_len, Nat.mul_div_cancel _ (by decide), plainEs_weight]
theorem str_inj : ∀ (xs ys : List ByteArray), xs.map P.str = ys.map P.str → xs = ys := by
  intro xs ys h
  have inj : ∀ a b : ByteArray, P.str a = P.str b → a = b := fun a b h => by cases h; rfl
  exact (List.map_inj_right inj).1 h
theorem plainE_inj : ∀ a b : E, plainE a = plainE b → a = b := by
  refine Tree.ind fun k t n ns ks ih => ?_
  intro b h
  cases b with
  | mk k' t' n' ns' ks' =>
    rw [plainE, plainE] at h
    simp only [List.cons.injEq, P.int.injEq, P.str.injEq, P.row.injEq, true_and, and_true] at h
    obtain ⟨rfl, rfl, rfl, h4, h5⟩ := h
    rw [str_inj _ _ h4]
    have hk : ∀ (l l' : List E), (∀ e, e ∈ l → ∀ b, plainE e = plainE b → e = b) → plainEs l = plainEs l' → l = l' := by
      intro l
      induction l with
      | nil =>
        intro l' _ he
        cases l' with
        | nil => rfl
        | cons x xs =>
          have := congrArg List.length he
          rw [plainEs_len, plainEs_len] at this
          simp at this
      | cons e es ihl =>
        intro l' hl he
        cases l' with
        | nil =>
          have := congrArg List.length he
          rw [plainEs_len, plainEs_len] at this
          simp at this
        | cons x xs =>
          rw [plainEs, plainEs] at he
          have h1 := List.append_inj he (by rw [plainE_len, plainE_len])
          rw [hl e (by simp) x h1.1, ihl xs (fun y hy => hl y (by simp [hy])) h1.2]
    rw [hk ks ks' ih h5]
theorem plainEs_inj (a b : List E) (h : plainEs a = plainEs b) : a = b := by
  have := plainE_inj (.mk 0 ByteArray.empty 0 [] a) (.mk 0 ByteArray.empty 0 [] b) (by rw [plainE, plainE, h])
  injection this
theorem strsP_of : ∀ (n : Nat) (ps : List P), ps.length ≤ n → FitRow 0 ps → ∃ xs : List ByteArray, ps = xs.map P.str := by
  intro n
  induction n with
  | zero => intro ps hl _; exact ⟨[], List.eq_nil_of_length_eq_zero (Nat.le_zero.1 hl)⟩
  | succ n ih =>
    intro ps hl h
    rcases fitRow_cases' h with rfl | ⟨item, rest, rfl, h1, h2⟩
    · exact ⟨[], rfl⟩
    · cases h1 with
      | cons _ _ p ps h3 h4 =>
        cases h4
        cases h3 with
        | str s =>
          obtain ⟨xs, rfl⟩ := ih rest (by simp at hl; omega) h2
          exact ⟨s :: xs, rfl⟩
theorem trees_of : ∀ (n : Nat) (ps : List P), masses ps ≤ n → (FitRow 2 ps → ∃ es, ps = plainEs es) ∧ (FitL (env 2) ps → ∃ e, ps = plainE e) := by
  intro n
  induction n with
  | zero =>
    intro ps hm
    cases ps with
    | nil => exact ⟨fun _ => ⟨[], rfl⟩, fun h => by cases h⟩
    | cons p ps =>
      rw [masses] at hm
      have : 0 < mass p := by cases p <;> rw [mass] <;> omega
      omega
  | succ n ih =>
    have one : ∀ ps, masses ps ≤ n + 1 → FitL (env 2) ps → ∃ e, ps = plainE e := by
      intro ps hm h
      cases h with
      | cons _ _ p0 _ g0 h =>
      cases h with
      | cons _ _ p1 _ g1 h =>
      cases h with
      | cons _ _ p2 _ g2 h =>
      cases h with
      | cons _ _ p3 _ g3 h =>
      cases h with
      | cons _ _ p4 _ g4 h =>
      cases h
      cases g0 with
      | int k =>
      cases g1 with
      | str t =>
      cases g2 with
      | int m =>
      cases g3 with
      | row _ _ q3 hk3 f3 =>
      cases g4 with
      | row _ _ q4 hk4 f4 =>
      subst hk3 hk4
      obtain ⟨xs, rfl⟩ := strsP_of _ q3 (Nat.le_refl _) f3
      obtain ⟨es, rfl⟩ := (ih q4 (by simp only [masses, mass] at hm; omega)).1 f4
      exact ⟨.mk k t m xs es, by rw [plainE]; rfl⟩
    have many : ∀ (j : Nat) (ps : List P), ps.length ≤ j → masses ps ≤ n + 1 → FitRow 2 ps → ∃ es, ps = plainEs es := by
      intro j
      induction j with
      | zero => intro ps hl _ _; exact ⟨[], List.eq_nil_of_length_eq_zero (Nat.le_zero.1 hl)⟩
      | succ j ihj =>
        intro ps hl hm h
        rcases fitRow_cases' h with rfl | ⟨item, rest, rfl, h1, h2⟩
        · exact ⟨[], rfl⟩
        · have hil := fitL_len h1
          rw [masses_append] at hm
          rw [List.length_append] at hl
          have h5 : (env 2).length = 5 := rfl
          obtain ⟨e, rfl⟩ := one item (by omega) h1
          obtain ⟨es, rfl⟩ := ihj rest (by omega) (by omega) h2
          exact ⟨e :: es, by rw [plainEs]⟩
    exact fun ps hm => ⟨many _ ps (Nat.le_refl _) hm, one ps hm⟩
theorem trees_get {ds : List D} (h : FitRow 2 (erases ds)) : ∃ es, erases ds = plainEs es := (trees_of _ _ (Nat.le_refl _)).1 h
theorem tree_get {ds : List D} (h : FitL (env 2) (erases ds)) : ∃ e, erases ds = plainE e := (trees_of _ _ (Nat.le_refl _)).2 h
theorem plainE_fit : ∀ e, FitL (env 2) (plainE e) := by
  refine Tree.ind fun k t n ns ks ih => ?_
  rw [plainE]
  refine FitL.cons _ _ _ _ (Fit.int _) (FitL.cons _ _ _ _ (Fit.str _) (FitL.cons _ _ _ _ (Fit.int _) (FitL.cons _ _ _ _ (Fit.row _ _ _ rfl (strs_fit ns)) (FitL.cons _ _ _ _ (Fit.row _ _ _ rfl ?_) FitL.nil))))
  have h : ∀ l : List E, (∀ e, e ∈ l → FitL (env 2) (plainE e)) → FitRow 2 (plainEs l) := by
    intro l
    induction l with
    | nil => intro _; exact FitRow.nil 2
    | cons e es ihl =>
      intro hl
      rw [plainEs]
      exact FitRow.cons 2 _ _ _ rfl (hl e (by simp)) (ihl fun x hx => hl x (by simp [hx]))
  exact h ks ih
theorem plainEs_fit (es : List E) : FitRow 2 (plainEs es) := by
  induction es with
  | nil => exact FitRow.nil 2
  | cons e es ih => rw [plainEs]; exact FitRow.cons 2 _ _ _ rfl (plainE_fit e) ih
theorem erases5 {ds : List D} {e : E} (h : erases ds = plainE e) : ∃ t3 v3 d3 t4 v4 d4, ds = [.int e.kind, .str e.text, .int e.num, .row t3 1 v3 d3, .row t4 5 v4 d4] ∧ d3 = strs e.names ∧ erases d4 = plainEs e.kids := by
  have hf : FitL (env 2) (erases ds) := h ▸ plainE_fit e
  obtain ⟨n0, e0, rfl, hf0⟩ := fitL_int hf
  obtain ⟨s1, e1, rfl, hf1⟩ := fitL_str hf0
  obtain ⟨n2, e2, rfl, hf2⟩ := fitL_int hf1
  obtain ⟨t3, v3, d3, e3, rfl, f3, hf3⟩ := fitL_row (k := 1) rfl hf2
  obtain ⟨t4, v4, d4, e4, rfl, f4, hf4⟩ := fitL_row (k := 5) rfl hf3
  obtain rfl := fitL_nil hf4
  rw [plainE_eq] at h
  simp only [erases, erase, List.cons.injEq, P.int.injEq, P.str.injEq, P.row.injEq, true_and, and_true] at h
  obtain ⟨rfl, rfl, rfl, h3, h4⟩ := h
  obtain ⟨xs, rfl⟩ := strs_get f3
  rw [strs_erases] at h3
  exact ⟨t3, v3, _, t4, v4, d4, rfl, by rw [str_inj _ _ h3], h4⟩
theorem kids_split {ds : List D} {e : E} {es : List E} (h : erases ds = plainEs (e :: es)) : ∃ x y, ds = x ++ y ∧ erases x = plainE e ∧ erases y = plainEs es := by
  rw [plainEs] at h
  exact erases_split h
theorem kids_at : ∀ (es : List E) (ds : List D), erases ds = plainEs es → ∀ i (h : i < es.length), ∃ A x B, ds = A ++ (x ++ B) ∧ A.length = i * 5 ∧ erases x = plainE es[i] := by
  intro es
  induction es with
  | nil => intro ds _ i h; simp at h
  | cons e es ih =>
    intro ds h i hi
    obtain ⟨x, y, rfl, h1, h2⟩ := kids_split h
    cases i with
    | zero => exact ⟨[], x, y, rfl, by simp, h1⟩
    | succ i =>
      obtain ⟨A, x', B, rfl, h3, h4⟩ := ih y h2 i (by simpa using hi)
      refine ⟨x ++ A, x', B, by rw [List.append_assoc], ?_, h4⟩
      have : x.length = 5 := by
        have := congrArg List.length h1
        rw [erases_len, plainE_len] at this
        exact this
      rw [List.length_append, this, h3, Nat.succ_mul]
      omega
theorem node_of {lo : Nat} {w : World} : ∀ e (ds : List D) (t3 t4 : Nat) (v3 v4 : Value) (d3 d4 : List D), ds = [.int e.kind, .str e.text, .int e.num, .row t3 1 v3 d3, .row t4 5 v4 d4] → erases ds = plainE e → Holdss lo w ds → NodeAt lo w e v3 v4 := by
  refine Tree.ind fun k t n ns ks ih => ?_
  intro ds t3 t4 v3 v4 d3 d4 hds he hh
  subst hds
  rw [plainE] at he
  simp only [E.kind, E.text, E.num, erases, erase, List.cons.injEq, P.row.injEq, true_and, and_true] at he hh
  obtain ⟨h3, h4⟩ := he
  simp only [Holdss, and_true] at hh
  obtain ⟨g0, g1, g2, g3, g4⟩ := hh
  replace g0 : (Lit.int .i64 k).wf = true := by simpa only [Holds] using g0
  replace g1 : t.size ≤ maxLen := by simpa only [Holds] using g1
  replace g2 : (Lit.int .i64 n).wf = true := by simpa only [Holds] using g2
  rw [node_iff]
  refine ⟨g0, g2, g1, ?_, ?_⟩
  · obtain ⟨xs, rfl⟩ := strs_get (ds := d3) (h3 ▸ strs_fit ns)
    rw [strs_erases] at h3
    rw [str_inj _ _ h3] at g3
    exact strs_texts g3
  · show KidsAt lo w ks v4
    rw [Holds] at g4
    obtain ⟨⟨a, m, cap, rfl, -, hl, hc1, hc2, hc⟩, hk⟩ := g4
    have hlen := congrArg List.length h4
    rw [erases_len, plainEs_len] at hlen
    have hm : m = ks.length := by omega
    subst hm
    refine ⟨a, cap, rfl, ⟨hc1, hc2⟩, fun hp => ?_⟩
    obtain ⟨b, o, rfl, hb, hcell⟩ := hc hp
    refine ⟨b, o, rfl, hb, ?_⟩
    rw [Tree.row_iff]
    intro i hi
    obtain ⟨A, x, B, hd, hal, hx⟩ := kids_at ks d4 h4 i hi
    obtain ⟨u3, w3, f3, u4, w4, f4, hx5, -, -⟩ := erases5 hx
    have hxh : Holdss lo w x := (Holdss.append.1 (Holdss.append.1 (hd ▸ hk)).2).1
    refine ⟨w3, w4, ?_, ?_, ?_, ?_, ?_, ih _ (List.getElem_mem _) x u3 u4 w3 w4 f3 f4 hx5 hx hxh⟩
    · exact row_at0 hcell hd hal (.int ks[i].kind) (by rw [hx5]; rfl)
    · exact row_at hcell hd hal 1 (.str ks[i].text) (by rw [hx5]; rfl)
    · exact row_at hcell hd hal 2 (.int ks[i].num) (by rw [hx5]; rfl)
    · exact row_at hcell hd hal 3 (.row u3 1 w3 f3) (by rw [hx5]; rfl)
    · exact row_at hcell hd hal 4 (.row u4 5 w4 f4) (by rw [hx5]; rfl)
theorem kids_of {lo t : Nat} {w : World} {v : Value} {ds : List D} {es : List E} (he : erases ds = plainEs es) (hh : Holds lo w (.row t 5 v ds)) : KidsAt lo w es v := by
  have h := node_of (lo := lo) (w := w) (.mk 0 ByteArray.empty 0 [] es) [.int 0, .str ByteArray.empty, .int 0, .row 0 1 (.slice none 0 0) [], .row t 5 v ds] 0 t (.slice none 0 0) v [] ds rfl (by rw [plainE]; simp [erases, erase, he]) (by
    simp only [Holdss, and_true]
    refine ⟨by rw [Holds]; decide, by rw [Holds]; unfold maxLen; decide, by rw [Holds]; decide, ?_, hh⟩
    rw [Holds]
    exact ⟨⟨none, 0, 0, rfl, by decide, by simp, Nat.le_refl _, by unfold maxLen; omega, fun hp => by omega⟩, trivial⟩)
  exact (node_iff.1 h).2.2.2.2
theorem reads_of {lo : Nat} {w : World} {e : E} {ds : List D} (he : erases ds = plainE e) (hh : Holdss lo w ds) : Reads lo w e (agg ds) := by
  obtain ⟨t3, v3, d3, t4, v4, d4, rfl, -, -⟩ := erases5 he
  exact ⟨v3, v4, rfl, node_of e _ t3 t4 v3 v4 d3 d4 rfl he hh⟩
theorem texts_holds {lo : Nat} {w : World} {xs : List ByteArray} {v : Value} (h : Texts lo w xs v) (t : Nat) : Holds lo w (.row t 1 v (strs xs)) := by
  obtain ⟨a, cap, rfl, ⟨h1, h2⟩, h3, h4⟩ := h
  rw [Holds]
  refine ⟨⟨a, xs.length, cap, rfl, by decide, by rw [strs_len, Nat.mul_one], h1, h2, fun hp => ?_⟩, holdss_iff.2 fun d hd => ?_⟩
  · obtain ⟨b, o, rfl, hb, hc⟩ := h4 hp
    refine ⟨b, o, rfl, hb, fun j hj => ?_⟩
    rw [strs_len] at hj
    rw [hc j hj]
    simp [strs, val]
  · simp only [strs, List.mem_map] at hd
    obtain ⟨x, hx, rfl⟩ := hd
    rw [Holds]
    exact h3 x hx
theorem node_holds {lo : Nat} {w : World} (t3 t4 : Nat) : ∀ e v3 v4, NodeAt lo w e v3 v4 → ∃ d4, erases [.int e.kind, .str e.text, .int e.num, .row t3 1 v3 (strs e.names), .row t4 5 v4 d4] = plainE e ∧ Holdss lo w [.int e.kind, .str e.text, .int e.num, .row t3 1 v3 (strs e.names), .row t4 5 v4 d4] := by
  refine Tree.ind fun k t n ns ks ih => ?_
  intro v3 v4 h
  rw [node_iff] at h
  obtain ⟨h1, h2, h3, h4, a, cap, rfl, ⟨hc1, hc2⟩, hc⟩ := h
  simp only [E.kind, E.text, E.num, E.names, E.kids] at *
  by_cases hp : 0 < ks.length
  · obtain ⟨b, o, rfl, hb, hr⟩ := hc hp
    have go : ∀ (l : List E) (o' : Nat), (∀ e, e ∈ l → ∀ v3 v4, NodeAt lo w e v3 v4 → ∃ d4, erases [.int e.kind, .str e.text, .int e.num, .row t3 1 v3 (strs e.names), .row t4 5 v4 d4] = plainE e ∧ Holdss lo w [.int e.kind, .str e.text, .int e.num, .row t3 1 v3 (strs e.names), .row t4 5 v4 d4]) →
        Tree.Row lo w b l o' → ∃ ds, erases ds = plainEs l ∧ Holdss lo w ds ∧ ∀ j (h : j < ds.length), w.cell? ⟨b, o' + j, none⟩ = some (val ds[j]) := by
      intro l
      induction l with
      | nil => intro o' _ _; exact ⟨[], rfl, trivial, fun j hj => by simp at hj⟩
      | cons e es ihl =>
        intro o' hl hrow
        rw [Tree.Row] at hrow
        obtain ⟨⟨vn, vk, c0, c1, c2, c3, c4, hn⟩, hrest⟩ := hrow
        obtain ⟨d4, he, hh⟩ := hl e (by simp) vn vk hn
        obtain ⟨ds, hes, hhs, hcs⟩ := ihl (o' + 5) (fun x hx => hl x (by simp [hx])) hrest
        refine ⟨[.int e.kind, .str e.text, .int e.num, .row t3 1 vn (strs e.names), .row t4 5 vk d4] ++ ds, by rw [erases_append, he, hes, plainEs], Holdss.append.2 ⟨hh, hhs⟩, fun j hj => ?_⟩
        match j, hj with
        | 0, _ => exact c0
        | 1, _ => exact c1
        | 2, _ => exact c2
        | 3, _ => exact c3
        | 4, _ => exact c4
        | j + 5, hj =>
          have := hcs j (by simpa using hj)
          rw [show o' + (j + 5) = o' + 5 + j by omega, this]
          rfl
    obtain ⟨ds, hes, hhs, hcs⟩ := go ks o ih hr
    have hlen := congrArg List.length hes
    rw [erases_len, plainEs_len] at hlen
    refine ⟨ds, ?_, ?_⟩
    · rw [plainE]
      simp only [erases, erase, strs_erases, hes]
    · simp only [Holdss, and_true]
      refine ⟨by rw [Holds]; exact h1, by rw [Holds]; exact h3, by rw [Holds]; exact h2, texts_holds h4 t3, ?_⟩
      rw [Holds]
      exact ⟨⟨_, ks.length, cap, rfl, by decide, hlen, hc1, hc2, fun _ => ⟨b, o, rfl, hb, hcs⟩⟩, hhs⟩
  · have hk0 : ks = [] := List.eq_nil_of_length_eq_zero (by omega)
    subst hk0
    refine ⟨[], ?_, ?_⟩
    · rw [plainE]
      simp only [erases, erase, strs_erases, plainEs]
    · simp only [Holdss, and_true]
      refine ⟨by rw [Holds]; exact h1, by rw [Holds]; exact h3, by rw [Holds]; exact h2, texts_holds h4 t3, ?_⟩
      rw [Holds]
      exact ⟨⟨a, 0, cap, rfl, by decide, by simp, hc1, hc2, fun hp => by omega⟩, trivial⟩
theorem kids_holds {lo : Nat} {w : World} {es : List E} {v : Value} (h : KidsAt lo w es v) (t : Nat) : ∃ ds, erases ds = plainEs es ∧ Holds lo w (.row t 5 v ds) := by
  have hn : NodeAt lo w (.mk 0 ByteArray.empty 0 [] es) (.slice none 0 0) v := node_iff.2 ⟨show (Lit.int .i64 0).wf = true by decide, show (Lit.int .i64 0).wf = true by decide, show ByteArray.empty.size ≤ maxLen by unfold maxLen; decide,
    show Texts lo w [] (.slice none 0 0) from ⟨none, 0, rfl, ⟨Nat.le_refl _, by unfold maxLen; decide⟩, fun _ h => by (cases h), fun hp => by simp at hp⟩, h⟩
  obtain ⟨d4, he, hh⟩ := node_holds 0 t (.mk 0 ByteArray.empty 0 [] es) (.slice none 0 0) v hn
  refine ⟨d4, ?_, ?_⟩
  · rw [plainE] at he
    simp only [E.kind, E.text, E.num, E.names, erases, erase, List.cons.injEq, P.row.injEq, true_and, and_true] at he
    exact he.2
  · simp only [Holdss, and_true] at hh
    exact hh.2.2.2.2
theorem soft_of {base : Nat} {w : World} : ∀ e (ds : List D) (t3 t4 : Nat) (v3 v4 : Value) (d3 d4 : List D), ds = [.int e.kind, .str e.text, .int e.num, .row t3 1 v3 d3, .row t4 5 v4 d4] → erases ds = plainE e → Goods w ds → (∀ b, b ∈ foots ds → base ≤ b) → Soft.Soft base w e v4 := by
  refine Tree.ind fun k t n ns ks ih => ?_
  intro ds t3 t4 v3 v4 d3 d4 hds he hg hlo
  subst hds
  rw [plainE] at he
  simp only [E.kind, E.text, E.num, erases, erase, List.cons.injEq, P.row.injEq, true_and, and_true] at he hg hlo
  obtain ⟨h3, h4⟩ := he
  rw [goods_iff] at hg
  have g4 := hg (.row t4 5 v4 d4) (by simp)
  rw [Good] at g4
  obtain ⟨⟨m, -, hl, ho⟩, hk⟩ := g4
  have hlen := congrArg List.length h4
  rw [erases_len, plainEs_len] at hlen
  have hm : m = ks.length := by omega
  subst hm
  rw [Soft.soft_iff]
  show Soft.SoftKids base w ks v4
  have ho' := ho
  obtain ⟨_, ⟨rfl, hn⟩ | ⟨g, cap, cur, rfl, hbg, hgg, hnc, hcm, _, _⟩⟩ := ho
  · exact ⟨none, 0, by rw [hn], fun hp => by omega⟩
  · refine ⟨_, cap, rfl, fun hp => ⟨g, 0, rfl, hlo g (by simp [foots, foot, blk, Value.ownBlock]), fun o => ho'.frozenAt o, ?_⟩⟩
    rw [Soft.softrow_iff]
    intro i hi
    obtain ⟨A, x, B, hd, hal, hx⟩ := kids_at ks d4 h4 i hi
    obtain ⟨u3, w3, f3, u4, w4, f4, hx5, -, -⟩ := erases5 hx
    have hxg : Goods w x := (Goods.append.1 (Goods.append.1 (hd ▸ hk)).2).1
    have hxl : ∀ b, b ∈ foots x → base ≤ b := fun b hb => hlo b (by
      have : b ∈ foots d4 := by rw [hd, foots_append, foots_append]; simp [hb]
      simp [foots, foot, this])
    refine ⟨w4, ?_, ih _ (List.getElem_mem _) x u3 u4 w3 w4 f3 f4 hx5 hx hxg hxl⟩
    have hcell : ∀ j (h : j < d4.length), w.cell? ⟨g, 0 + j, none⟩ = some (val d4[j]) := fun j hj => by
      rw [Nat.zero_add, ho'.cellAt j (by omega)]
      exact vals_get d4 j hj
    exact row_at hcell hd hal 4 (.row u4 5 w4 f4) (by rw [hx5]; rfl)
theorem softkids_of {base t : Nat} {w : World} {v : Value} {ds : List D} {es : List E} (he : erases ds = plainEs es) (h : Row base w t 5 v ds) : Soft.SoftKids base w es v := by
  have ho := row_iff.2 h
  have hs := soft_of (base := base) (w := w) (.mk 0 ByteArray.empty 0 [] es) [.int 0, .str ByteArray.empty, .int 0, .row 0 1 (.slice none 0 0) [], .row t 5 v ds] 0 t (.slice none 0 0) v [] ds rfl (by rw [plainE]; simp [erases, erase, he]) (by
    rw [goods_iff]
    intro d hd
    simp only [List.mem_cons, List.not_mem_nil, or_false] at hd
    rcases hd with rfl | rfl | rfl | rfl | rfl
    · rw [Good]; decide
    · rw [Good]; unfold maxLen; decide
    · rw [Good]; decide
    · rw [Good]; exact ⟨⟨0, by decide, rfl, nil_row _ _ _⟩, trivial⟩
    · exact goods_iff.1 ho.good _ (by simp)) (by
    intro b hb
    refine ho.lo b ?_
    simp only [foots, foot, List.append_nil, List.nil_append] at hb ⊢
    simpa [blk, Value.ownBlock] using hb)
  exact Soft.soft_iff.1 hs
end Go.Proofs.YtoaocpfehdcfgaaGreatDoor.Data
