/-
  laws.szClassInfo and szClassInfoS: what they answer, and that they write nothing that was there.
  Rows of numbers as data: laws.szIntS, toIntS and eqIntS over them.
  laws.szObject and szObjectS: what they answer, and that they write nothing that was there.
  laws.szStore and szStoreS: what they answer, and that they write nothing that was there.
-/
import Derived.Test.YtoaocpfehdcfgaaGreatDoorBDataLay
import Derived.Test.YtoaocpfehdcfgaaGreatDoorBDataTree
namespace Go.Proofs.YtoaocpfehdcfgaaGreatDoor.Data
open Go.RowKit
open Strs Tree Texts
set_option maxRecDepth 10000 in
set_option maxHeartbeats 4000000 in
theorem sz_ClassInfo (lo left : Nat) (w : World) (ds : List D) (hl : left ≤ 1048576) (hf : FitL (env 6) (erases ds)) (hh : Holdss lo w ds) :
    Calls Tryz.prog 26 #[agg ds, .int .i64 left] w fun r w' => r = .returned (.int .i64 (after left (weights (erases ds)))) ∧ Below w.heap.size w w' := by
  obtain ⟨s0, e0, rfl, hf_0⟩ := fitL_str hf
  clear hf
  obtain ⟨n1, e1, rfl, hf_1⟩ := fitL_int hf_0
  clear hf_0
  obtain ⟨t2, v2, d2, e2, rfl, f2, hf_2⟩ := fitL_row (k := 1) rfl hf_1
  clear hf_1
  obtain rfl := fitL_nil hf_2
  clear hf_2
  replace hh : Holdss lo w [D.str s0, D.int n1, D.row t2 1 v2 d2] := hh
  simp only [Holdss, and_true] at hh
  obtain ⟨h0, h1, h2⟩ := hh
  rw [Holds] at h0
  unfold maxLen at h0
  clear h1
  have HW : weights (erases [D.str s0, D.int n1, D.row t2 1 v2 d2]) = s0.size + weight (.row 1 (erases d2)) := by
    first | (simp only [erases, erase, weights, weight]; done) | (simp only [erases, erase, weights, weight]; omega)
  have C0 : Hid (Cells w.heap.size [D.str s0, D.int n1, D.row t2 1 v2 d2] (w.alloc (Obj.cells #[Value.string s0, Value.int .i64 n1, v2] 59))) := Lib.hid (cells_new w [D.str s0, D.int n1, D.row t2 1 v2 d2] _)
  have B0 : Hid (Below w.heap.size w (w.alloc (Obj.cells #[Value.string s0, Value.int .i64 n1, v2] 59))) := Lib.hid ((Below.refl _ _).alloc (Nat.le_refl _) _)
  have K2 := fun (w' : World) (l : Nat) (hl : l ≤ 1048576) (hb : Below w.heap.size w w') => Lib.hid (szS_String lo l t2 w' v2 d2 hl f2 (h2.below hb))
  generalize weight (.row 1 (erases d2)) = q2 at *
  clear h2 f2
  generalize weights (erases [D.str s0, D.int n1, D.row t2 1 v2 d2]) = WW at *
  generalize hR : after left WW = R
  have HA := Lib.hid hR
  clear hR
  have HW := Lib.hid HW
  rw [show agg [D.str s0, D.int n1, D.row t2 1 v2 d2] = Value.agg #[Value.string s0, Value.int .i64 n1, v2] from rfl]
  by_cases hs1 : (left : Int) - (s0.size : Int) < 0
  · skip
    have hR : R = -1 := by rw [← HA.out]; exact after_no (by have h0' := HW.out; omega)
    subst hR
    go_enter Tryz.func26, Tryz.ntmps26
    go_wp2_with fail
    go_ret
    exact ⟨rfl, B0.out⟩
  obtain ⟨l1, hl1⟩ : ∃ l' : Nat, l' + s0.size = left := ⟨left - s0.size, by omega⟩
  have e1' : (left : Int) - (s0.size : Int) = (l1 : Int) := by omega
  have HL1 := Lib.hid hl1
  clear hl1
  go_enter Tryz.func26, Tryz.ntmps26
  have a2 := C0.out.at 2 (D.row t2 1 v2 d2) rfl
  simp only [val] at a2
  go_wp2_with fail
  refine (K2 _ l1 (by have h0' := HW.out; have h1' := HL1.out; omega) B0.out).out.mono ?_
  rintro e w1 ⟨rfl, hb1⟩
  have B1 := Lib.hid (B0.out.trans (hb1.mono B0.out.size))
  have C1 := Lib.hid (C0.out.step hb1)
  clear hb1 K2 B0 C0 a2
  by_cases hq2 : q2 ≤ l1
  rotate_left
  · rw [after_no (by omega)]
    have hR : R = -1 := by rw [← HA.out]; exact after_no (by have h0' := HW.out; have h1' := HL1.out; omega)
    subst hR
    go_wp2_with fail
    go_ret
    exact ⟨rfl, B1.out⟩
  rw [after_yes hq2]
  obtain ⟨l2, hl2⟩ : ∃ l' : Nat, l1 - q2 = l' := ⟨_, rfl⟩
  have HL2 : Hid (l2 + q2 = l1) := Lib.hid (by omega)
  rw [hl2]
  clear hl2 hq2
  have hR : R = (l2 : Int) := by rw [← HA.out, after_yes (by have h0' := HW.out; have h1' := HL1.out; have h2' := HL2.out; omega)]; have h0' := HW.out; have h1' := HL1.out; have h2' := HL2.out; omega
  subst hR
  go_wp2_with fail
  go_ret
  exact ⟨rfl, B1.out⟩
set_option maxRecDepth 10000 in
set_option maxHeartbeats 4000000 in
theorem szS_ClassInfo (lo left t : Nat) (w : World) (v : Value) (ds : List D) (hl : left ≤ 1048576) (hf : FitRow 6 (erases ds)) (hh : Holds lo w (.row t 3 v ds)) :
    Calls Tryz.prog 11 #[v, .int .i64 left] w fun r w' => r = .returned (.int .i64 (after left (weight (.row 3 (erases ds))))) ∧ Below w.heap.size w w' := by
  rw [Holds] at hh
  obtain ⟨⟨a, n, cap, rfl, -, hn, hnc, hcm, hc⟩, hds⟩ := hh
  unfold maxLen at hcm
  have HWT : weight (.row 3 (erases ds)) = n + weights (erases ds) := by
    rw [weight, erases_len, hn, Nat.mul_div_cancel _ (by decide)]
  have HN := Lib.hid hn
  have HF := Lib.hid hf
  have HDS := Lib.hid hds
  clear hn hf hds
  by_cases hp : 0 < n
  rotate_left
  · have hn0 : n = 0 := by omega
    subst hn0
    have hd0 : ds = [] := List.eq_nil_of_length_eq_zero (by have := HN.out; omega)
    subst hd0
    rw [HWT]
    simp only [erases, weights]
    rw [after_yes (Nat.zero_le _)]
    clear hc HWT HN HF HDS
    go_enter Tryz.func11, Tryz.ntmps11
    go_wp2_with fail
    refine wp_loop_rounds 1 ?_
    rw [rounds_succ]
    go_wp2_with fail
    go_ret
    exact ⟨by simp, Below.refl _ _⟩
  obtain ⟨b, off, rfl, hb, hc⟩ := hc hp
  have HC := Lib.hid hc
  clear hc hb
  generalize hR : after left (weight (.row 3 (erases ds))) = R
  rw [HWT] at hR
  have HA := Lib.hid hR
  clear hR HWT
  by_cases hbig : (left : Int) - (n : Int) < 0
  · have hR : R = -1 := by rw [← HA.out]; exact after_no (by omega)
    subst hR
    go_enter Tryz.func11, Tryz.ntmps11
    go_wp2_with fail
    go_ret
    exact ⟨rfl, Below.refl _ _⟩
  go_enter Tryz.func11, Tryz.ntmps11
  go_wp2_with fail
  go_loopw [1, 5] (fun t j wr => ∃ (i r : Nat) (A R : List D), ds = A ++ R ∧ A.length = i * 3 ∧ FitRow 6 (erases R) ∧ j = .int .i64 i ∧ r + n + weights (erases A) = left ∧ t = .int .i64 r ∧ Below w.heap.size w wr) (fun _ j _ => n - (intOf j).toNat)
  case atStart => exact ⟨0, left - n, [], ds, rfl, by simp, HF.out, rfl, by simp [erases, weights]; omega, by go_num, Below.refl _ _⟩
  case round =>
    obtain ⟨i, r, A, R', hds, hal, hfr, rfl, hq, rfl, hbw⟩ := hrel
    have HD := Lib.hid hds
    have HAL := Lib.hid hal
    have HQ := Lib.hid hq
    clear hds hal hq
    rcases fitRow_cases hfr with rfl | ⟨item, rest, rfl, hfi, hfrest⟩
    · have hin : i = n := by
        have h1 := HN.out
        rw [HD.out, List.append_nil, HAL.out] at h1
        omega
      have hR : R = (r : Int) := by
        have h1 := HQ.out
        rw [← HA.out, HD.out, List.append_nil, after_yes (by omega)]
        omega
      subst hin
      have HR2 := Lib.hid hR
      clear hR hfr
      go_wp2_with fail
      go_ret
      exact ⟨by rw [HR2.out]; rfl, hbw⟩
    have hil : item.length = 3 := by have := fitL_len hfi; rw [erases_len] at this; exact this
    have hlt : i < n := by
      have h1 := HN.out
      rw [HD.out, List.length_append, List.length_append, HAL.out, hil] at h1
      omega
    have HIT := Lib.hid hfi
    clear hil hfr
    obtain ⟨s0, e0, rfl, hfi_0⟩ := fitL_str hfi
    clear hfi
    obtain ⟨n1, e1, rfl, hfi_1⟩ := fitL_int hfi_0
    clear hfi_0
    obtain ⟨t2, v2, d2, e2, rfl, f2, hfi_2⟩ := fitL_row (k := 1) rfl hfi_1
    clear hfi_1
    obtain rfl := fitL_nil hfi_2
    clear hfi_2
    have c0 := cell_keep hbw (row_at0 HC.out HD.out HAL.out (D.str s0) rfl)
    simp only [val] at c0
    have c1 := cell_keep hbw (row_at HC.out HD.out HAL.out 1 (D.int n1) rfl)
    simp only [val] at c1
    have c2 := cell_keep hbw (row_at HC.out HD.out HAL.out 2 (D.row t2 1 v2 d2) rfl)
    simp only [val] at c2
    have hit : Holdss lo wr [D.str s0, D.int n1, D.row t2 1 v2 d2] := ((Holdss.append.1 ((Holdss.append.1 (HD.out ▸ HDS.out)).2)).1).below hbw
    have KI := Lib.hid (sz_ClassInfo lo r wr [D.str s0, D.int n1, D.row t2 1 v2 d2] (by have := HQ.out; omega) HIT.out hit)
    have HWA : Hid (weights (erases (A ++ [D.str s0, D.int n1, D.row t2 1 v2 d2])) = weights (erases A) + weights (erases [D.str s0, D.int n1, D.row t2 1 v2 d2])) := Lib.hid (by rw [erases_append, weights_append])
    have HWB : Hid (weights (erases ds) = weights (erases A) + weights (erases [D.str s0, D.int n1, D.row t2 1 v2 d2]) + weights (erases rest)) := Lib.hid (by rw [HD.out, erases_append, erases_append, weights_append, weights_append, Nat.add_assoc])
    have HD2 : Hid (ds = (A ++ [D.str s0, D.int n1, D.row t2 1 v2 d2]) ++ rest) := Lib.hid (by rw [HD.out, List.append_assoc])
    have HAL2 : Hid ((A ++ [D.str s0, D.int n1, D.row t2 1 v2 d2]).length = (i + 1) * 3) := Lib.hid (by rw [List.length_append, HAL.out, Nat.succ_mul]; rfl)
    have HFR := Lib.hid hfrest
    generalize hqi : weights (erases [D.str s0, D.int n1, D.row t2 1 v2 d2]) = qi at *
    have HB := Lib.hid hbw
    clear hit hfrest hqi hbw HIT HD HAL
    clear f2
    simp only [agg, vals, List.map, val] at KI
    go_wp2_with fail
    refine KI.out.mono ?_
    rintro e w1 ⟨rfl, hb1⟩
    have HB1 := Lib.hid (HB.out.trans (hb1.mono HB.out.size))
    clear hb1 KI HB
    by_cases hle : qi ≤ r
    · rw [after_yes hle]
      have HT2 : Hid (r - qi + n + weights (erases (A ++ [D.str s0, D.int n1, D.row t2 1 v2 d2])) = left) := Lib.hid (by
        have h1 := HWA.out
        have h2 := HQ.out
        omega)
      generalize r - qi = r' at *
      go_wp2_with fail
      go_roundw
      case rel => exact ⟨i + 1, r', A ++ [D.str s0, D.int n1, D.row t2 1 v2 d2], rest, HD2.out, HAL2.out, HFR.out, by go_num, HT2.out, rfl, HB1.out⟩
      case measure => simp [intOf]; omega
    · rw [after_no (by omega)]
      have hR : R = -1 := by
        rw [← HA.out]
        have h1 := HWB.out
        have h2 := HQ.out
        exact after_no (by omega)
      subst hR
      go_wp2_with fail
      go_ret
      exact ⟨rfl, HB1.out⟩
end Go.Proofs.YtoaocpfehdcfgaaGreatDoor.Data

namespace Go.Proofs.YtoaocpfehdcfgaaGreatDoor.Data
open Go.RowKit
open Strs Tree Texts
theorem info_int : (Tryz.prog.info? 3).map (fun i => (i.zero, i.size, i.bytes)) = some (some (.int .i64 0), 1, 8) := by kernel_rfl
def Nums (lo : Nat) (w : World) (xs : List Int) (v : Value) : Prop :=
  ∃ a c, v = .slice a xs.length c ∧ (xs.length ≤ c ∧ c ≤ maxLen) ∧ (∀ x, x ∈ xs → (Lit.int .i64 x).wf = true) ∧ (0 < xs.length → ∃ b o, a = some ⟨b, o, none⟩ ∧ lo ≤ b ∧ ∀ j (h : j < xs.length), w.cell? ⟨b, o + j, none⟩ = some (.int .i64 xs[j]))
theorem Nums.below {lo : Nat} {w w' : World} {xs : List Int} {v : Value} (h : Nums lo w xs v) (hb : Below w.heap.size w w') : Nums lo w' xs v := by
  obtain ⟨a, c, rfl, hm, hs, hc⟩ := h
  refine ⟨a, c, rfl, hm, hs, fun hp => ?_⟩
  obtain ⟨b, o, rfl, hl, hd⟩ := hc hp
  exact ⟨b, o, rfl, hl, fun j hj => cell_keep hb (hd j hj)⟩
def nums (xs : List Int) : List D := xs.map D.int
def numP (xs : List Int) : List P := xs.map P.int
theorem nums_vals (xs : List Int) : vals (nums xs) = xs.map (Value.int .i64) := by simp [vals, nums, val, Function.comp_def]
theorem nums_len (xs : List Int) : (nums xs).length = xs.length := by simp [nums]
theorem nums_erases (xs : List Int) : erases (nums xs) = numP xs := by
  induction xs with
  | nil => rfl
  | cons x xs ih => rw [nums, List.map_cons, erases]; show _ :: erases (nums xs) = _; rw [ih]; rfl
theorem nums_foots (xs : List Int) : foots (nums xs) = [] := by
  induction xs with
  | nil => rfl
  | cons x xs ih => rw [nums, List.map_cons, foots]; show foot (.int x) ++ foots (nums xs) = _; rw [ih]; rfl
theorem nums_fit (xs : List Int) : FitRow 1 (numP xs) := by
  induction xs with
  | nil => exact FitRow.nil 1
  | cons x xs ih => exact FitRow.cons 1 _ [.int x] _ rfl (FitL.cons _ _ _ _ (Fit.int x) FitL.nil) ih
theorem nums_weights (xs : List Int) : Data.weights (numP xs) = 0 := by
  induction xs with
  | nil => rfl
  | cons x xs ih =>
    show Data.weights (P.int x :: numP xs) = 0
    rw [Data.weights, Data.weight, ih]
theorem nums_of : ∀ (n : Nat) (ds : List D), ds.length ≤ n → FitRow 1 (erases ds) → ∃ xs, ds = nums xs := by
  intro n
  induction n with
  | zero => intro ds hl _; exact ⟨[], List.eq_nil_of_length_eq_zero (Nat.le_zero.1 hl)⟩
  | succ n ih =>
    intro ds hl h
    rcases fitRow_cases h with rfl | ⟨item, rest, rfl, h1, h2⟩
    · exact ⟨[], rfl⟩
    · obtain ⟨s, es, rfl, h3⟩ := fitL_int h1
      obtain rfl := fitL_nil h3
      obtain ⟨xs, rfl⟩ := ih rest (by simp at hl; omega) h2
      exact ⟨s :: xs, rfl⟩
theorem nums_get {ds : List D} (h : FitRow 1 (erases ds)) : ∃ xs, ds = nums xs := nums_of _ ds (Nat.le_refl _) h
theorem num_inj (xs ys : List Int) (h : numP xs = numP ys) : xs = ys :=
  (List.map_inj_right (fun a b h => by cases h; rfl)).1 h
theorem nums_goods {w : World} {xs : List Int} : Goods w (nums xs) ↔ ∀ x, x ∈ xs → (Lit.int .i64 x).wf = true := by
  rw [goods_iff]
  constructor
  · intro h x hx
    have := h (.int x) (by simp [nums, hx])
    rw [Good] at this
    exact this
  · intro h d hd
    simp only [nums, List.mem_map] at hd
    obtain ⟨x, hx, rfl⟩ := hd
    rw [Good]
    exact h x hx
theorem nums_at {lo t : Nat} {w : World} {v : Value} {xs : List Int} (h : Holds lo w (.row t 1 v (nums xs))) : Nums lo w xs v := by
  rw [Holds] at h
  obtain ⟨⟨a, n, cap, rfl, -, h1, h2, h3, h4⟩, h5⟩ := h
  rw [nums_len, Nat.mul_one] at h1
  subst h1
  refine ⟨a, cap, rfl, ⟨h2, h3⟩, fun x hx => ?_, fun hp => ?_⟩
  · have := holdss_iff.1 h5 (.int x) (by simp [nums, hx])
    rw [Holds] at this
    exact this
  · obtain ⟨b, o, rfl, hb, hc⟩ := h4 hp
    refine ⟨b, o, rfl, hb, fun j hj => ?_⟩
    rw [hc j (by rw [nums_len]; exact hj)]
    simp [nums, val]
theorem nums_row {T base : Nat} {w : World} {v : Value} {xs : List Int} (h : w.ownsRow base T 1 v xs.length (xs.map (Value.int .i64))) (hx : ∀ x, x ∈ xs → (Lit.int .i64 x).wf = true) : Row base w T 1 v (nums xs) :=
  ⟨⟨xs.length, by decide, by rw [nums_len, Nat.mul_one], by rw [nums_vals]; exact h⟩, ⟨nums_goods.2 hx, by rw [nums_foots]; exact List.nodup_nil, fun b hb => by rw [nums_foots] at hb; cases hb⟩, fun b _ hb => by rw [nums_foots] at hb; cases hb⟩
theorem szS_Int (lo left t : Nat) (w : World) (v : Value) (ds : List D) (hl : left ≤ 1048576) (hf : FitRow 1 (erases ds)) (hh : Holds lo w (.row t 1 v ds)) :
    Calls Tryz.prog 55 #[v, .int .i64 left] w fun r w' => r = .returned (.int .i64 (after left (weight (.row 1 (erases ds))))) ∧ Below w.heap.size w w' := by
  obtain ⟨xs, rfl⟩ := nums_get hf
  obtain ⟨a, c, rfl, hm, -, -⟩ := nums_at hh
  have hw : weight (.row 1 (erases (nums xs))) = xs.length := by
    rw [nums_erases, weight, nums_weights]; simp [numP]
  rw [hw]
  generalize xs.length = n at *
  unfold maxLen at hm
  clear hw hh hf
  by_cases hn : n ≤ left
  · rw [after_yes hn]
    have g1 : ¬ (left : Int) - (n : Int) < 0 := by omega
    have HE : Hid (((left - n : Nat) : Int) = (left : Int) - n) := Lib.hid (by omega)
    rw [HE.out]
    go_enter Tryz.func55, Tryz.ntmps55
    go_wp2_with fail
    go_ret
    exact ⟨rfl, Below.refl _ _⟩
  · rw [after_no (by omega)]
    have g1 : (left : Int) - (n : Int) < 0 := by omega
    go_enter Tryz.func55, Tryz.ntmps55
    go_wp2_with fail
    go_ret
    exact ⟨rfl, Below.refl _ _⟩
def CopiedN (xs : List Int) (n : Nat) (w : World) (e : Ending) (w' : World) : Prop :=
  e = .returned (.slice (some ⟨w.heap.size, 0, none⟩) n n) ∧ w'.ownsRow w.heap.size 3 1 (.slice (some ⟨w.heap.size, 0, none⟩) n n) n (xs.map (Value.int .i64)) ∧ Below w.heap.size w w'
set_option maxHeartbeats 400000 in
theorem toN_nil (a : Option Addr) (c : Nat) (w : World) :
    Calls Tryz.prog 63 #[.slice a 0 c] w (CopiedN [] 0 w) := by
  obtain ⟨i0, hi, hz0, hz1, hz2⟩ := info_parts info_int
  go_enter Tryz.func63, Tryz.ntmps63
  go_wp2_with (at_make; refine wpList_make_full _ rfl _ _ 62 rfl w.heap.size 3 i0 (.int .i64 0) 1 Tryz.underlying62 hi hz0 hz1 .i64 .i64 _ _ 0 rfl rfl rfl rfl ?c2 ?c3 (Nat.le_refl _) ?_)
  case c2 => omega
  case c3 => unfold maxLen; omega
  intro w1 hown hgr
  have hbl : Below w.heap.size w w1 := (Below.refl _ _).grown hgr (Nat.le_refl _) (by simp)
  have HO : Hid (w1.ownsRow w.heap.size 3 1 (.slice (some ⟨w.heap.size, 0, none⟩) 0 0) 0 ([].map (Value.int .i64))) := by show World.ownsRow _ _ _ _ _ _ _; simpa [madeCells] using hown
  clear hown hgr
  go_wp2_with fail
  refine wp_loop_rounds 1 ?_
  rw [rounds_succ]
  go_wp2_with fail
  go_ret
  exact ⟨rfl, HO.out, hbl⟩
theorem made_int (n : Nat) : (madeCells #[Value.int .i64 0] n).toList = (List.replicate n (0 : Int)).map (Value.int .i64) := by
  apply List.ext_getElem <;> simp [madeCells, Nat.mod_one]
theorem copy_setN (xs : List Int) (i n : Nat) (hn : xs.length = n) (hi : i < xs.length) : (xs.take i ++ List.replicate (n - i) 0).set i xs[i] = xs.take (i + 1) ++ List.replicate (n - (i + 1)) 0 := by
  have hl : (xs.take i).length = i := by rw [List.length_take]; omega
  rw [List.set_append_right _ _ (by omega), hl, Nat.sub_self, show n - i = (n - (i + 1)) + 1 by omega, List.replicate_succ, List.set_cons_zero, List.take_succ_eq_append_getElem (by omega), List.append_assoc]
  rfl
set_option maxHeartbeats 1000000 in
theorem toN_cons (b off cap n : Nat) (xs : List Int) (w : World) (hn : xs.length = n) (hm : n ≤ 1048576) (hl : ∀ j (h : j < xs.length), w.cell? ⟨b, off + j, none⟩ = some (.int .i64 xs[j])) :
    Calls Tryz.prog 63 #[.slice (some ⟨b, off, none⟩) n cap] w (CopiedN xs n w) := by
  obtain ⟨i0, hi, hz0, hz1, hz2⟩ := info_parts info_int
  have HN := Lib.hid hn; clear hn
  have HL := Lib.hid hl; clear hl
  go_enter Tryz.func63, Tryz.ntmps63
  go_wp2_with (at_make; refine wpList_make_full _ rfl _ _ 62 rfl w.heap.size 3 i0 (.int .i64 0) 1 Tryz.underlying62 hi hz0 hz1 .i64 .i64 _ _ n rfl rfl rfl rfl ?c2 ?c3 (Nat.le_refl _) ?_)
  case c2 => rw [hz2]; omega
  case c3 => unfold maxLen; omega
  intro w1 hown hgr
  have hbl : Below w.heap.size w w1 := (Below.refl _ _).grown hgr (Nat.le_refl _) (by simp)
  have HO : Hid (w1.ownsRow w.heap.size 3 1 (.slice (some ⟨w.heap.size, 0, none⟩) n n) n ((List.replicate n 0).map (Value.int .i64))) := by
    show World.ownsRow _ _ _ _ _ _ _; rw [← made_int]; simpa using hown
  clear hown hgr
  go_wp2_with fail
  go_loopw [4] (fun j wr => ∃ i : Nat, i ≤ n ∧ j = .int .i64 i ∧ wr.ownsRow w.heap.size 3 1 (.slice (some ⟨w.heap.size, 0, none⟩) n n) n ((xs.take i ++ List.replicate (n - i) 0).map (Value.int .i64)) ∧ Below w.heap.size w wr) (fun j _ => n - (intOf j).toNat)
  case atStart => exact ⟨0, by omega, rfl, by simpa using HO.out, hbl⟩
  case round =>
    obtain ⟨i, hi', rfl, ho, hbw⟩ := hrel
    have HO1 := Lib.hid ho; clear ho
    by_cases hlt : i < n
    · have hil : i < xs.length := by rw [HN.out]; exact hlt
      have hc1 : wr.cell? ⟨b, off + i, none⟩ = some (.int .i64 xs[i]) := cell_keep hbw (HL.out i hil)
      have hcell : ∃ v, wr.cell? ⟨w.heap.size, i, none⟩ = some v := by
        rw [HO1.out.cellAt _ (by omega)]
        exact ⟨_, List.getElem?_eq_getElem (by have := HN.out; simp; omega)⟩
      obtain ⟨v, hcell⟩ := hcell
      have hfr : wr.frozen? ⟨w.heap.size, i, none⟩ = false := HO1.out.frozenAt _
      have HS : Hid ((xs.take i ++ List.replicate (n - i) 0).set i xs[i] = xs.take (i + 1) ++ List.replicate (n - (i + 1)) 0) := copy_setN xs i n HN.out hil
      generalize xs[i] = x at *
      go_wp2_with fail
      go_roundw
      case rel =>
        have h := (HO1.out.stored i (.int .i64 x)).1
        rw [← List.map_set, HS.out] at h
        exact ⟨i + 1, by omega, by go_num, h, hbw.setCell (Nat.le_refl _) _⟩
      case measure => simp [intOf]; omega
    · go_wp2_with fail
      go_ret
      have h1 : i = n := by omega
      have h2 := HO1.out
      rw [h1, Nat.sub_self, List.take_of_length_le (by rw [HN.out]; exact Nat.le_refl _), List.replicate_zero, List.append_nil] at h2
      exact ⟨rfl, h2, hbw⟩
theorem toS_Int (lo t : Nat) (w : World) (v : Value) (ds : List D) (hw : weight (.row 1 (erases ds)) ≤ 1048576) (hf : FitRow 1 (erases ds)) (hh : Holds lo w (.row t 1 v ds)) :
    Calls Tryz.prog 63 #[v] w fun r w' => ∃ a n c ds', r = .returned (.slice a n c) ∧ erases ds' = erases ds ∧ Row w.heap.size w' 3 1 (.slice a n c) ds' ∧ Below w.heap.size w w' := by
  obtain ⟨xs, rfl⟩ := nums_get hf
  have hn : xs.length ≤ 1048576 := by
    rw [nums_erases, weight, nums_weights, Nat.div_one] at hw
    simpa [numP] using hw
  have ht := nums_at hh
  have hx := ht.choose_spec.choose_spec.2.2.1
  have H : Calls Tryz.prog 63 #[v] w (CopiedN xs xs.length w) := by
    obtain ⟨a, cap, rfl, hm, hs, hc⟩ := ht
    by_cases hp : 0 < xs.length
    · obtain ⟨b, off, rfl, hb, hd⟩ := hc hp
      exact toN_cons b off cap _ xs w rfl hn hd
    · have : xs = [] := List.eq_nil_of_length_eq_zero (by omega)
      subst this
      exact toN_nil a cap w
  refine H.mono ?_
  rintro e w' ⟨rfl, ho, hb⟩
  exact ⟨_, _, _, nums xs, rfl, rfl, nums_row ho hx, hb⟩
set_option maxHeartbeats 400000 in
theorem eqN_nil (a1 a2 : Option Addr) (c1 c2 : Nat) (w : World) :
    Calls Tryz.prog 80 #[.slice a1 0 c1, .slice a2 0 c2] w fun e w' => e = .returned (.bool true) ∧ Below w.heap.size w w' := by
  go_enter Tryz.func80, Tryz.ntmps80
  go_wp2_with fail
  refine wp_loop_rounds 1 ?_
  rw [rounds_succ]
  go_wp2_with fail
  go_ret
  exact ⟨rfl, Below.refl _ _⟩
set_option maxHeartbeats 400000 in
theorem eqN_cons (b1 o1 c1 b2 o2 c2 n : Nat) (xs : List Int) (w : World) (hn : xs.length = n) (hm : n ≤ maxLen)
    (h1 : ∀ j (h : j < xs.length), w.cell? ⟨b1, o1 + j, none⟩ = some (.int .i64 xs[j])) (h2 : ∀ j (h : j < xs.length), w.cell? ⟨b2, o2 + j, none⟩ = some (.int .i64 xs[j])) :
    Calls Tryz.prog 80 #[.slice (some ⟨b1, o1, none⟩) n c1, .slice (some ⟨b2, o2, none⟩) n c2] w fun e w' => e = .returned (.bool true) ∧ Below w.heap.size w w' := by
  unfold maxLen at hm
  have H1 := Lib.hid h1; clear h1
  have H2 := Lib.hid h2; clear h2
  have HN := Lib.hid hn; clear hn
  go_enter Tryz.func80, Tryz.ntmps80
  go_wp2_with fail
  go_loopw [5] (fun j wr => ∃ i : Nat, i ≤ n ∧ j = .int .i64 i ∧ Below w.heap.size w wr) (fun j _ => n - (intOf j).toNat)
  case atStart => exact ⟨0, by omega, rfl, Below.refl _ _⟩
  case round =>
    obtain ⟨i, hi, rfl, hbw⟩ := hrel
    by_cases hlt : i < n
    · have hil : i < xs.length := by rw [HN.out]; exact hlt
      have hA := H1.out i hil
      have hB := H2.out i hil
      have hc1 : wr.cell? ⟨b1, o1 + i, none⟩ = some (.int .i64 xs[i]) := cell_keep hbw hA
      have hc2 : wr.cell? ⟨b2, o2 + i, none⟩ = some (.int .i64 xs[i]) := cell_keep hbw hB
      clear hA hB
      generalize xs[i] = s at *
      go_wp2_with fail
      go_quiet (fail)
      go_wp2_with fail
      go_roundw
      case rel => exact ⟨i + 1, by omega, by go_num, below_drewN hbw _⟩
      case measure => simp [intOf]; omega
    · go_wp2_with fail
      go_ret
      exact ⟨rfl, hbw⟩
theorem eqS_Int (lo1 lo2 t1 t2 : Nat) (w : World) (v1 v2 : Value) (ds1 ds2 : List D) (he : erases ds1 = erases ds2) (hf : FitRow 1 (erases ds1)) (h1 : Holds lo1 w (.row t1 1 v1 ds1)) (h2 : Holds lo2 w (.row t2 1 v2 ds2)) :
    Calls Tryz.prog 80 #[v1, v2] w fun r w' => r = .returned (.bool true) ∧ Below w.heap.size w w' := by
  obtain ⟨xs, rfl⟩ := nums_get hf
  obtain ⟨ys, rfl⟩ := nums_get (he ▸ hf)
  rw [nums_erases, nums_erases] at he
  obtain rfl := num_inj _ _ he
  obtain ⟨a1, c1, rfl, hm, _, hc1⟩ := nums_at h1
  obtain ⟨a2, c2, rfl, _, _, hc2⟩ := nums_at h2
  by_cases hp : 0 < xs.length
  · obtain ⟨b1, o1, rfl, _, hd1⟩ := hc1 hp
    obtain ⟨b2, o2, rfl, _, hd2⟩ := hc2 hp
    exact eqN_cons b1 o1 c1 b2 o2 c2 xs.length xs w rfl (Nat.le_trans hm.1 hm.2) hd1 hd2
  · have h0 : xs.length = 0 := by omega
    rw [h0]
    exact eqN_nil a1 a2 c1 c2 w
end Go.Proofs.YtoaocpfehdcfgaaGreatDoor.Data

namespace Go.Proofs.YtoaocpfehdcfgaaGreatDoor.Data
open Go.RowKit
open Strs Tree Texts
set_option maxRecDepth 10000 in
set_option maxHeartbeats 4000000 in
theorem sz_Object (lo left : Nat) (w : World) (ds : List D) (hl : left ≤ 1048576) (hf : FitL (env 11) (erases ds)) (hh : Holdss lo w ds) :
    Calls Tryz.prog 27 #[agg ds, .int .i64 left] w fun r w' => r = .returned (.int .i64 (after left (weights (erases ds)))) ∧ Below w.heap.size w w' := by
  obtain ⟨n0, e0, rfl, hf_0⟩ := fitL_int hf
  clear hf
  obtain ⟨n1, e1, rfl, hf_1⟩ := fitL_int hf_0
  clear hf_0
  obtain ⟨t2, v2, d2, e2, rfl, f2, hf_2⟩ := fitL_row (k := 3) rfl hf_1
  clear hf_1
  obtain ⟨t3, v3, d3, e3, rfl, f3, hf_3⟩ := fitL_row (k := 1) rfl hf_2
  clear hf_2
  obtain rfl := fitL_nil hf_3
  clear hf_3
  replace hh : Holdss lo w [D.int n0, D.int n1, D.row t2 3 v2 d2, D.row t3 1 v3 d3] := hh
  simp only [Holdss, and_true] at hh
  obtain ⟨h0, h1, h2, h3⟩ := hh
  clear h0
  clear h1
  have HW : weights (erases [D.int n0, D.int n1, D.row t2 3 v2 d2, D.row t3 1 v3 d3]) = weight (.row 3 (erases d2)) + weight (.row 1 (erases d3)) := by
    first | (simp only [erases, erase, weights, weight]; done) | (simp only [erases, erase, weights, weight]; omega)
  have C0 : Hid (Cells w.heap.size [D.int n0, D.int n1, D.row t2 3 v2 d2, D.row t3 1 v3 d3] (w.alloc (Obj.cells #[Value.int .i64 n0, Value.int .i64 n1, v2, v3] 64))) := Lib.hid (cells_new w [D.int n0, D.int n1, D.row t2 3 v2 d2, D.row t3 1 v3 d3] _)
  have B0 : Hid (Below w.heap.size w (w.alloc (Obj.cells #[Value.int .i64 n0, Value.int .i64 n1, v2, v3] 64))) := Lib.hid ((Below.refl _ _).alloc (Nat.le_refl _) _)
  have K2 := fun (w' : World) (l : Nat) (hl : l ≤ 1048576) (hb : Below w.heap.size w w') => Lib.hid (szS_Value lo l t2 w' v2 d2 hl f2 (h2.below hb))
  have K3 := fun (w' : World) (l : Nat) (hl : l ≤ 1048576) (hb : Below w.heap.size w w') => Lib.hid (szS_Int lo l t3 w' v3 d3 hl f3 (h3.below hb))
  generalize weight (.row 3 (erases d2)) = q2 at *
  generalize weight (.row 1 (erases d3)) = q3 at *
  clear h2 f2
  clear h3 f3
  generalize weights (erases [D.int n0, D.int n1, D.row t2 3 v2 d2, D.row t3 1 v3 d3]) = WW at *
  generalize hR : after left WW = R
  have HA := Lib.hid hR
  clear hR
  have HW := Lib.hid HW
  rw [show agg [D.int n0, D.int n1, D.row t2 3 v2 d2, D.row t3 1 v3 d3] = Value.agg #[Value.int .i64 n0, Value.int .i64 n1, v2, v3] from rfl]
  go_enter Tryz.func27, Tryz.ntmps27
  have a2 := C0.out.at 2 (D.row t2 3 v2 d2) rfl
  simp only [val] at a2
  go_wp2_with fail
  refine (K2 _ left (by have h0' := HW.out; omega) B0.out).out.mono ?_
  rintro e w1 ⟨rfl, hb1⟩
  have B1 := Lib.hid (B0.out.trans (hb1.mono B0.out.size))
  have C1 := Lib.hid (C0.out.step hb1)
  clear hb1 K2 B0 C0 a2
  by_cases hq1 : q2 ≤ left
  rotate_left
  · rw [after_no (by omega)]
    have hR : R = -1 := by rw [← HA.out]; exact after_no (by have h0' := HW.out; omega)
    subst hR
    go_wp2_with fail
    go_ret
    exact ⟨rfl, B1.out⟩
  rw [after_yes hq1]
  obtain ⟨l1, hl1⟩ : ∃ l' : Nat, left - q2 = l' := ⟨_, rfl⟩
  have HL1 : Hid (l1 + q2 = left) := Lib.hid (by omega)
  rw [hl1]
  clear hl1 hq1
  have a3 := C1.out.at 3 (D.row t3 1 v3 d3) rfl
  simp only [val] at a3
  go_wp2_with fail
  refine (K3 _ l1 (by have h0' := HW.out; have h1' := HL1.out; omega) B1.out).out.mono ?_
  rintro e w2 ⟨rfl, hb2⟩
  have B2 := Lib.hid (B1.out.trans (hb2.mono B1.out.size))
  have C2 := Lib.hid (C1.out.step hb2)
  clear hb2 K3 B1 C1 a3
  by_cases hq2 : q3 ≤ l1
  rotate_left
  · rw [after_no (by omega)]
    have hR : R = -1 := by rw [← HA.out]; exact after_no (by have h0' := HW.out; have h1' := HL1.out; omega)
    subst hR
    go_wp2_with fail
    go_ret
    exact ⟨rfl, B2.out⟩
  rw [after_yes hq2]
  obtain ⟨l2, hl2⟩ : ∃ l' : Nat, l1 - q3 = l' := ⟨_, rfl⟩
  have HL2 : Hid (l2 + q3 = l1) := Lib.hid (by omega)
  rw [hl2]
  clear hl2 hq2
  have hR : R = (l2 : Int) := by rw [← HA.out, after_yes (by have h0' := HW.out; have h1' := HL1.out; have h2' := HL2.out; omega)]; have h0' := HW.out; have h1' := HL1.out; have h2' := HL2.out; omega
  subst hR
  go_wp2_with fail
  go_ret
  exact ⟨rfl, B2.out⟩
set_option maxRecDepth 10000 in
set_option maxHeartbeats 4000000 in
theorem szS_Object (lo left t : Nat) (w : World) (v : Value) (ds : List D) (hl : left ≤ 1048576) (hf : FitRow 11 (erases ds)) (hh : Holds lo w (.row t 4 v ds)) :
    Calls Tryz.prog 12 #[v, .int .i64 left] w fun r w' => r = .returned (.int .i64 (after left (weight (.row 4 (erases ds))))) ∧ Below w.heap.size w w' := by
  rw [Holds] at hh
  obtain ⟨⟨a, n, cap, rfl, -, hn, hnc, hcm, hc⟩, hds⟩ := hh
  unfold maxLen at hcm
  have HWT : weight (.row 4 (erases ds)) = n + weights (erases ds) := by
    rw [weight, erases_len, hn, Nat.mul_div_cancel _ (by decide)]
  have HN := Lib.hid hn
  have HF := Lib.hid hf
  have HDS := Lib.hid hds
  clear hn hf hds
  by_cases hp : 0 < n
  rotate_left
  · have hn0 : n = 0 := by omega
    subst hn0
    have hd0 : ds = [] := List.eq_nil_of_length_eq_zero (by have := HN.out; omega)
    subst hd0
    rw [HWT]
    simp only [erases, weights]
    rw [after_yes (Nat.zero_le _)]
    clear hc HWT HN HF HDS
    go_enter Tryz.func12, Tryz.ntmps12
    go_wp2_with fail
    refine wp_loop_rounds 1 ?_
    rw [rounds_succ]
    go_wp2_with fail
    go_ret
    exact ⟨by simp, Below.refl _ _⟩
  obtain ⟨b, off, rfl, hb, hc⟩ := hc hp
  have HC := Lib.hid hc
  clear hc hb
  generalize hR : after left (weight (.row 4 (erases ds))) = R
  rw [HWT] at hR
  have HA := Lib.hid hR
  clear hR HWT
  by_cases hbig : (left : Int) - (n : Int) < 0
  · have hR : R = -1 := by rw [← HA.out]; exact after_no (by omega)
    subst hR
    go_enter Tryz.func12, Tryz.ntmps12
    go_wp2_with fail
    go_ret
    exact ⟨rfl, Below.refl _ _⟩
  go_enter Tryz.func12, Tryz.ntmps12
  go_wp2_with fail
  go_loopw [1, 5] (fun t j wr => ∃ (i r : Nat) (A R : List D), ds = A ++ R ∧ A.length = i * 4 ∧ FitRow 11 (erases R) ∧ j = .int .i64 i ∧ r + n + weights (erases A) = left ∧ t = .int .i64 r ∧ Below w.heap.size w wr) (fun _ j _ => n - (intOf j).toNat)
  case atStart => exact ⟨0, left - n, [], ds, rfl, by simp, HF.out, rfl, by simp [erases, weights]; omega, by go_num, Below.refl _ _⟩
  case round =>
    obtain ⟨i, r, A, R', hds, hal, hfr, rfl, hq, rfl, hbw⟩ := hrel
    have HD := Lib.hid hds
    have HAL := Lib.hid hal
    have HQ := Lib.hid hq
    clear hds hal hq
    rcases fitRow_cases hfr with rfl | ⟨item, rest, rfl, hfi, hfrest⟩
    · have hin : i = n := by
        have h1 := HN.out
        rw [HD.out, List.append_nil, HAL.out] at h1
        omega
      have hR : R = (r : Int) := by
        have h1 := HQ.out
        rw [← HA.out, HD.out, List.append_nil, after_yes (by omega)]
        omega
      subst hin
      have HR2 := Lib.hid hR
      clear hR hfr
      go_wp2_with fail
      go_ret
      exact ⟨by rw [HR2.out]; rfl, hbw⟩
    have hil : item.length = 4 := by have := fitL_len hfi; rw [erases_len] at this; exact this
    have hlt : i < n := by
      have h1 := HN.out
      rw [HD.out, List.length_append, List.length_append, HAL.out, hil] at h1
      omega
    have HIT := Lib.hid hfi
    clear hil hfr
    obtain ⟨n0, e0, rfl, hfi_0⟩ := fitL_int hfi
    clear hfi
    obtain ⟨n1, e1, rfl, hfi_1⟩ := fitL_int hfi_0
    clear hfi_0
    obtain ⟨t2, v2, d2, e2, rfl, f2, hfi_2⟩ := fitL_row (k := 3) rfl hfi_1
    clear hfi_1
    obtain ⟨t3, v3, d3, e3, rfl, f3, hfi_3⟩ := fitL_row (k := 1) rfl hfi_2
    clear hfi_2
    obtain rfl := fitL_nil hfi_3
    clear hfi_3
    have c0 := cell_keep hbw (row_at0 HC.out HD.out HAL.out (D.int n0) rfl)
    simp only [val] at c0
    have c1 := cell_keep hbw (row_at HC.out HD.out HAL.out 1 (D.int n1) rfl)
    simp only [val] at c1
    have c2 := cell_keep hbw (row_at HC.out HD.out HAL.out 2 (D.row t2 3 v2 d2) rfl)
    simp only [val] at c2
    have c3 := cell_keep hbw (row_at HC.out HD.out HAL.out 3 (D.row t3 1 v3 d3) rfl)
    simp only [val] at c3
    have hit : Holdss lo wr [D.int n0, D.int n1, D.row t2 3 v2 d2, D.row t3 1 v3 d3] := ((Holdss.append.1 ((Holdss.append.1 (HD.out ▸ HDS.out)).2)).1).below hbw
    have KI := Lib.hid (sz_Object lo r wr [D.int n0, D.int n1, D.row t2 3 v2 d2, D.row t3 1 v3 d3] (by have := HQ.out; omega) HIT.out hit)
    have HWA : Hid (weights (erases (A ++ [D.int n0, D.int n1, D.row t2 3 v2 d2, D.row t3 1 v3 d3])) = weights (erases A) + weights (erases [D.int n0, D.int n1, D.row t2 3 v2 d2, D.row t3 1 v3 d3])) := Lib.hid (by rw [erases_append, weights_append])
    have HWB : Hid (weights (erases ds) = weights (erases A) + weights (erases [D.int n0, D.int n1, D.row t2 3 v2 d2, D.row t3 1 v3 d3]) + weights (erases rest)) := Lib.hid (by rw [HD.out, erases_append, erases_append, weights_append, weights_append, Nat.add_assoc])
    have HD2 : Hid (ds = (A ++ [D.int n0, D.int n1, D.row t2 3 v2 d2, D.row t3 1 v3 d3]) ++ rest) := Lib.hid (by rw [HD.out, List.append_assoc])
    have HAL2 : Hid ((A ++ [D.int n0, D.int n1, D.row t2 3 v2 d2, D.row t3 1 v3 d3]).length = (i + 1) * 4) := Lib.hid (by rw [List.length_append, HAL.out, Nat.succ_mul]; rfl)
    have HFR := Lib.hid hfrest
    generalize hqi : weights (erases [D.int n0, D.int n1, D.row t2 3 v2 d2, D.row t3 1 v3 d3]) = qi at *
    have HB := Lib.hid hbw
    clear hit hfrest hqi hbw HIT HD HAL
    clear f2
    clear f3
    simp only [agg, vals, List.map, val] at KI
    go_wp2_with fail
    refine KI.out.mono ?_
    rintro e w1 ⟨rfl, hb1⟩
    have HB1 := Lib.hid (HB.out.trans (hb1.mono HB.out.size))
    clear hb1 KI HB
    by_cases hle : qi ≤ r
    · rw [after_yes hle]
      have HT2 : Hid (r - qi + n + weights (erases (A ++ [D.int n0, D.int n1, D.row t2 3 v2 d2, D.row t3 1 v3 d3])) = left) := Lib.hid (by
        have h1 := HWA.out
        have h2 := HQ.out
        omega)
      generalize r - qi = r' at *
      go_wp2_with fail
      go_roundw
      case rel => exact ⟨i + 1, r', A ++ [D.int n0, D.int n1, D.row t2 3 v2 d2, D.row t3 1 v3 d3], rest, HD2.out, HAL2.out, HFR.out, by go_num, HT2.out, rfl, HB1.out⟩
      case measure => simp [intOf]; omega
    · rw [after_no (by omega)]
      have hR : R = -1 := by
        rw [← HA.out]
        have h1 := HWB.out
        have h2 := HQ.out
        exact after_no (by omega)
      subst hR
      go_wp2_with fail
      go_ret
      exact ⟨rfl, HB1.out⟩
end Go.Proofs.YtoaocpfehdcfgaaGreatDoor.Data

namespace Go.Proofs.YtoaocpfehdcfgaaGreatDoor.Data
open Go.RowKit
open Strs Tree Texts
set_option maxRecDepth 10000 in
set_option maxHeartbeats 4000000 in
theorem sz_Store (lo left : Nat) (w : World) (ds : List D) (hl : left ≤ 1048576) (hf : FitL (env 12) (erases ds)) (hh : Holdss lo w ds) :
    Calls Tryz.prog 4 #[agg ds, .int .i64 left] w fun r w' => r = .returned (.int .i64 (after left (weights (erases ds)))) ∧ Below w.heap.size w w' := by
  obtain ⟨t0, v0, d0, e0, rfl, f0, hf_0⟩ := fitL_row (k := 3) rfl hf
  clear hf
  obtain ⟨t1, v1, d1, e1, rfl, f1, hf_1⟩ := fitL_row (k := 4) rfl hf_0
  clear hf_0
  obtain ⟨t2, v2, d2, e2, rfl, f2, hf_2⟩ := fitL_row (k := 1) rfl hf_1
  clear hf_1
  obtain ⟨n3, e3, rfl, hf_3⟩ := fitL_int hf_2
  clear hf_2
  obtain ⟨n4, e4, rfl, hf_4⟩ := fitL_int hf_3
  clear hf_3
  obtain ⟨n5, e5, rfl, hf_5⟩ := fitL_int hf_4
  clear hf_4
  obtain rfl := fitL_nil hf_5
  clear hf_5
  replace hh : Holdss lo w [D.row t0 3 v0 d0, D.row t1 4 v1 d1, D.row t2 1 v2 d2, D.int n3, D.int n4, D.int n5] := hh
  simp only [Holdss, and_true] at hh
  obtain ⟨h0, h1, h2, h3, h4, h5⟩ := hh
  clear h3
  clear h4
  clear h5
  have HW : weights (erases [D.row t0 3 v0 d0, D.row t1 4 v1 d1, D.row t2 1 v2 d2, D.int n3, D.int n4, D.int n5]) = weight (.row 3 (erases d0)) + weight (.row 4 (erases d1)) + weight (.row 1 (erases d2)) := by
    first | (simp only [erases, erase, weights, weight]; done) | (simp only [erases, erase, weights, weight]; omega)
  have C0 : Hid (Cells w.heap.size [D.row t0 3 v0 d0, D.row t1 4 v1 d1, D.row t2 1 v2 d2, D.int n3, D.int n4, D.int n5] (w.alloc (Obj.cells #[v0, v1, v2, Value.int .i64 n3, Value.int .i64 n4, Value.int .i64 n5] 26))) := Lib.hid (cells_new w [D.row t0 3 v0 d0, D.row t1 4 v1 d1, D.row t2 1 v2 d2, D.int n3, D.int n4, D.int n5] _)
  have B0 : Hid (Below w.heap.size w (w.alloc (Obj.cells #[v0, v1, v2, Value.int .i64 n3, Value.int .i64 n4, Value.int .i64 n5] 26))) := Lib.hid ((Below.refl _ _).alloc (Nat.le_refl _) _)
  have K0 := fun (w' : World) (l : Nat) (hl : l ≤ 1048576) (hb : Below w.heap.size w w') => Lib.hid (szS_ClassInfo lo l t0 w' v0 d0 hl f0 (h0.below hb))
  have K1 := fun (w' : World) (l : Nat) (hl : l ≤ 1048576) (hb : Below w.heap.size w w') => Lib.hid (szS_Object lo l t1 w' v1 d1 hl f1 (h1.below hb))
  have K2 := fun (w' : World) (l : Nat) (hl : l ≤ 1048576) (hb : Below w.heap.size w w') => Lib.hid (szS_String lo l t2 w' v2 d2 hl f2 (h2.below hb))
  generalize weight (.row 3 (erases d0)) = q0 at *
  generalize weight (.row 4 (erases d1)) = q1 at *
  generalize weight (.row 1 (erases d2)) = q2 at *
  clear h0 f0
  clear h1 f1
  clear h2 f2
  generalize weights (erases [D.row t0 3 v0 d0, D.row t1 4 v1 d1, D.row t2 1 v2 d2, D.int n3, D.int n4, D.int n5]) = WW at *
  generalize hR : after left WW = R
  have HA := Lib.hid hR
  clear hR
  have HW := Lib.hid HW
  rw [show agg [D.row t0 3 v0 d0, D.row t1 4 v1 d1, D.row t2 1 v2 d2, D.int n3, D.int n4, D.int n5] = Value.agg #[v0, v1, v2, Value.int .i64 n3, Value.int .i64 n4, Value.int .i64 n5] from rfl]
  go_enter Tryz.func4, Tryz.ntmps4
  have a0 := C0.out.at 0 (D.row t0 3 v0 d0) rfl
  simp only [val] at a0
  go_wp2_with fail
  refine (K0 _ left (by have h0' := HW.out; omega) B0.out).out.mono ?_
  rintro e w1 ⟨rfl, hb1⟩
  have B1 := Lib.hid (B0.out.trans (hb1.mono B0.out.size))
  have C1 := Lib.hid (C0.out.step hb1)
  clear hb1 K0 B0 C0 a0
  by_cases hq1 : q0 ≤ left
  rotate_left
  · rw [after_no (by omega)]
    have hR : R = -1 := by rw [← HA.out]; exact after_no (by have h0' := HW.out; omega)
    subst hR
    go_wp2_with fail
    go_ret
    exact ⟨rfl, B1.out⟩
  rw [after_yes hq1]
  obtain ⟨l1, hl1⟩ : ∃ l' : Nat, left - q0 = l' := ⟨_, rfl⟩
  have HL1 : Hid (l1 + q0 = left) := Lib.hid (by omega)
  rw [hl1]
  clear hl1 hq1
  have a1 := C1.out.at 1 (D.row t1 4 v1 d1) rfl
  simp only [val] at a1
  go_wp2_with fail
  refine (K1 _ l1 (by have h0' := HW.out; have h1' := HL1.out; omega) B1.out).out.mono ?_
  rintro e w2 ⟨rfl, hb2⟩
  have B2 := Lib.hid (B1.out.trans (hb2.mono B1.out.size))
  have C2 := Lib.hid (C1.out.step hb2)
  clear hb2 K1 B1 C1 a1
  by_cases hq2 : q1 ≤ l1
  rotate_left
  · rw [after_no (by omega)]
    have hR : R = -1 := by rw [← HA.out]; exact after_no (by have h0' := HW.out; have h1' := HL1.out; omega)
    subst hR
    go_wp2_with fail
    go_ret
    exact ⟨rfl, B2.out⟩
  rw [after_yes hq2]
  obtain ⟨l2, hl2⟩ : ∃ l' : Nat, l1 - q1 = l' := ⟨_, rfl⟩
  have HL2 : Hid (l2 + q1 = l1) := Lib.hid (by omega)
  rw [hl2]
  clear hl2 hq2
  have a2 := C2.out.at 2 (D.row t2 1 v2 d2) rfl
  simp only [val] at a2
  go_wp2_with fail
  refine (K2 _ l2 (by have h0' := HW.out; have h1' := HL1.out; have h2' := HL2.out; omega) B2.out).out.mono ?_
  rintro e w3 ⟨rfl, hb3⟩
  have B3 := Lib.hid (B2.out.trans (hb3.mono B2.out.size))
  have C3 := Lib.hid (C2.out.step hb3)
  clear hb3 K2 B2 C2 a2
  by_cases hq3 : q2 ≤ l2
  rotate_left
  · rw [after_no (by omega)]
    have hR : R = -1 := by rw [← HA.out]; exact after_no (by have h0' := HW.out; have h1' := HL1.out; have h2' := HL2.out; omega)
    subst hR
    go_wp2_with fail
    go_ret
    exact ⟨rfl, B3.out⟩
  rw [after_yes hq3]
  obtain ⟨l3, hl3⟩ : ∃ l' : Nat, l2 - q2 = l' := ⟨_, rfl⟩
  have HL3 : Hid (l3 + q2 = l2) := Lib.hid (by omega)
  rw [hl3]
  clear hl3 hq3
  have hR : R = (l3 : Int) := by rw [← HA.out, after_yes (by have h0' := HW.out; have h1' := HL1.out; have h2' := HL2.out; have h3' := HL3.out; omega)]; have h0' := HW.out; have h1' := HL1.out; have h2' := HL2.out; have h3' := HL3.out; omega
  subst hR
  go_wp2_with fail
  go_ret
  exact ⟨rfl, B3.out⟩
end Go.Proofs.YtoaocpfehdcfgaaGreatDoor.Data
