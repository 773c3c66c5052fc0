/-
  Rows of numbers as data: laws.szIntS, toIntS and eqIntS over them.
-/
import Derived.Test.YtoaocpfehdcfgaaGreatBSzValue
namespace Go.Proofs.YtoaocpfehdcfgaaGreat.Data
open Go.RowKit
open Strs Tree Texts
theorem info_int : (Tryz.prog.info? 3).map (fun i => (i.zero, i.size, i.bytes)) = some (some (.int .i64 0), 1, 8) := by kernel_rfl
def Nums (lo : Nat) (w : World) (xs : List Int) (v : Value) : Prop :=
  ∃ a c, v = .slice a xs.length c ∧ (xs.length ≤ c ∧ c ≤ maxLen) ∧ (∀ x, x ∈ xs → (Lit.int .i64 x).wf = true) ∧ (0 < xs.length → ∃ b o, a = some ⟨b, o, none⟩ ∧ lo ≤ b ∧ ∀ j (h : j < xs.length), w.cell? ⟨b, o + j, none⟩ = some (.int .i64 xs[j]))
theorem Nums.below {lo : Nat} {w w' : World} {xs : List Int} {v : Value} (h : Nums lo w xs v) (hb : Below w.heap.size w w') : Nums lo w' xs v := by
  obtain ⟨a, c, rfl, hm, hs, hc⟩ := h
  refine ⟨a, c, rfl, hm, hs, fun hp => ?_⟩
  obtain ⟨b, o, rfl, hl, hd⟩ := hc hp
  exact ⟨b, o, rfl, hl, fun j hj => cell_keep hb (hd j hj)⟩
def nums (xs : List Int) : List D := xs.map D.int
def numP (xs : List Int) : List P := xs.map P.int
theorem nums_vals (xs : List Int) : vals (nums xs) = xs.map (Value.int .i64) := by simp [vals, nums, val, Function.comp_def]
theorem nums_len (xs : List Int) : (nums xs).length = xs.length := by simp [nums]
theorem nums_erases (xs : List Int) : erases (nums xs) = numP xs := by
  induction xs with
  | nil => rfl
  | cons x xs ih => rw [nums, List.map_cons, erases]; show _ :: erases (nums xs) = _; rw [ih]; rfl
theorem nums_foots (xs : List Int) : foots (nums xs) = [] := by
  induction xs with
  | nil => rfl
  | cons x xs ih => rw [nums, List.map_cons, foots]; show foot (.int x) ++ foots (nums xs) = _; rw [ih]; rfl
theorem nums_fit (xs : List Int) : FitRow 1 (numP xs) := by
  induction xs with
  | nil => exact FitRow.nil 1
  | cons x xs ih => exact FitRow.cons 1 _ [.int x] _ rfl (FitL.cons _ _ _ _ (Fit.int x) FitL.nil) ih
theorem nums_weights (xs : List Int) : Data.weights (numP xs) = 0 := by
  induction xs with
  | nil => rfl
  | cons x xs ih =>
    show Data.weights (P.int x :: numP xs) = 0
    rw [Data.weights, Data.weight, ih]
theorem nums_of : ∀ (n : Nat) (ds : List D), ds.length ≤ n → FitRow 1 (erases ds) → ∃ xs, ds = nums xs := by
  intro n
  induction n with
  | zero => intro ds hl _; exact ⟨[], List.eq_nil_of_length_eq_zero (Nat.le_zero.1 hl)⟩
  | succ n ih =>
    intro ds hl h
    rcases fitRow_cases h with rfl | ⟨item, rest, rfl, h1, h2⟩
    · exact ⟨[], rfl⟩
    · obtain ⟨s, es, rfl, h3⟩ := fitL_int h1
      obtain rfl := fitL_nil h3
      obtain ⟨xs, rfl⟩ := ih rest (by simp at hl; omega) h2
      exact ⟨s :: xs, rfl⟩
theorem nums_get {ds : List D} (h : FitRow 1 (erases ds)) : ∃ xs, ds = nums xs := nums_of _ ds (Nat.le_refl _) h
theorem num_inj (xs ys : List Int) (h : numP xs = numP ys) : xs = ys :=
  (List.map_inj_right (fun a b h => by cases h; rfl)).1 h
theorem nums_goods {w : World} {xs : List Int} : Goods w (nums xs) ↔ ∀ x, x ∈ xs → (Lit.int .i64 x).wf = true := by
  rw [goods_iff]
  constructor
  · intro h x hx
    have := h (.int x) (by simp [nums, hx])
    rw [Good] at this
    exact this
  · intro h d hd
    simp only [nums, List.mem_map] at hd
    obtain ⟨x, hx, rfl⟩ := hd
    rw [Good]
    exact h x hx
theorem nums_at {lo t : Nat} {w : World} {v : Value} {xs : List Int} (h : Holds lo w (.row t 1 v (nums xs))) : Nums lo w xs v := by
  rw [Holds] at h
  obtain ⟨⟨a, n, cap, rfl, -, h1, h2, h3, h4⟩, h5⟩ := h
  rw [nums_len, Nat.mul_one] at h1
  subst h1
  refine ⟨a, cap, rfl, ⟨h2, h3⟩, fun x hx => ?_, fun hp => ?_⟩
  · have := holdss_iff.1 h5 (.int x) (by simp [nums, hx])
    rw [Holds] at this
    exact this
  · obtain ⟨b, o, rfl, hb, hc⟩ := h4 hp
    refine ⟨b, o, rfl, hb, fun j hj => ?_⟩
    rw [hc j (by rw [nums_len]; exact hj)]
    simp [nums, val]
theorem nums_row {T base : Nat} {w : World} {v : Value} {xs : List Int} (h : w.ownsRow base T 1 v xs.length (xs.map (Value.int .i64))) (hx : ∀ x, x ∈ xs → (Lit.int .i64 x).wf = true) : Row base w T 1 v (nums xs) :=
  ⟨⟨xs.length, by decide, by rw [nums_len, Nat.mul_one], by rw [nums_vals]; exact h⟩, ⟨nums_goods.2 hx, by rw [nums_foots]; exact List.nodup_nil, fun b hb => by rw [nums_foots] at hb; cases hb⟩, fun b _ hb => by rw [nums_foots] at hb; cases hb⟩
theorem szS_Int (lo left t : Nat) (w : World) (v : Value) (ds : List D) (hl : left ≤ 1048576) (hf : FitRow 1 (erases ds)) (hh : Holds lo w (.row t 1 v ds)) :
    Calls Tryz.prog 46 #[v, .int .i64 left] w fun r w' => r = .returned (.int .i64 (after left (weight (.row 1 (erases ds))))) ∧ Below w.heap.size w w' := by
  obtain ⟨xs, rfl⟩ := nums_get hf
  obtain ⟨a, c, rfl, hm, -, -⟩ := nums_at hh
  have hw : weight (.row 1 (erases (nums xs))) = xs.length := by
    rw [nums_erases, weight, nums_weights]; simp [numP]
  rw [hw]
  generalize xs.length = n at *
  unfold maxLen at hm
  clear hw hh hf
  by_cases hn : n ≤ left
  · rw [after_yes hn]
    have g1 : ¬ (left : Int) - (n : Int) < 0 := by omega
    have HE : Hid (((left - n : Nat) : Int) = (left : Int) - n) := Lib.hid (by omega)
    rw [HE.out]
    go_enter Tryz.func46, Tryz.ntmps46
    go_wp2_with fail
    go_ret
    exact ⟨rfl, Below.refl _ _⟩
  · rw [after_no (by omega)]
    have g1 : (left : Int) - (n : Int) < 0 := by omega
    go_enter Tryz.func46, Tryz.ntmps46
    go_wp2_with fail
    go_ret
    exact ⟨rfl, Below.refl _ _⟩
def CopiedN (xs : List Int) (n : Nat) (w : World) (e : Ending) (w' : World) : Prop :=
  e = .returned (.slice (some ⟨w.heap.size, 0, none⟩) n n) ∧ w'.ownsRow w.heap.size 3 1 (.slice (some ⟨w.heap.size, 0, none⟩) n n) n (xs.map (Value.int .i64)) ∧ Below w.heap.size w w'
set_option maxHeartbeats 400000 in
theorem toN_nil (a : Option Addr) (c : Nat) (w : World) :
    Calls Tryz.prog 54 #[.slice a 0 c] w (CopiedN [] 0 w) := by
  obtain ⟨i0, hi, hz0, hz1, hz2⟩ := info_parts info_int
  go_enter Tryz.func54, Tryz.ntmps54
  go_wp2_with (at_make; refine wpList_make_full _ rfl _ _ 64 rfl w.heap.size 3 i0 (.int .i64 0) 1 Tryz.underlying64 hi hz0 hz1 .i64 .i64 _ _ 0 rfl rfl rfl rfl ?c2 ?c3 (Nat.le_refl _) ?_)
  case c2 => omega
  case c3 => unfold maxLen; omega
  intro w1 hown hgr
  have hbl : Below w.heap.size w w1 := (Below.refl _ _).grown hgr (Nat.le_refl _) (by simp)
  have HO : Hid (w1.ownsRow w.heap.size 3 1 (.slice (some ⟨w.heap.size, 0, none⟩) 0 0) 0 ([].map (Value.int .i64))) := by show World.ownsRow _ _ _ _ _ _ _; simpa [madeCells] using hown
  clear hown hgr
  go_wp2_with fail
  refine wp_loop_rounds 1 ?_
  rw [rounds_succ]
  go_wp2_with fail
  go_ret
  exact ⟨rfl, HO.out, hbl⟩
theorem made_int (n : Nat) : (madeCells #[Value.int .i64 0] n).toList = (List.replicate n (0 : Int)).map (Value.int .i64) := by
  apply List.ext_getElem <;> simp [madeCells, Nat.mod_one]
theorem copy_setN (xs : List Int) (i n : Nat) (hn : xs.length = n) (hi : i < xs.length) : (xs.take i ++ List.replicate (n - i) 0).set i xs[i] = xs.take (i + 1) ++ List.replicate (n - (i + 1)) 0 := by
  have hl : (xs.take i).length = i := by rw [List.length_take]; omega
  rw [List.set_append_right _ _ (by omega), hl, Nat.sub_self, show n - i = (n - (i + 1)) + 1 by omega, List.replicate_succ, List.set_cons_zero, List.take_succ_eq_append_getElem (by omega), List.append_assoc]
  rfl
set_option maxHeartbeats 1000000 in
theorem toN_cons (b off cap n : Nat) (xs : List Int) (w : World) (hn : xs.length = n) (hm : n ≤ 1048576) (hl : ∀ j (h : j < xs.length), w.cell? ⟨b, off + j, none⟩ = some (.int .i64 xs[j])) :
    Calls Tryz.prog 54 #[.slice (some ⟨b, off, none⟩) n cap] w (CopiedN xs n w) := by
  obtain ⟨i0, hi, hz0, hz1, hz2⟩ := info_parts info_int
  have HN := Lib.hid hn; clear hn
  have HL := Lib.hid hl; clear hl
  go_enter Tryz.func54, Tryz.ntmps54
  go_wp2_with (at_make; refine wpList_make_full _ rfl _ _ 64 rfl w.heap.size 3 i0 (.int .i64 0) 1 Tryz.underlying64 hi hz0 hz1 .i64 .i64 _ _ n rfl rfl rfl rfl ?c2 ?c3 (Nat.le_refl _) ?_)
  case c2 => rw [hz2]; omega
  case c3 => unfold maxLen; omega
  intro w1 hown hgr
  have hbl : Below w.heap.size w w1 := (Below.refl _ _).grown hgr (Nat.le_refl _) (by simp)
  have HO : Hid (w1.ownsRow w.heap.size 3 1 (.slice (some ⟨w.heap.size, 0, none⟩) n n) n ((List.replicate n 0).map (Value.int .i64))) := by
    show World.ownsRow _ _ _ _ _ _ _; rw [← made_int]; simpa using hown
  clear hown hgr
  go_wp2_with fail
  go_loopw [4] (fun j wr => ∃ i : Nat, i ≤ n ∧ j = .int .i64 i ∧ wr.ownsRow w.heap.size 3 1 (.slice (some ⟨w.heap.size, 0, none⟩) n n) n ((xs.take i ++ List.replicate (n - i) 0).map (Value.int .i64)) ∧ Below w.heap.size w wr) (fun j _ => n - (intOf j).toNat)
  case atStart => exact ⟨0, by omega, rfl, by simpa using HO.out, hbl⟩
  case round =>
    obtain ⟨i, hi', rfl, ho, hbw⟩ := hrel
    have HO1 := Lib.hid ho; clear ho
    by_cases hlt : i < n
    · have hil : i < xs.length := by rw [HN.out]; exact hlt
      have hc1 : wr.cell? ⟨b, off + i, none⟩ = some (.int .i64 xs[i]) := cell_keep hbw (HL.out i hil)
      have hcell : ∃ v, wr.cell? ⟨w.heap.size, i, none⟩ = some v := by
        rw [HO1.out.cellAt _ (by omega)]
        exact ⟨_, List.getElem?_eq_getElem (by have := HN.out; simp; omega)⟩
      obtain ⟨v, hcell⟩ := hcell
      have hfr : wr.frozen? ⟨w.heap.size, i, none⟩ = false := HO1.out.frozenAt _
      have HS : Hid ((xs.take i ++ List.replicate (n - i) 0).set i xs[i] = xs.take (i + 1) ++ List.replicate (n - (i + 1)) 0) := copy_setN xs i n HN.out hil
      generalize xs[i] = x at *
      go_wp2_with fail
      go_roundw
      case rel =>
        have h := (HO1.out.stored i (.int .i64 x)).1
        rw [← List.map_set, HS.out] at h
        exact ⟨i + 1, by omega, by go_num, h, hbw.setCell (Nat.le_refl _) _⟩
      case measure => simp [intOf]; omega
    · go_wp2_with fail
      go_ret
      have h1 : i = n := by omega
      have h2 := HO1.out
      rw [h1, Nat.sub_self, List.take_of_length_le (by rw [HN.out]; exact Nat.le_refl _), List.replicate_zero, List.append_nil] at h2
      exact ⟨rfl, h2, hbw⟩
theorem toS_Int (lo t : Nat) (w : World) (v : Value) (ds : List D) (hw : weight (.row 1 (erases ds)) ≤ 1048576) (hf : FitRow 1 (erases ds)) (hh : Holds lo w (.row t 1 v ds)) :
    Calls Tryz.prog 54 #[v] w fun r w' => ∃ a n c ds', r = .returned (.slice a n c) ∧ erases ds' = erases ds ∧ Row w.heap.size w' 3 1 (.slice a n c) ds' ∧ Below w.heap.size w w' := by
  obtain ⟨xs, rfl⟩ := nums_get hf
  have hn : xs.length ≤ 1048576 := by
    rw [nums_erases, weight, nums_weights, Nat.div_one] at hw
    simpa [numP] using hw
  have ht := nums_at hh
  have hx := ht.choose_spec.choose_spec.2.2.1
  have H : Calls Tryz.prog 54 #[v] w (CopiedN xs xs.length w) := by
    obtain ⟨a, cap, rfl, hm, hs, hc⟩ := ht
    by_cases hp : 0 < xs.length
    · obtain ⟨b, off, rfl, hb, hd⟩ := hc hp
      exact toN_cons b off cap _ xs w rfl hn hd
    · have : xs = [] := List.eq_nil_of_length_eq_zero (by omega)
      subst this
      exact toN_nil a cap w
  refine H.mono ?_
  rintro e w' ⟨rfl, ho, hb⟩
  exact ⟨_, _, _, nums xs, rfl, rfl, nums_row ho hx, hb⟩
set_option maxHeartbeats 400000 in
theorem eqN_nil (a1 a2 : Option Addr) (c1 c2 : Nat) (w : World) :
    Calls Tryz.prog 62 #[.slice a1 0 c1, .slice a2 0 c2] w fun e w' => e = .returned (.bool true) ∧ Below w.heap.size w w' := by
  go_enter Tryz.func62, Tryz.ntmps62
  go_wp2_with fail
  refine wp_loop_rounds 1 ?_
  rw [rounds_succ]
  go_wp2_with fail
  go_ret
  exact ⟨rfl, Below.refl _ _⟩
set_option maxHeartbeats 400000 in
theorem eqN_cons (b1 o1 c1 b2 o2 c2 n : Nat) (xs : List Int) (w : World) (hn : xs.length = n) (hm : n ≤ maxLen)
    (h1 : ∀ j (h : j < xs.length), w.cell? ⟨b1, o1 + j, none⟩ = some (.int .i64 xs[j])) (h2 : ∀ j (h : j < xs.length), w.cell? ⟨b2, o2 + j, none⟩ = some (.int .i64 xs[j])) :
    Calls Tryz.prog 62 #[.slice (some ⟨b1, o1, none⟩) n c1, .slice (some ⟨b2, o2, none⟩) n c2] w fun e w' => e = .returned (.bool true) ∧ Below w.heap.size w w' := by
  unfold maxLen at hm
  have H1 := Lib.hid h1; clear h1
  have H2 := Lib.hid h2; clear h2
  have HN := Lib.hid hn; clear hn
  go_enter Tryz.func62, Tryz.ntmps62
  go_wp2_with fail
  go_loopw [5] (fun j wr => ∃ i : Nat, i ≤ n ∧ j = .int .i64 i ∧ Below w.heap.size w wr) (fun j _ => n - (intOf j).toNat)
  case atStart => exact ⟨0, by omega, rfl, Below.refl _ _⟩
  case round =>
    obtain ⟨i, hi, rfl, hbw⟩ := hrel
    by_cases hlt : i < n
    · have hil : i < xs.length := by rw [HN.out]; exact hlt
      have hA := H1.out i hil
      have hB := H2.out i hil
      have hc1 : wr.cell? ⟨b1, o1 + i, none⟩ = some (.int .i64 xs[i]) := cell_keep hbw hA
      have hc2 : wr.cell? ⟨b2, o2 + i, none⟩ = some (.int .i64 xs[i]) := cell_keep hbw hB
      clear hA hB
      generalize xs[i] = s at *
      go_wp2_with fail
      go_quiet (fail)
      go_wp2_with fail
      go_roundw
      case rel => exact ⟨i + 1, by omega, by go_num, below_drewN hbw _⟩
      case measure => simp [intOf]; omega
    · go_wp2_with fail
      go_ret
      exact ⟨rfl, hbw⟩
theorem eqS_Int (lo1 lo2 t1 t2 : Nat) (w : World) (v1 v2 : Value) (ds1 ds2 : List D) (he : erases ds1 = erases ds2) (hf : FitRow 1 (erases ds1)) (h1 : Holds lo1 w (.row t1 1 v1 ds1)) (h2 : Holds lo2 w (.row t2 1 v2 ds2)) :
    Calls Tryz.prog 62 #[v1, v2] w fun r w' => r = .returned (.bool true) ∧ Below w.heap.size w w' := by
  obtain ⟨xs, rfl⟩ := nums_get hf
  obtain ⟨ys, rfl⟩ := nums_get (he ▸ hf)
  rw [nums_erases, nums_erases] at he
  obtain rfl := num_inj _ _ he
  obtain ⟨a1, c1, rfl, hm, _, hc1⟩ := nums_at h1
  obtain ⟨a2, c2, rfl, _, _, hc2⟩ := nums_at h2
  by_cases hp : 0 < xs.length
  · obtain ⟨b1, o1, rfl, _, hd1⟩ := hc1 hp
    obtain ⟨b2, o2, rfl, _, hd2⟩ := hc2 hp
    exact eqN_cons b1 o1 c1 b2 o2 c2 xs.length xs w rfl (Nat.le_trans hm.1 hm.2) hd1 hd2
  · have h0 : xs.length = 0 := by omega
    rw [h0]
    exact eqN_nil a1 a2 c1 c2 w
end Go.Proofs.YtoaocpfehdcfgaaGreat.Data
