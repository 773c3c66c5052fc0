/-
  The mass of data (for inductions), and the blocks of a function that copies a struct: the argument's copy, the result's cells, the variable that is filled.
  laws.szExpr and szExprS: what they answer, and that they write nothing that was there.
-/
import Derived.Test.YtdohpppkdecbdaaGreatDoorBDataStr
import Derived.Outline
import Derived.Deep.QuietTactic
import Derived.BigQuiet
import Derived.Deep.RegionWith
import Derived.Deep.RegionHeld3
namespace Go.Proofs.YtdohpppkdecbdaaGreatDoor.Data
open Go.RowKit
open Strs
mutual
def mass : P → Nat
  | .int _ => 1
  | .str _ => 1
  | .bool _ => 1
  | .row _ ps => 1 + masses ps
def masses : List P → Nat
  | [] => 0
  | p :: ps => mass p + masses ps
end
theorem masses_append (a b : List P) : masses (a ++ b) = masses a + masses b := by
  induction a with
  | nil => simp [masses]
  | cons e es ih => simp [masses, ih]; omega
def puts (w : World) (g p : Nat) : List Value → World
  | [] => w
  | v :: vs => puts (w.setCell ⟨g, p, none⟩ v) g (p + 1) vs
def sets (xs : List Value) (p : Nat) : List Value → List Value
  | [] => xs
  | v :: vs => sets (xs.set p v) (p + 1) vs
theorem sets_len (vs : List Value) : ∀ (xs : List Value) (p : Nat), (sets xs p vs).length = xs.length := by
  induction vs with
  | nil => intro xs p; rfl
  | cons v vs ih => intro xs p; rw [sets, ih, List.length_set]
theorem sets_low (vs : List Value) : ∀ (xs : List Value) (p q : Nat), q < p → (sets xs p vs)[q]? = xs[q]? := by
  induction vs with
  | nil => intro xs p q _; rfl
  | cons v vs ih => intro xs p q h; rw [sets, ih _ _ _ (by omega), List.getElem?_set_ne (by omega)]
theorem sets_at (vs : List Value) : ∀ (xs : List Value) (p j : Nat), p + vs.length ≤ xs.length → j < vs.length → (sets xs p vs)[p + j]? = vs[j]? := by
  induction vs with
  | nil => intro xs p j _ h; simp at h
  | cons v vs ih =>
    intro xs p j h hj
    rw [sets]
    cases j with
    | zero => rw [sets_low _ _ _ _ (by omega), Nat.add_zero, List.getElem?_set_self (by simp at h; omega)]; rfl
    | succ j =>
      rw [show p + (j + 1) = p + 1 + j by omega, ih _ _ _ (by simp at h ⊢; omega) (by simpa using hj)]
      rfl
theorem puts_own {base : Nat} {t k g n c : Nat} (vs : List Value) : ∀ (w : World) (xs : List Value) (p : Nat), w.ownsRow base t k (.slice (some ⟨g, 0, none⟩) n c) n xs → (puts w g p vs).ownsRow base t k (.slice (some ⟨g, 0, none⟩) n c) n (sets xs p vs) := by
  induction vs with
  | nil => intro w xs p h; exact h
  | cons v vs ih => intro w xs p h; exact ih _ _ _ (h.stored p v).1
theorem puts_size {g : Nat} (vs : List Value) : ∀ (w : World) (p : Nat), (puts w g p vs).heap.size = w.heap.size := by
  induction vs with
  | nil => intro w p; rfl
  | cons v vs ih => intro w p; rw [puts, ih]; simp
theorem puts_below {base g : Nat} (hg : base ≤ g) (vs : List Value) : ∀ (w w1 : World) (p : Nat), Below base w w1 → Below base w (puts w1 g p vs) := by
  induction vs with
  | nil => intro w w1 p h; exact h
  | cons v vs ih => intro w w1 p h; exact ih _ _ _ (h.setCell hg _)
theorem Own.setLow {base : Nat} {w : World} {ds : List D} (h : Own base w ds) {g : Nat} (hg : g < base) (o : Nat) (v : Value) : Own base (w.setCell ⟨g, o, none⟩ v) ds :=
  h.frame fun b hb => Below.heap_setCell _ _ _ _ (fun e => by have := h.lo b hb; have : b = g := e; omega)
theorem Own.putLow {base : Nat} {ds : List D} {g : Nat} (hg : g < base) (vs : List Value) : ∀ (w : World) (p : Nat), Own base w ds → Own base (puts w g p vs) ds := by
  induction vs with
  | nil => intro w p h; exact h
  | cons v vs ih => intro w p h; exact ih _ _ (h.setLow hg _ _)
def SomeD (w : World) (t k n : Nat) (ds : List D) (i : Nat) (wr : World) : Prop :=
  w.heap.size < wr.heap.size ∧ Below w.heap.size w wr ∧ ∃ (xs : List Value) (es : List D), xs.length = n * k ∧ wr.ownsRow w.heap.size t k (.slice (some ⟨w.heap.size, 0, none⟩) n n) n xs ∧
    es.length = i * k ∧ (∀ j (h : j < es.length), xs[j]? = some (val es[j])) ∧ erases es = (erases ds).take (i * k) ∧ Own (w.heap.size + 1) wr es
theorem someD_step {w wr w2 : World} {t k n i : Nat} {ds A item rest es : List D} (h : SomeD w t k n ds i wr) (hb : Below wr.heap.size wr w2) (ho : Own wr.heap.size w2 es) (he : erases es = erases item) (hd : ds = A ++ (item ++ rest)) (hal : A.length = i * k) (hil : item.length = k) (hlt : i < n) :
    SomeD w t k n ds (i + 1) (puts w2 w.heap.size (i * k) (vals es)) := by
  obtain ⟨hg, hbw, xs, fs, hxl, how, hfl, hfx, hfe, hfo⟩ := h
  have hel : es.length = k := by
    have := congrArg List.length he
    rw [erases_len, erases_len] at this
    omega
  have hik : (i + 1) * k ≤ n * k := Nat.mul_le_mul_right k (by omega)
  rw [Nat.succ_mul] at hik
  refine ⟨by rw [puts_size]; have := hb.size; omega, puts_below (Nat.le_refl _) _ _ _ _ (hbw.trans (hb.mono (by omega))), sets xs (i * k) (vals es), fs ++ es, by rw [sets_len, hxl], puts_own _ _ _ _ (own_keep how hb), by rw [List.length_append, hfl, hel, Nat.succ_mul], fun j hj => ?_, ?_, Own.putLow (Nat.lt_succ_self _) _ _ _ (hfo.snoc hb ho (by omega))⟩
  · rw [List.length_append, hfl, hel] at hj
    by_cases hji : j < i * k
    · rw [sets_low _ _ _ _ hji, hfx j (by omega), List.getElem_append_left (by omega)]
    · have hjj : j = i * k + (j - i * k) := by omega
      have h1 := sets_at (vals es) xs (i * k) (j - i * k) (by rw [vals_len, hel, hxl]; exact hik) (by rw [vals_len]; omega)
      rw [← hjj] at h1
      rw [h1, vals_get es _ (by omega), List.getElem_append_right (by omega)]
      congr 2
      simp only [hfl]
  · rw [erases_append, hfe, he, hd, erases_append, erases_append, Nat.succ_mul]
    have hA : (erases A).length = i * k := by rw [erases_len, hal]
    have hI : (erases item).length = k := by rw [erases_len, hil]
    rw [← hA, ← hI, List.take_append_of_le_length (Nat.le_refl _), List.take_length, List.take_length_add_append, List.take_append_of_le_length (Nat.le_refl _), List.take_length]
theorem someD_all {w wr : World} {t k n : Nat} {ds : List D} (hk : 0 < k) (hn : ds.length = n * k) (h : SomeD w t k n ds n wr) : ∃ es, erases es = erases ds ∧ Row w.heap.size wr t k (.slice (some ⟨w.heap.size, 0, none⟩) n n) es := by
  obtain ⟨hg, hbw, xs, es, hxl, how, hfl, hfx, hfe, hfo⟩ := h
  refine ⟨es, by rw [hfe, ← hn, ← erases_len, List.take_length], ⟨n, hk, hfl, ?_⟩, hfo.mono (by omega), fun b hb hc => ?_⟩
  · have : xs = vals es := by
      apply List.ext_getElem?
      intro j
      by_cases hj : j < es.length
      · rw [hfx j hj, vals_get es j hj]
      · rw [List.getElem?_eq_none (by omega), List.getElem?_eq_none (by rw [vals_len]; omega)]
    rw [this] at how
    exact how
  · have h1 := hfo.lo b hc
    simp [blk, Value.ownBlock] at hb
    omega
theorem someD_start {w w1 : World} {t k n : Nat} {ds : List D} {xs : List Value} (hown : w1.ownsRow w.heap.size t k (.slice (some ⟨w.heap.size, 0, none⟩) n n) n xs) (hb : Below w.heap.size w w1) : SomeD w t k n ds 0 w1 :=
  ⟨(hown.lt _ rfl).2, hb, xs, [], hown.1, hown, by simp, fun j h => by simp at h, by simp [erases], Own.nil _ _⟩
theorem SomeD.cell {w wr w2 : World} {t k n i : Nat} {ds : List D} (h : SomeD w t k n ds i wr) (hb : Below wr.heap.size wr w2) (hlt : i < n) (r : Nat) (hr : r < k) : ∃ v, w2.cell? ⟨w.heap.size, i * k + r, none⟩ = some v := by
  obtain ⟨hg, hbw, xs, fs, hxl, how, hfl, hfx, hfe, hfo⟩ := h
  have hik : (i + 1) * k ≤ n * k := Nat.mul_le_mul_right k (by omega)
  rw [Nat.succ_mul] at hik
  rw [(own_keep how hb).cellAt _ (by omega)]
  exact ⟨_, List.getElem?_eq_getElem (by omega)⟩
theorem SomeD.free {w wr w2 : World} {t k n i : Nat} {ds : List D} (h : SomeD w t k n ds i wr) (hb : Below wr.heap.size wr w2) (o : Nat) : w2.frozen? ⟨w.heap.size, o, none⟩ = false := by
  obtain ⟨hg, hbw, xs, fs, hxl, how, hfl, hfx, hfe, hfo⟩ := h
  exact (own_keep how hb).frozenAt o
structure Box (w : World) (ds zs os : List D) (wr : World) : Prop where
  below : Below w.heap.size w wr
  size : w.heap.size + 3 ≤ wr.heap.size
  a : Cells w.heap.size ds wr
  b : Cells (w.heap.size + 1) zs wr
  c : Cells (w.heap.size + 1 + 1) os wr
  fb : ∀ o, wr.frozen? ⟨w.heap.size + 1, o, none⟩ = false
  fc : ∀ o, wr.frozen? ⟨w.heap.size + 1 + 1, o, none⟩ = false
theorem Box.step {w wr w' : World} {ds zs os : List D} (h : Box w ds zs os wr) (hb : Below wr.heap.size wr w') : Box w ds zs os w' :=
  ⟨h.below.trans (hb.mono (by have := h.size; omega)), Nat.le_trans h.size hb.size, h.a.step hb, h.b.step hb, h.c.step hb,
    fun o => (hb.frozen (p := ⟨_, o, none⟩) (by have := h.size; simp; omega)).trans (h.fb o), fun o => (hb.frozen (p := ⟨_, o, none⟩) (by have := h.size; simp; omega)).trans (h.fc o)⟩
theorem cells_other {B g o : Nat} {ds : List D} {wr : World} (h : Cells B ds wr) (v : Value) (hg : B ≠ g) : Cells B ds (wr.setCell ⟨g, o, none⟩ v) :=
  ⟨by simpa using h.1, fun j hj => (World.cell?_setCell_other _ _ _ _ (by intro e; injection e with e1; exact hg e1.symm)).trans (h.2 j hj)⟩
theorem Cells.set {B : Nat} {ds : List D} {wr : World} (h : Cells B ds wr) (j : Nat) (d : D) (hj : j < ds.length) (hf : wr.frozen? ⟨B, j, none⟩ = false) : Cells B (ds.set j d) (wr.setCell ⟨B, j, none⟩ (val d)) := by
  refine ⟨by simpa using h.1, fun q hq => ?_⟩
  have hq' : q < ds.length := by simpa using hq
  by_cases e : q = j
  · subst e
    have := h.2 q hq'
    rw [List.getElem_set_self]
    go_simp
  · rw [List.getElem_set_ne (by omega)]
    exact (World.cell?_setCell_other _ _ _ _ (by intro e2; injection e2 with _ e3; omega)).trans (h.2 q hq')
theorem Box.set {w wr : World} {ds zs os : List D} (h : Box w ds zs os wr) (j : Nat) (d : D) (hj : j < os.length) : Box w ds zs (os.set j d) (wr.setCell ⟨w.heap.size + 1 + 1, j, none⟩ (val d)) :=
  ⟨h.below.setCell (by show w.heap.size ≤ w.heap.size + 1 + 1; omega) _, by simpa using h.size, cells_other h.a _ (by omega), cells_other h.b _ (by omega), h.c.set j d hj (h.fc j),
    fun o => by have := h.fb o; go_simp, fun o => by have := h.fc o; go_simp⟩
theorem box_new (w : World) (ds zs os : List D) (t1 t2 t3 : TypeId) : Box w ds zs os (((w.alloc (Obj.cells (vals ds).toArray t1)).alloc (Obj.cells (vals zs).toArray t2)).alloc (Obj.cells (vals os).toArray t3)) := by
  have h1 := (Below.refl w.heap.size w).alloc (Nat.le_refl _) (Obj.cells (vals ds).toArray t1)
  have h2 := (Below.refl (w.alloc (Obj.cells (vals ds).toArray t1)).heap.size (w.alloc (Obj.cells (vals ds).toArray t1))).alloc (Nat.le_refl _) (Obj.cells (vals zs).toArray t2)
  have h3 := (Below.refl ((w.alloc (Obj.cells (vals ds).toArray t1)).alloc (Obj.cells (vals zs).toArray t2)).heap.size ((w.alloc (Obj.cells (vals ds).toArray t1)).alloc (Obj.cells (vals zs).toArray t2))).alloc (Nat.le_refl _) (Obj.cells (vals os).toArray t3)
  have c1 := cells_new w ds t1
  have c2 := cells_new (w.alloc (Obj.cells (vals ds).toArray t1)) zs t2
  have c3 := cells_new ((w.alloc (Obj.cells (vals ds).toArray t1)).alloc (Obj.cells (vals zs).toArray t2)) os t3
  have e1 : (w.alloc (Obj.cells (vals ds).toArray t1)).heap.size = w.heap.size + 1 := by simp
  have e2 : ((w.alloc (Obj.cells (vals ds).toArray t1)).alloc (Obj.cells (vals zs).toArray t2)).heap.size = w.heap.size + 1 + 1 := by simp
  have c2' := c2.step h3
  have c1' := (c1.step h2).step h3
  rw [e1] at c2'
  rw [e2] at c3
  refine ⟨(((Below.refl _ _).alloc (Nat.le_refl _) _).alloc (by simp) _).alloc (by simp; omega) _, by simp, c1', c2', c3, ?_, ?_⟩
  all_goals (intro o; go_simp)
theorem row_slice {w : World} {t k : Nat} {v : Value} {ds : List D} (h : Good w (.row t k v ds)) : ∃ a n c, v = .slice a n c := by
  rw [Good] at h
  obtain ⟨⟨n, -, -, ho⟩, -⟩ := h
  obtain ⟨_, ⟨rfl, hn⟩ | ⟨g, cap, cur, rfl, _⟩⟩ := ho
  · exact ⟨none, 0, 0, rfl⟩
  · exact ⟨_, _, _, rfl⟩
end Go.Proofs.YtdohpppkdecbdaaGreatDoor.Data

namespace Go.Proofs.YtdohpppkdecbdaaGreatDoor.Data
open Go.RowKit
open Strs Tree Texts
set_option maxRecDepth 10000 in
set_option maxHeartbeats 4000000 in
theorem sz_Expr_of (NN : Nat) (KR : ∀ (lo left t : Nat) (w : World) (v : Value) (ds : List D), masses (erases ds) < NN → left ≤ 1048576 → FitRow 2 (erases ds) → Holds lo w (.row t 5 v ds) → Calls Tryz.prog 23 #[v, .int .i64 left] w fun r w' => r = .returned (.int .i64 (after left (weight (.row 5 (erases ds))))) ∧ Below w.heap.size w w') (lo left : Nat) (w : World) (ds : List D) (hm : masses (erases ds) ≤ NN) (hl : left ≤ 1048576) (hf : FitL (env 2) (erases ds)) (hh : Holdss lo w ds) :
    Calls Tryz.prog 43 #[agg ds, .int .i64 left] w fun r w' => r = .returned (.int .i64 (after left (weights (erases ds)))) ∧ Below w.heap.size w w' := by
  obtain ⟨n0, e0, rfl, hf_0⟩ := fitL_int hf
  clear hf
  obtain ⟨s1, e1, rfl, hf_1⟩ := fitL_str hf_0
  clear hf_0
  obtain ⟨n2, e2, rfl, hf_2⟩ := fitL_int hf_1
  clear hf_1
  obtain ⟨t3, v3, d3, e3, rfl, f3, hf_3⟩ := fitL_row (k := 1) rfl hf_2
  clear hf_2
  obtain ⟨t4, v4, d4, e4, rfl, f4, hf_4⟩ := fitL_row (k := 5) rfl hf_3
  clear hf_3
  obtain rfl := fitL_nil hf_4
  clear hf_4
  replace hh : Holdss lo w [D.int n0, D.str s1, D.int n2, D.row t3 1 v3 d3, D.row t4 5 v4 d4] := hh
  replace hm : masses (erases [D.int n0, D.str s1, D.int n2, D.row t3 1 v3 d3, D.row t4 5 v4 d4]) ≤ NN := hm
  simp only [erases, erase, masses, mass] at hm
  simp only [Holdss, and_true] at hh
  obtain ⟨h0, h1, h2, h3, h4⟩ := hh
  clear h0
  rw [Holds] at h1
  unfold maxLen at h1
  clear h2
  have HW : weights (erases [D.int n0, D.str s1, D.int n2, D.row t3 1 v3 d3, D.row t4 5 v4 d4]) = s1.size + weight (.row 1 (erases d3)) + weight (.row 5 (erases d4)) := by
    simp only [erases, erase, weights, weight]
    omega
  have C0 : Hid (Cells w.heap.size [D.int n0, D.str s1, D.int n2, D.row t3 1 v3 d3, D.row t4 5 v4 d4] (w.alloc (Obj.cells #[Value.int .i64 n0, Value.string s1, Value.int .i64 n2, v3, v4] 86))) := Lib.hid (cells_new w [D.int n0, D.str s1, D.int n2, D.row t3 1 v3 d3, D.row t4 5 v4 d4] _)
  have B0 : Hid (Below w.heap.size w (w.alloc (Obj.cells #[Value.int .i64 n0, Value.string s1, Value.int .i64 n2, v3, v4] 86))) := Lib.hid ((Below.refl _ _).alloc (Nat.le_refl _) _)
  have K3 := fun (w' : World) (l : Nat) (hl : l ≤ 1048576) (hb : Below w.heap.size w w') => Lib.hid (szS_String lo l t3 w' v3 d3 hl f3 (h3.below hb))
  have K4 := fun (w' : World) (l : Nat) (hl : l ≤ 1048576) (hb : Below w.heap.size w w') => Lib.hid (KR lo l t4 w' v4 d4 (by omega) hl f4 (h4.below hb))
  generalize weight (.row 1 (erases d3)) = q3 at *
  generalize weight (.row 5 (erases d4)) = q4 at *
  clear h3 f3
  clear h4 f4
  clear KR hm
  generalize weights (erases [D.int n0, D.str s1, D.int n2, D.row t3 1 v3 d3, D.row t4 5 v4 d4]) = WW at *
  generalize hR : after left WW = R
  have HA := Lib.hid hR
  clear hR
  have HW := Lib.hid HW
  rw [show agg [D.int n0, D.str s1, D.int n2, D.row t3 1 v3 d3, D.row t4 5 v4 d4] = Value.agg #[Value.int .i64 n0, Value.string s1, Value.int .i64 n2, v3, v4] from rfl]
  by_cases hs1 : (left : Int) - (s1.size : Int) < 0
  · skip
    have hR : R = -1 := by rw [← HA.out]; exact after_no (by have h0' := HW.out; omega)
    subst hR
    go_enter Tryz.func43, Tryz.ntmps43
    go_wp2_with fail
    go_ret
    exact ⟨rfl, B0.out⟩
  obtain ⟨l1, hl1⟩ : ∃ l' : Nat, l' + s1.size = left := ⟨left - s1.size, by omega⟩
  have e1' : (left : Int) - (s1.size : Int) = (l1 : Int) := by omega
  have HL1 := Lib.hid hl1
  clear hl1
  go_enter Tryz.func43, Tryz.ntmps43
  have a3 := C0.out.at 3 (D.row t3 1 v3 d3) rfl
  simp only [val] at a3
  go_wp2_with fail
  refine (K3 _ l1 (by have h0' := HW.out; have h1' := HL1.out; omega) B0.out).out.mono ?_
  rintro e w1 ⟨rfl, hb1⟩
  have B1 := Lib.hid (B0.out.trans (hb1.mono B0.out.size))
  have C1 := Lib.hid (C0.out.step hb1)
  clear hb1 K3 B0 C0 a3
  by_cases hq2 : q3 ≤ l1
  rotate_left
  · rw [after_no (by omega)]
    have hR : R = -1 := by rw [← HA.out]; exact after_no (by have h0' := HW.out; have h1' := HL1.out; omega)
    subst hR
    go_wp2_with fail
    go_ret
    exact ⟨rfl, B1.out⟩
  rw [after_yes hq2]
  obtain ⟨l2, hl2⟩ : ∃ l' : Nat, l1 - q3 = l' := ⟨_, rfl⟩
  have HL2 : Hid (l2 + q3 = l1) := Lib.hid (by omega)
  rw [hl2]
  clear hl2 hq2
  have a4 := C1.out.at 4 (D.row t4 5 v4 d4) rfl
  simp only [val] at a4
  go_wp2_with fail
  refine (K4 _ l2 (by have h0' := HW.out; have h1' := HL1.out; have h2' := HL2.out; omega) B1.out).out.mono ?_
  rintro e w2 ⟨rfl, hb2⟩
  have B2 := Lib.hid (B1.out.trans (hb2.mono B1.out.size))
  have C2 := Lib.hid (C1.out.step hb2)
  clear hb2 K4 B1 C1 a4
  by_cases hq3 : q4 ≤ l2
  rotate_left
  · rw [after_no (by omega)]
    have hR : R = -1 := by rw [← HA.out]; exact after_no (by have h0' := HW.out; have h1' := HL1.out; have h2' := HL2.out; omega)
    subst hR
    go_wp2_with fail
    go_ret
    exact ⟨rfl, B2.out⟩
  rw [after_yes hq3]
  obtain ⟨l3, hl3⟩ : ∃ l' : Nat, l2 - q4 = l' := ⟨_, rfl⟩
  have HL3 : Hid (l3 + q4 = l2) := Lib.hid (by omega)
  rw [hl3]
  clear hl3 hq3
  have hR : R = (l3 : Int) := by rw [← HA.out, after_yes (by have h0' := HW.out; have h1' := HL1.out; have h2' := HL2.out; have h3' := HL3.out; omega)]; have h0' := HW.out; have h1' := HL1.out; have h2' := HL2.out; have h3' := HL3.out; omega
  subst hR
  go_wp2_with fail
  go_ret
  exact ⟨rfl, B2.out⟩
set_option maxRecDepth 10000 in
set_option maxHeartbeats 4000000 in
theorem szS_Expr_of (NN : Nat) (KT : ∀ (lo left : Nat) (w : World) (ds : List D), masses (erases ds) ≤ NN → left ≤ 1048576 → FitL (env 2) (erases ds) → Holdss lo w ds → Calls Tryz.prog 43 #[agg ds, .int .i64 left] w fun r w' => r = .returned (.int .i64 (after left (weights (erases ds)))) ∧ Below w.heap.size w w') (lo left t : Nat) (w : World) (v : Value) (ds : List D) (hm : masses (erases ds) ≤ NN) (hl : left ≤ 1048576) (hf : FitRow 2 (erases ds)) (hh : Holds lo w (.row t 5 v ds)) :
    Calls Tryz.prog 23 #[v, .int .i64 left] w fun r w' => r = .returned (.int .i64 (after left (weight (.row 5 (erases ds))))) ∧ Below w.heap.size w w' := by
  rw [Holds] at hh
  obtain ⟨⟨a, n, cap, rfl, -, hn, hnc, hcm, hc⟩, hds⟩ := hh
  unfold maxLen at hcm
  have HWT : weight (.row 5 (erases ds)) = n + weights (erases ds) := by
    rw [weight, erases_len, hn, Nat.mul_div_cancel _ (by decide)]
  have HN := Lib.hid hn
  have HF := Lib.hid hf
  have HDS := Lib.hid hds
  clear hn hf hds
  by_cases hp : 0 < n
  rotate_left
  · have hn0 : n = 0 := by omega
    subst hn0
    have hd0 : ds = [] := List.eq_nil_of_length_eq_zero (by have := HN.out; omega)
    subst hd0
    rw [HWT]
    simp only [erases, weights]
    rw [after_yes (Nat.zero_le _)]
    clear hc HWT HN HF HDS KT hm
    go_enter Tryz.func23, Tryz.ntmps23
    go_wp2_with fail
    refine wp_loop_rounds 1 ?_
    rw [rounds_succ]
    go_wp2_with fail
    go_ret
    exact ⟨by simp, Below.refl _ _⟩
  obtain ⟨b, off, rfl, hb, hc⟩ := hc hp
  have HC := Lib.hid hc
  clear hc hb
  generalize hR : after left (weight (.row 5 (erases ds))) = R
  rw [HWT] at hR
  have HA := Lib.hid hR
  clear hR HWT
  by_cases hbig : (left : Int) - (n : Int) < 0
  · have hR : R = -1 := by rw [← HA.out]; exact after_no (by omega)
    subst hR
    go_enter Tryz.func23, Tryz.ntmps23
    go_wp2_with fail
    go_ret
    exact ⟨rfl, Below.refl _ _⟩
  go_enter Tryz.func23, Tryz.ntmps23
  go_wp2_with fail
  go_loopw [1, 5] (fun t j wr => ∃ (i r : Nat) (A R : List D), ds = A ++ R ∧ A.length = i * 5 ∧ FitRow 2 (erases R) ∧ j = .int .i64 i ∧ r + n + weights (erases A) = left ∧ t = .int .i64 r ∧ Below w.heap.size w wr) (fun _ j _ => n - (intOf j).toNat)
  case atStart => exact ⟨0, left - n, [], ds, rfl, by simp, HF.out, rfl, by simp [erases, weights]; omega, by go_num, Below.refl _ _⟩
  case round =>
    obtain ⟨i, r, A, R', hds, hal, hfr, rfl, hq, rfl, hbw⟩ := hrel
    have HD := Lib.hid hds
    have HAL := Lib.hid hal
    have HQ := Lib.hid hq
    clear hds hal hq
    rcases fitRow_cases hfr with rfl | ⟨item, rest, rfl, hfi, hfrest⟩
    · have hin : i = n := by
        have h1 := HN.out
        rw [HD.out, List.append_nil, HAL.out] at h1
        omega
      have hR : R = (r : Int) := by
        have h1 := HQ.out
        rw [← HA.out, HD.out, List.append_nil, after_yes (by omega)]
        omega
      subst hin
      have HR2 := Lib.hid hR
      clear hR hfr
      go_wp2_with fail
      go_ret
      exact ⟨by rw [HR2.out]; rfl, hbw⟩
    have hil : item.length = 5 := by have := fitL_len hfi; rw [erases_len] at this; exact this
    have hlt : i < n := by
      have h1 := HN.out
      rw [HD.out, List.length_append, List.length_append, HAL.out, hil] at h1
      omega
    have HIT := Lib.hid hfi
    clear hil hfr
    obtain ⟨n0, e0, rfl, hfi_0⟩ := fitL_int hfi
    clear hfi
    obtain ⟨s1, e1, rfl, hfi_1⟩ := fitL_str hfi_0
    clear hfi_0
    obtain ⟨n2, e2, rfl, hfi_2⟩ := fitL_int hfi_1
    clear hfi_1
    obtain ⟨t3, v3, d3, e3, rfl, f3, hfi_3⟩ := fitL_row (k := 1) rfl hfi_2
    clear hfi_2
    obtain ⟨t4, v4, d4, e4, rfl, f4, hfi_4⟩ := fitL_row (k := 5) rfl hfi_3
    clear hfi_3
    obtain rfl := fitL_nil hfi_4
    clear hfi_4
    have c0 := cell_keep hbw (row_at0 HC.out HD.out HAL.out (D.int n0) rfl)
    simp only [val] at c0
    have c1 := cell_keep hbw (row_at HC.out HD.out HAL.out 1 (D.str s1) rfl)
    simp only [val] at c1
    have c2 := cell_keep hbw (row_at HC.out HD.out HAL.out 2 (D.int n2) rfl)
    simp only [val] at c2
    have c3 := cell_keep hbw (row_at HC.out HD.out HAL.out 3 (D.row t3 1 v3 d3) rfl)
    simp only [val] at c3
    have c4 := cell_keep hbw (row_at HC.out HD.out HAL.out 4 (D.row t4 5 v4 d4) rfl)
    simp only [val] at c4
    have hit : Holdss lo wr [D.int n0, D.str s1, D.int n2, D.row t3 1 v3 d3, D.row t4 5 v4 d4] := ((Holdss.append.1 ((Holdss.append.1 (HD.out ▸ HDS.out)).2)).1).below hbw
    have KI := Lib.hid (KT lo r wr [D.int n0, D.str s1, D.int n2, D.row t3 1 v3 d3, D.row t4 5 v4 d4] (by have h1 := hm; rw [HD.out, erases_append, erases_append, masses_append, masses_append] at h1; omega) (by have := HQ.out; omega) HIT.out hit)
    have HWA : Hid (weights (erases (A ++ [D.int n0, D.str s1, D.int n2, D.row t3 1 v3 d3, D.row t4 5 v4 d4])) = weights (erases A) + weights (erases [D.int n0, D.str s1, D.int n2, D.row t3 1 v3 d3, D.row t4 5 v4 d4])) := Lib.hid (by rw [erases_append, weights_append])
    have HWB : Hid (weights (erases ds) = weights (erases A) + weights (erases [D.int n0, D.str s1, D.int n2, D.row t3 1 v3 d3, D.row t4 5 v4 d4]) + weights (erases rest)) := Lib.hid (by rw [HD.out, erases_append, erases_append, weights_append, weights_append, Nat.add_assoc])
    have HD2 : Hid (ds = (A ++ [D.int n0, D.str s1, D.int n2, D.row t3 1 v3 d3, D.row t4 5 v4 d4]) ++ rest) := Lib.hid (by rw [HD.out, List.append_assoc])
    have HAL2 : Hid ((A ++ [D.int n0, D.str s1, D.int n2, D.row t3 1 v3 d3, D.row t4 5 v4 d4]).length = (i + 1) * 5) := Lib.hid (by rw [List.length_append, HAL.out, Nat.succ_mul]; rfl)
    have HFR := Lib.hid hfrest
    generalize hqi : weights (erases [D.int n0, D.str s1, D.int n2, D.row t3 1 v3 d3, D.row t4 5 v4 d4]) = qi at *
    have HB := Lib.hid hbw
    clear hit hfrest hqi hbw HIT HD HAL
    clear f3
    clear f4
    simp only [agg, vals, List.map, val] at KI
    go_wp2_with fail
    refine KI.out.mono ?_
    rintro e w1 ⟨rfl, hb1⟩
    have HB1 := Lib.hid (HB.out.trans (hb1.mono HB.out.size))
    clear hb1 KI HB
    by_cases hle : qi ≤ r
    · rw [after_yes hle]
      have HT2 : Hid (r - qi + n + weights (erases (A ++ [D.int n0, D.str s1, D.int n2, D.row t3 1 v3 d3, D.row t4 5 v4 d4])) = left) := Lib.hid (by
        have h1 := HWA.out
        have h2 := HQ.out
        omega)
      generalize r - qi = r' at *
      go_wp2_with fail
      go_roundw
      case rel => exact ⟨i + 1, r', A ++ [D.int n0, D.str s1, D.int n2, D.row t3 1 v3 d3, D.row t4 5 v4 d4], rest, HD2.out, HAL2.out, HFR.out, by go_num, HT2.out, rfl, HB1.out⟩
      case measure => simp [intOf]; omega
    · rw [after_no (by omega)]
      have hR : R = -1 := by
        rw [← HA.out]
        have h1 := HWB.out
        have h2 := HQ.out
        exact after_no (by omega)
      subst hR
      go_wp2_with fail
      go_ret
      exact ⟨rfl, HB1.out⟩
theorem szS_Expr_all (NN : Nat) : (∀ (lo left t : Nat) (w : World) (v : Value) (ds : List D), masses (erases ds) < NN → left ≤ 1048576 → FitRow 2 (erases ds) → Holds lo w (.row t 5 v ds) → Calls Tryz.prog 23 #[v, .int .i64 left] w fun r w' => r = .returned (.int .i64 (after left (weight (.row 5 (erases ds))))) ∧ Below w.heap.size w w') := by
  induction NN with
  | zero => intro _ _ _ _ _ _ h; omega
  | succ NN ih =>
    intro lo left t w v ds hm hl hf hh
    exact szS_Expr_of NN (fun lo left w ds hm hl hf hh => sz_Expr_of NN ih lo left w ds hm hl hf hh) lo left t w v ds (by omega) hl hf hh
theorem szS_Expr (lo left t : Nat) (w : World) (v : Value) (ds : List D) (hl : left ≤ 1048576) (hf : FitRow 2 (erases ds)) (hh : Holds lo w (.row t 5 v ds)) :
    Calls Tryz.prog 23 #[v, .int .i64 left] w fun r w' => r = .returned (.int .i64 (after left (weight (.row 5 (erases ds))))) ∧ Below w.heap.size w w' := szS_Expr_all _ lo left t w v ds (Nat.lt_succ_self _) hl hf hh
theorem sz_Expr (lo left : Nat) (w : World) (ds : List D) (hl : left ≤ 1048576) (hf : FitL (env 2) (erases ds)) (hh : Holdss lo w ds) :
    Calls Tryz.prog 43 #[agg ds, .int .i64 left] w fun r w' => r = .returned (.int .i64 (after left (weights (erases ds)))) ∧ Below w.heap.size w w' := sz_Expr_of _ (szS_Expr_all _) lo left w ds (Nat.le_refl _) hl hf hh
end Go.Proofs.YtdohpppkdecbdaaGreatDoor.Data
