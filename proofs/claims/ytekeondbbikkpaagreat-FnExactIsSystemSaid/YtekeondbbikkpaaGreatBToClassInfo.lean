/-
  The mass of data (for inductions), and the blocks of a function that copies a struct: the argument's copy, the result's cells, the variable that is filled.
  laws.toClassInfo and toClassInfoS: they copy into memory of their own.
-/
import Derived.Test.YtekeondbbikkpaaGreatBDataStr
import Derived.Outline
import Derived.Deep.QuietTactic
import Derived.BigQuiet
import Derived.Deep.RegionWith
import Derived.Deep.RegionHeld3
namespace Go.Proofs.YtekeondbbikkpaaGreat.Data
open Go.RowKit
open Strs
mutual
def mass : P → Nat
  | .int _ => 1
  | .str _ => 1
  | .bool _ => 1
  | .row _ ps => 1 + masses ps
def masses : List P → Nat
  | [] => 0
  | p :: ps => mass p + masses ps
end
theorem masses_append (a b : List P) : masses (a ++ b) = masses a + masses b := by
  induction a with
  | nil => simp [masses]
  | cons e es ih => simp [masses, ih]; omega
def puts (w : World) (g p : Nat) : List Value → World
  | [] => w
  | v :: vs => puts (w.setCell ⟨g, p, none⟩ v) g (p + 1) vs
def sets (xs : List Value) (p : Nat) : List Value → List Value
  | [] => xs
  | v :: vs => sets (xs.set p v) (p + 1) vs
theorem sets_len (vs : List Value) : ∀ (xs : List Value) (p : Nat), (sets xs p vs).length = xs.length := by
  induction vs with
  | nil => intro xs p; rfl
  | cons v vs ih => intro xs p; rw [sets, ih, List.length_set]
theorem sets_low (vs : List Value) : ∀ (xs : List Value) (p q : Nat), q < p → (sets xs p vs)[q]? = xs[q]? := by
  induction vs with
  | nil => intro xs p q _; rfl
  | cons v vs ih => intro xs p q h; rw [sets, ih _ _ _ (by omega), List.getElem?_set_ne (by omega)]
theorem sets_at (vs : List Value) : ∀ (xs : List Value) (p j : Nat), p + vs.length ≤ xs.length → j < vs.length → (sets xs p vs)[p + j]? = vs[j]? := by
  induction vs with
  | nil => intro xs p j _ h; simp at h
  | cons v vs ih =>
    intro xs p j h hj
    rw [sets]
    cases j with
    | zero => rw [sets_low _ _ _ _ (by omega), Nat.add_zero, List.getElem?_set_self (by simp at h; omega)]; rfl
    | succ j =>
      rw [show p + (j + 1) = p + 1 + j by omega, ih _ _ _ (by simp at h ⊢; omega) (by simpa using hj)]
      rfl
theorem puts_own {base : Nat} {t k g n c : Nat} (vs : List Value) : ∀ (w : World) (xs : List Value) (p : Nat), w.ownsRow base t k (.slice (some ⟨g, 0, none⟩) n c) n xs → (puts w g p vs).ownsRow base t k (.slice (some ⟨g, 0, none⟩) n c) n (sets xs p vs) := by
  induction vs with
  | nil => intro w xs p h; exact h
  | cons v vs ih => intro w xs p h; exact ih _ _ _ (h.stored p v).1
theorem puts_size {g : Nat} (vs : List Value) : ∀ (w : World) (p : Nat), (puts w g p vs).heap.size = w.heap.size := by
  induction vs with
  | nil => intro w p; rfl
  | cons v vs ih => intro w p; rw [puts, ih]; simp
theorem puts_below {base g : Nat} (hg : base ≤ g) (vs : List Value) : ∀ (w w1 : World) (p : Nat), Below base w w1 → Below base w (puts w1 g p vs) := by
  induction vs with
  | nil => intro w w1 p h; exact h
  | cons v vs ih => intro w w1 p h; exact ih _ _ _ (h.setCell hg _)
theorem Own.setLow {base : Nat} {w : World} {ds : List D} (h : Own base w ds) {g : Nat} (hg : g < base) (o : Nat) (v : Value) : Own base (w.setCell ⟨g, o, none⟩ v) ds :=
  h.frame fun b hb => Below.heap_setCell _ _ _ _ (fun e => by have := h.lo b hb; have : b = g := e; omega)
theorem Own.putLow {base : Nat} {ds : List D} {g : Nat} (hg : g < base) (vs : List Value) : ∀ (w : World) (p : Nat), Own base w ds → Own base (puts w g p vs) ds := by
  induction vs with
  | nil => intro w p h; exact h
  | cons v vs ih => intro w p h; exact ih _ _ (h.setLow hg _ _)
def SomeD (w : World) (t k n : Nat) (ds : List D) (i : Nat) (wr : World) : Prop :=
  w.heap.size < wr.heap.size ∧ Below w.heap.size w wr ∧ ∃ (xs : List Value) (es : List D), xs.length = n * k ∧ wr.ownsRow w.heap.size t k (.slice (some ⟨w.heap.size, 0, none⟩) n n) n xs ∧
    es.length = i * k ∧ (∀ j (h : j < es.length), xs[j]? = some (val es[j])) ∧ erases es = (erases ds).take (i * k) ∧ Own (w.heap.size + 1) wr es
theorem someD_step {w wr w2 : World} {t k n i : Nat} {ds A item rest es : List D} (h : SomeD w t k n ds i wr) (hb : Below wr.heap.size wr w2) (ho : Own wr.heap.size w2 es) (he : erases es = erases item) (hd : ds = A ++ (item ++ rest)) (hal : A.length = i * k) (hil : item.length = k) (hlt : i < n) :
    SomeD w t k n ds (i + 1) (puts w2 w.heap.size (i * k) (vals es)) := by
  obtain ⟨hg, hbw, xs, fs, hxl, how, hfl, hfx, hfe, hfo⟩ := h
  have hel : es.length = k := by
    have := congrArg List.length he
    rw [erases_len, erases_len] at this
    omega
  have hik : (i + 1) * k ≤ n * k := Nat.mul_le_mul_right k (by omega)
  rw [Nat.succ_mul] at hik
  refine ⟨by rw [puts_size]; have := hb.size; omega, puts_below (Nat.le_refl _) _ _ _ _ (hbw.trans (hb.mono (by omega))), sets xs (i * k) (vals es), fs ++ es, by rw [sets_len, hxl], puts_own _ _ _ _ (own_keep how hb), by rw [List.length_append, hfl, hel, Nat.succ_mul], fun j hj => ?_, ?_, Own.putLow (Nat.lt_succ_self _) _ _ _ (hfo.snoc hb ho (by omega))⟩
  · rw [List.length_append, hfl, hel] at hj
    by_cases hji : j < i * k
    · rw [sets_low _ _ _ _ hji, hfx j (by omega), List.getElem_append_left (by omega)]
    · have hjj : j = i * k + (j - i * k) := by omega
      have h1 := sets_at (vals es) xs (i * k) (j - i * k) (by rw [vals_len, hel, hxl]; exact hik) (by rw [vals_len]; omega)
      rw [← hjj] at h1
      rw [h1, vals_get es _ (by omega), List.getElem_append_right (by omega)]
      congr 2
      simp only [hfl]
  · rw [erases_append, hfe, he, hd, erases_append, erases_append, Nat.succ_mul]
    have hA : (erases A).length = i * k := by rw [erases_len, hal]
    have hI : (erases item).length = k := by rw [erases_len, hil]
    rw [← hA, ← hI, List.take_append_of_le_length (Nat.le_refl _), List.take_length, List.take_length_add_append, List.take_append_of_le_length (Nat.le_refl _), List.take_length]
theorem someD_all {w wr : World} {t k n : Nat} {ds : List D} (hk : 0 < k) (hn : ds.length = n * k) (h : SomeD w t k n ds n wr) : ∃ es, erases es = erases ds ∧ Row w.heap.size wr t k (.slice (some ⟨w.heap.size, 0, none⟩) n n) es := by
  obtain ⟨hg, hbw, xs, es, hxl, how, hfl, hfx, hfe, hfo⟩ := h
  refine ⟨es, by rw [hfe, ← hn, ← erases_len, List.take_length], ⟨n, hk, hfl, ?_⟩, hfo.mono (by omega), fun b hb hc => ?_⟩
  · have : xs = vals es := by
      apply List.ext_getElem?
      intro j
      by_cases hj : j < es.length
      · rw [hfx j hj, vals_get es j hj]
      · rw [List.getElem?_eq_none (by omega), List.getElem?_eq_none (by rw [vals_len]; omega)]
    rw [this] at how
    exact how
  · have h1 := hfo.lo b hc
    simp [blk, Value.ownBlock] at hb
    omega
theorem someD_start {w w1 : World} {t k n : Nat} {ds : List D} {xs : List Value} (hown : w1.ownsRow w.heap.size t k (.slice (some ⟨w.heap.size, 0, none⟩) n n) n xs) (hb : Below w.heap.size w w1) : SomeD w t k n ds 0 w1 :=
  ⟨(hown.lt _ rfl).2, hb, xs, [], hown.1, hown, by simp, fun j h => by simp at h, by simp [erases], Own.nil _ _⟩
theorem SomeD.cell {w wr w2 : World} {t k n i : Nat} {ds : List D} (h : SomeD w t k n ds i wr) (hb : Below wr.heap.size wr w2) (hlt : i < n) (r : Nat) (hr : r < k) : ∃ v, w2.cell? ⟨w.heap.size, i * k + r, none⟩ = some v := by
  obtain ⟨hg, hbw, xs, fs, hxl, how, hfl, hfx, hfe, hfo⟩ := h
  have hik : (i + 1) * k ≤ n * k := Nat.mul_le_mul_right k (by omega)
  rw [Nat.succ_mul] at hik
  rw [(own_keep how hb).cellAt _ (by omega)]
  exact ⟨_, List.getElem?_eq_getElem (by omega)⟩
theorem SomeD.free {w wr w2 : World} {t k n i : Nat} {ds : List D} (h : SomeD w t k n ds i wr) (hb : Below wr.heap.size wr w2) (o : Nat) : w2.frozen? ⟨w.heap.size, o, none⟩ = false := by
  obtain ⟨hg, hbw, xs, fs, hxl, how, hfl, hfx, hfe, hfo⟩ := h
  exact (own_keep how hb).frozenAt o
structure Box (w : World) (ds zs os : List D) (wr : World) : Prop where
  below : Below w.heap.size w wr
  size : w.heap.size + 3 ≤ wr.heap.size
  a : Cells w.heap.size ds wr
  b : Cells (w.heap.size + 1) zs wr
  c : Cells (w.heap.size + 1 + 1) os wr
  fb : ∀ o, wr.frozen? ⟨w.heap.size + 1, o, none⟩ = false
  fc : ∀ o, wr.frozen? ⟨w.heap.size + 1 + 1, o, none⟩ = false
theorem Box.step {w wr w' : World} {ds zs os : List D} (h : Box w ds zs os wr) (hb : Below wr.heap.size wr w') : Box w ds zs os w' :=
  ⟨h.below.trans (hb.mono (by have := h.size; omega)), Nat.le_trans h.size hb.size, h.a.step hb, h.b.step hb, h.c.step hb,
    fun o => (hb.frozen (p := ⟨_, o, none⟩) (by have := h.size; simp; omega)).trans (h.fb o), fun o => (hb.frozen (p := ⟨_, o, none⟩) (by have := h.size; simp; omega)).trans (h.fc o)⟩
theorem cells_other {B g o : Nat} {ds : List D} {wr : World} (h : Cells B ds wr) (v : Value) (hg : B ≠ g) : Cells B ds (wr.setCell ⟨g, o, none⟩ v) :=
  ⟨by simpa using h.1, fun j hj => (World.cell?_setCell_other _ _ _ _ (by intro e; injection e with e1; exact hg e1.symm)).trans (h.2 j hj)⟩
theorem Cells.set {B : Nat} {ds : List D} {wr : World} (h : Cells B ds wr) (j : Nat) (d : D) (hj : j < ds.length) (hf : wr.frozen? ⟨B, j, none⟩ = false) : Cells B (ds.set j d) (wr.setCell ⟨B, j, none⟩ (val d)) := by
  refine ⟨by simpa using h.1, fun q hq => ?_⟩
  have hq' : q < ds.length := by simpa using hq
  by_cases e : q = j
  · subst e
    have := h.2 q hq'
    rw [List.getElem_set_self]
    go_simp
  · rw [List.getElem_set_ne (by omega)]
    exact (World.cell?_setCell_other _ _ _ _ (by intro e2; injection e2 with _ e3; omega)).trans (h.2 q hq')
theorem Box.set {w wr : World} {ds zs os : List D} (h : Box w ds zs os wr) (j : Nat) (d : D) (hj : j < os.length) : Box w ds zs (os.set j d) (wr.setCell ⟨w.heap.size + 1 + 1, j, none⟩ (val d)) :=
  ⟨h.below.setCell (by show w.heap.size ≤ w.heap.size + 1 + 1; omega) _, by simpa using h.size, cells_other h.a _ (by omega), cells_other h.b _ (by omega), h.c.set j d hj (h.fc j),
    fun o => by have := h.fb o; go_simp, fun o => by have := h.fc o; go_simp⟩
theorem box_new (w : World) (ds zs os : List D) (t1 t2 t3 : TypeId) : Box w ds zs os (((w.alloc (Obj.cells (vals ds).toArray t1)).alloc (Obj.cells (vals zs).toArray t2)).alloc (Obj.cells (vals os).toArray t3)) := by
  have h1 := (Below.refl w.heap.size w).alloc (Nat.le_refl _) (Obj.cells (vals ds).toArray t1)
  have h2 := (Below.refl (w.alloc (Obj.cells (vals ds).toArray t1)).heap.size (w.alloc (Obj.cells (vals ds).toArray t1))).alloc (Nat.le_refl _) (Obj.cells (vals zs).toArray t2)
  have h3 := (Below.refl ((w.alloc (Obj.cells (vals ds).toArray t1)).alloc (Obj.cells (vals zs).toArray t2)).heap.size ((w.alloc (Obj.cells (vals ds).toArray t1)).alloc (Obj.cells (vals zs).toArray t2))).alloc (Nat.le_refl _) (Obj.cells (vals os).toArray t3)
  have c1 := cells_new w ds t1
  have c2 := cells_new (w.alloc (Obj.cells (vals ds).toArray t1)) zs t2
  have c3 := cells_new ((w.alloc (Obj.cells (vals ds).toArray t1)).alloc (Obj.cells (vals zs).toArray t2)) os t3
  have e1 : (w.alloc (Obj.cells (vals ds).toArray t1)).heap.size = w.heap.size + 1 := by simp
  have e2 : ((w.alloc (Obj.cells (vals ds).toArray t1)).alloc (Obj.cells (vals zs).toArray t2)).heap.size = w.heap.size + 1 + 1 := by simp
  have c2' := c2.step h3
  have c1' := (c1.step h2).step h3
  rw [e1] at c2'
  rw [e2] at c3
  refine ⟨(((Below.refl _ _).alloc (Nat.le_refl _) _).alloc (by simp) _).alloc (by simp; omega) _, by simp, c1', c2', c3, ?_, ?_⟩
  all_goals (intro o; go_simp)
theorem row_slice {w : World} {t k : Nat} {v : Value} {ds : List D} (h : Good w (.row t k v ds)) : ∃ a n c, v = .slice a n c := by
  rw [Good] at h
  obtain ⟨⟨n, -, -, ho⟩, -⟩ := h
  obtain ⟨_, ⟨rfl, hn⟩ | ⟨g, cap, cur, rfl, _⟩⟩ := ho
  · exact ⟨none, 0, 0, rfl⟩
  · exact ⟨_, _, _, rfl⟩
end Go.Proofs.YtekeondbbikkpaaGreat.Data

namespace Go.Proofs.YtekeondbbikkpaaGreat.Data
open Go.RowKit
open Strs Tree Texts
set_option linter.unusedSimpArgs false
set_option maxRecDepth 10000 in
set_option maxHeartbeats 4000000 in
theorem to_ClassInfo (lo : Nat) (w : World) (ds : List D) (hw : weights (erases ds) ≤ 1048576) (hf : FitL (env 6) (erases ds)) (hh : Holdss lo w ds) :
    Calls Tryz.prog 40 #[agg ds] w fun r w' => ∃ es, r = .returned (agg es) ∧ erases es = erases ds ∧ Own w.heap.size w' es ∧ Below w.heap.size w w' := by
  obtain ⟨s0, e0, rfl, hf_0⟩ := fitL_str hf
  clear hf
  obtain ⟨n1, e1, rfl, hf_1⟩ := fitL_int hf_0
  clear hf_0
  obtain ⟨t2, v2, d2, e2, rfl, f2, hf_2⟩ := fitL_row (k := 1) rfl hf_1
  clear hf_1
  obtain rfl := fitL_nil hf_2
  clear hf_2
  simp only [Holdss, and_true] at hh
  obtain ⟨h0, h1, h2⟩ := hh
  have hw2 : weight (.row 1 (erases d2)) ≤ 1048576 := by simp only [erases, erase, weights] at hw; omega
  have K2 := fun (w' : World) (hb : Below w.heap.size w w') => Lib.hid (toS_String lo t2 w' v2 d2 hw2 f2 (h2.below hb))
  have P0 := Lib.hid h0
  have P1 := Lib.hid h1
  clear hw h0 h1 h2 hw2 f2
  have B0 : Hid (Box w [D.str s0, D.int n1, D.row t2 1 v2 d2] [D.str ⟨#[]⟩, D.int 0, D.row 0 1 (.slice none 0 0) []] [D.str s0, D.int n1, D.row 0 1 (.slice none 0 0) []] (((w.alloc (Obj.cells #[Value.string s0, Value.int .i64 n1, v2] 66)).alloc (Obj.cells #[Value.string { data := #[] }, Value.int .i64 0, Value.slice none 0 0] 76)).alloc (Obj.cells #[Value.string s0, Value.int .i64 n1, Value.slice none 0 0] 76))) := Lib.hid (box_new w [D.str s0, D.int n1, D.row t2 1 v2 d2] [D.str ⟨#[]⟩, D.int 0, D.row 0 1 (.slice none 0 0) []] [D.str s0, D.int n1, D.row 0 1 (.slice none 0 0) []] _ _ _)
  rw [show agg [D.str s0, D.int n1, D.row t2 1 v2 d2] = Value.agg #[Value.string s0, Value.int .i64 n1, v2] from rfl]
  go_enter Tryz.func40, Tryz.ntmps40
  have a2 := B0.out.a.at 2 (D.row t2 1 v2 d2) rfl
  simp only [val] at a2
  go_wp2_with fail
  refine (K2 _ B0.out.below).out.mono ?_
  rintro e w1 ⟨ya2, yn2, yc2, yd2, rfl, he2, hr2, hb1⟩
  have HE2 := Lib.hid he2
  clear he2
  have on1 := row_iff.2 hr2
  have OW1 := Lib.hid (on1.mono (base' := w.heap.size + 3) B0.out.size)
  have B1 := Lib.hid (B0.out.step hb1)
  clear hb1 on1 K2 B0 a2 hr2
  have b0 := B1.out.b.at 0 (D.str ⟨#[]⟩) rfl
  have c0 := B1.out.c.at 0 (D.str s0) rfl
  simp only [val] at b0 c0
  have b1 := B1.out.b.at 1 (D.int 0) rfl
  have c1 := B1.out.c.at 1 (D.int n1) rfl
  simp only [val] at b1 c1
  have b2 := B1.out.b.at 2 (D.row 0 1 (.slice none 0 0) []) rfl
  have c2 := B1.out.c.at 2 (D.row 0 1 (.slice none 0 0) []) rfl
  simp only [val] at b2 c2
  have fb := B1.out.fb
  have fc := B1.out.fc
  go_wp2_with fail
  refine bodyPost_ret (v := .agg #[Value.string s0, Value.int .i64 n1, Value.slice ya2 yn2 yc2]) (by simp [results, Tryz.results40, go_sem, *]) rfl ?_
  have g1 : w.heap.size + 1 + 1 < w.heap.size + 3 := by omega
  have g2 : w.heap.size + 1 < w.heap.size + 3 := by omega
  have g3 : w.heap.size ≤ w.heap.size + 1 + 1 := by omega
  have g4 : w.heap.size ≤ w.heap.size + 1 := by omega
  have OWN := ((((OW1.out.setLow g1 2 (Value.slice ya2 yn2 yc2)).setLow g2 0 (Value.string s0)).setLow g2 1 (Value.int .i64 n1)).setLow g2 2 (Value.slice ya2 yn2 yc2))
  refine ⟨[D.str s0, D.int n1, D.row 9 1 (.slice ya2 yn2 yc2) yd2], rfl, ?_, ?_, ((((B1.out.below.setCell g3 _).setCell g4 _).setCell g4 _).setCell g4 _)⟩
  · simp only [erases, erase, HE2.out]
  · refine ⟨?_, ?_, ?_⟩
    · have hg := OWN.good
      simp only [goods_iff, List.mem_append, List.mem_cons, List.not_mem_nil, or_false] at hg ⊢
      intro d hd
      rcases hd with rfl | rfl | rfl
      · have h := P0.out; rw [Holds] at h; rw [Good]; exact h
      · have h := P1.out; rw [Holds] at h; rw [Good]; exact h
      · exact hg _ (by simp)
    · have h := OWN.nd
      simp only [foots, foot, foots_append, List.append_nil, List.nil_append, List.append_assoc] at h ⊢
      exact h
    · have h := OWN.lo
      intro b hb
      refine Nat.le_trans (by omega) (h b ?_)
      simp only [foots, foot, foots_append, List.append_nil, List.nil_append, List.append_assoc] at hb ⊢
      exact hb
theorem info_ClassInfo : (Tryz.prog.info? 76).map (fun i => (i.zero, i.size, i.bytes)) = some (some (.agg #[.string ByteArray.empty, .int .i64 0, .slice none 0 0]), 3, 48) := by kernel_rfl
set_option maxRecDepth 10000 in
set_option maxHeartbeats 8000000 in
theorem toS_ClassInfo (lo t : Nat) (w : World) (v : Value) (ds : List D) (hw : weight (.row 3 (erases ds)) ≤ 1048576) (hf : FitRow 6 (erases ds)) (hh : Holds lo w (.row t 3 v ds)) :
    Calls Tryz.prog 17 #[v] w fun r w' => ∃ a n c es, r = .returned (.slice a n c) ∧ erases es = erases ds ∧ Row w.heap.size w' 76 3 (.slice a n c) es ∧ Below w.heap.size w w' := by
  rw [Holds] at hh
  obtain ⟨⟨a, n, cap, rfl, -, hn, hnc, hcm, hc⟩, hds⟩ := hh
  have hnw : n + weights (erases ds) ≤ 1048576 := by
    rw [weight, erases_len, hn, Nat.mul_div_cancel _ (by decide)] at hw
    exact hw
  have hm2 : n ≤ 1048576 := by omega
  obtain ⟨i0, hi, hz0, hz1, hz2⟩ := info_parts info_ClassInfo
  have HN := Lib.hid hn
  have HF := Lib.hid hf
  have HDS := Lib.hid hds
  have HWN := Lib.hid hnw
  clear hn hf hds hcm hw hnw
  by_cases hp : 0 < n
  rotate_left
  · have hn0 : n = 0 := by omega
    subst hn0
    have hd0 : ds = [] := List.eq_nil_of_length_eq_zero (by have := HN.out; omega)
    subst hd0
    clear hc HN HF HDS HWN
    go_enter Tryz.func17, Tryz.ntmps17
    go_wp2_with (at_make; refine wpList_make_full _ rfl _ _ 33 rfl w.heap.size 76 i0 _ 3 Tryz.underlying33 hi hz0 hz1 .i64 .i64 _ _ 0 rfl rfl rfl rfl ?c2 ?c3 (Nat.le_refl _) ?_)
    case c2 => omega
    case c3 => unfold maxLen; omega
    intro w1 hown hgr
    have hbl : Below w.heap.size w w1 := (Below.refl _ _).grown hgr (Nat.le_refl _) (by simp)
    have HO : Hid (SomeD w 76 3 0 [] 0 w1) := Lib.hid (someD_start hown hbl)
    clear hown hgr
    go_wp2_with fail
    refine wp_loop_rounds 1 ?_
    rw [rounds_succ]
    go_wp2_with fail
    go_ret
    obtain ⟨es, he, hr⟩ := someD_all (by decide) (by simp) HO.out
    exact ⟨_, _, _, es, rfl, he, hr, hbl⟩
  obtain ⟨b, off, rfl, hb, hc⟩ := hc hp
  have HC := Lib.hid hc
  clear hc hb
  go_enter Tryz.func17, Tryz.ntmps17
  go_wp2_with (at_make; refine wpList_make_full _ rfl _ _ 33 rfl w.heap.size 76 i0 _ 3 Tryz.underlying33 hi hz0 hz1 .i64 .i64 _ _ n rfl rfl rfl rfl ?c2 ?c3 (Nat.le_refl _) ?_)
  case c2 => rw [hz2]; omega
  case c3 => unfold maxLen; omega
  intro w1 hown hgr
  have hbl : Below w.heap.size w w1 := (Below.refl _ _).grown hgr (Nat.le_refl _) (by simp)
  have HO : Hid (SomeD w 76 3 n ds 0 w1) := Lib.hid (someD_start hown hbl)
  clear hown hgr hbl
  go_wp2_with fail
  go_loopw [4] (fun j wr => ∃ (i : Nat) (A R : List D), ds = A ++ R ∧ A.length = i * 3 ∧ FitRow 6 (erases R) ∧ j = .int .i64 i ∧ SomeD w 76 3 n ds i wr) (fun j _ => n - (intOf j).toNat)
  case atStart => exact ⟨0, [], ds, rfl, by simp, HF.out, rfl, HO.out⟩
  case round =>
    obtain ⟨i, A, R, hds, hal, hfr, rfl, hs⟩ := hrel
    have HD := Lib.hid hds
    have HAL := Lib.hid hal
    have HS := Lib.hid hs
    clear hds hal hs
    rcases fitRow_cases hfr with rfl | ⟨item, rest, rfl, hfi, hfrest⟩
    · have hin : i = n := by
        have h1 := HN.out
        rw [HD.out, List.append_nil, HAL.out] at h1
        omega
      subst hin
      clear hfr
      go_wp2_with fail
      go_ret
      obtain ⟨es, he, hr⟩ := someD_all (by decide) HN.out HS.out
      exact ⟨_, _, _, es, rfl, he, hr, HS.out.2.1⟩
    have hil : item.length = 3 := by have := fitL_len hfi; rw [erases_len] at this; exact this
    have hlt : i < n := by
      have h1 := HN.out
      rw [HD.out, List.length_append, List.length_append, HAL.out, hil] at h1
      omega
    have HFI := Lib.hid hfi
    have HFR := Lib.hid hfrest
    clear hil hfr hfrest
    obtain ⟨s0, e0, rfl, hfi_0⟩ := fitL_str hfi
    clear hfi
    obtain ⟨n1, e1, rfl, hfi_1⟩ := fitL_int hfi_0
    clear hfi_0
    obtain ⟨t2, v2, d2, e2, rfl, f2, hfi_2⟩ := fitL_row (k := 1) rfl hfi_1
    clear hfi_1
    obtain rfl := fitL_nil hfi_2
    clear hfi_2
    have hbw := HS.out.2.1
    have c0 := cell_keep hbw (row_at0 HC.out HD.out HAL.out (D.str s0) rfl)
    simp only [val] at c0
    have c1 := cell_keep hbw (row_at HC.out HD.out HAL.out 1 (D.int n1) rfl)
    simp only [val] at c1
    have c2 := cell_keep hbw (row_at HC.out HD.out HAL.out 2 (D.row t2 1 v2 d2) rfl)
    simp only [val] at c2
    have hit : Holdss lo wr [D.str s0, D.int n1, D.row t2 1 v2 d2] := ((Holdss.append.1 ((Holdss.append.1 (HD.out ▸ HDS.out)).2)).1).below hbw
    have hwi : weights (erases [D.str s0, D.int n1, D.row t2 1 v2 d2]) ≤ 1048576 := by have h1 := HWN.out; rw [HD.out, erases_append, erases_append, weights_append, weights_append] at h1; omega
    have KI := Lib.hid (to_ClassInfo lo wr [D.str s0, D.int n1, D.row t2 1 v2 d2] hwi HFI.out hit)
    have HD2 : Hid (ds = (A ++ [D.str s0, D.int n1, D.row t2 1 v2 d2]) ++ rest) := Lib.hid (by rw [HD.out, List.append_assoc])
    have HAL2 : Hid ((A ++ [D.str s0, D.int n1, D.row t2 1 v2 d2]).length = (i + 1) * 3) := Lib.hid (by rw [List.length_append, HAL.out, Nat.succ_mul]; rfl)
    clear hit hwi hbw f2
    rw [show agg [D.str s0, D.int n1, D.row t2 1 v2 d2] = Value.agg #[Value.string s0, Value.int .i64 n1, v2] from rfl] at KI
    go_wp2_with fail
    refine KI.out.mono ?_
    rintro e w2 ⟨es, rfl, he, ho, hb2⟩
    have hg : FitL (env 6) (erases es) := he ▸ HFI.out
    have HST := Lib.hid (someD_step HS.out hb2 ho he HD.out HAL.out rfl hlt)
    obtain ⟨ys0, ye0, rfl, hg_0⟩ := fitL_str hg
    clear hg
    obtain ⟨yn1, ye1, rfl, hg_1⟩ := fitL_int hg_0
    clear hg_0
    obtain ⟨yt2, yv2, yd2, ye2, rfl, yf2, hg_2⟩ := fitL_row (k := 1) rfl hg_1
    clear hg_1
    obtain rfl := fitL_nil hg_2
    clear hg_2
    replace he := he.symm
    simp only [erases, erase, List.cons.injEq, P.int.injEq, P.str.injEq, P.row.injEq, true_and,  and_true] at he
    obtain ⟨rfl, rfl, g2⟩ := he
    obtain ⟨ya2, yn2, yc2, rfl⟩ := row_slice (goods_iff.1 ho.good (D.row yt2 1 yv2 yd2) (by simp))
    rw [show agg [D.str s0, D.int n1, D.row yt2 1 (.slice ya2 yn2 yc2) yd2] = Value.agg #[Value.string s0, Value.int .i64 n1, .slice ya2 yn2 yc2] from rfl]
    obtain ⟨u0, d0'⟩ := HS.out.cell hb2 hlt 0 (by decide)
    obtain ⟨u1, d1'⟩ := HS.out.cell hb2 hlt 1 (by decide)
    obtain ⟨u2, d2'⟩ := HS.out.cell hb2 hlt 2 (by decide)
    rw [Nat.add_zero] at d0'
    have fz := HS.out.free hb2
    simp only [vals, List.map, val, puts] at HST
    clear ho hb2 KI HS c0 c1 c2
    go_wp2_with fail
    go_roundw
    case rel => exact ⟨i + 1, A ++ [D.str s0, D.int n1, D.row t2 1 v2 d2], rest, HD2.out, HAL2.out, HFR.out, by go_num, HST.out⟩
    case measure => simp [intOf]; omega
end Go.Proofs.YtekeondbbikkpaaGreat.Data
