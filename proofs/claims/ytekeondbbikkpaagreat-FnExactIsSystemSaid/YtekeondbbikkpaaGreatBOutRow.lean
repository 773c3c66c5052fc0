/-
  Slices in their form: nil, or a plain address. What lies in rows of its own has them; methods, classes and units as plain mathematics.
  append of texts, from any row that reads, to a row of the call's own; spec's block of a method.
  A row of structs of the call's own that grows, while each of its structs lies apart from the row (XDataOut without the parser).
-/
import Derived.Test.YtekeondbbikkpaaGreatBDataTree
import Derived.Laws.AppendOwn
import Derived.Laws.AppendOwnNone
namespace Go.Proofs.YtekeondbbikkpaaGreat.Data
open Go.RowKit
open Strs Tree
def Formed (v : Value) (n : Nat) : Prop := (v = .slice none 0 0 ∧ n = 0) ∨ ∃ b o c, v = .slice (some ⟨b, o, none⟩) n c
mutual
def Strict : D → Prop
  | .int _ => True
  | .str _ => True
  | .bool _ => True
  | .row _ k v ds => (∃ n, ds.length = n * k ∧ Formed v n) ∧ Stricts ds
def Stricts : List D → Prop
  | [] => True
  | d :: ds => Strict d ∧ Stricts ds
end
theorem stricts_iff {ds : List D} : Stricts ds ↔ ∀ d, d ∈ ds → Strict d := by
  induction ds with
  | nil => simp [Stricts]
  | cons t ts ih => rw [Stricts, ih]; simp
theorem Stricts.append {a b : List D} : Stricts (a ++ b) ↔ Stricts a ∧ Stricts b := by
  rw [stricts_iff, stricts_iff, stricts_iff]
  constructor
  · exact fun h => ⟨fun d hd => h d (by simp [hd]), fun d hd => h d (by simp [hd])⟩
  · rintro ⟨h1, h2⟩ d hd
    rcases List.mem_append.1 hd with h | h
    · exact h1 d h
    · exact h2 d h
theorem own_formed {w : World} {base : Nat} {e : TypeId} {size : Nat} {v : Value} {n : Nat} {xs : List Value} (h : w.ownsRow base e size v n xs) : Formed v n := by
  obtain ⟨_, ⟨rfl, hn⟩ | ⟨g, cap, cur, rfl, _⟩⟩ := h
  · exact .inl ⟨rfl, hn⟩
  · exact .inr ⟨g, 0, cap, rfl⟩
theorem Good.strict {w : World} : ∀ d, Good w d → Strict d := by
  refine ind (fun n _ => ?_) (fun s _ => ?_) (fun b _ => ?_) fun t k v ds ih h => ?_
  · rw [Strict]; trivial
  · rw [Strict]; trivial
  · rw [Strict]; trivial
  · rw [Good] at h
    obtain ⟨⟨n, h0, h1, h2⟩, h3⟩ := h
    rw [goods_iff] at h3
    rw [Strict]
    exact ⟨⟨n, h1, own_formed h2⟩, stricts_iff.2 fun d hd => ih d hd (h3 d hd)⟩
theorem Own.strict {base : Nat} {w : World} {ds : List D} (h : Own base w ds) : Stricts ds := stricts_iff.2 fun d hd => Good.strict d (goods_iff.1 h.good d hd)
theorem formed_val {t k : Nat} {v : Value} {ds : List D} {n : Nat} (h : Strict (.row t k v ds)) (hk : 0 < k) (hn : ds.length = n * k) : Formed v n := by
  rw [Strict] at h
  obtain ⟨⟨m, h1, h2⟩, -⟩ := h
  have : m = n := Nat.eq_of_mul_eq_mul_right hk (by rw [← h1, hn])
  subst this
  exact h2
structure M where
  sel : ByteArray
  cls : Bool
  params : List ByteArray
  temps : List ByteArray
  body : List E
structure C where
  name : ByteArray
  parent : ByteArray
  fields : List ByteArray
  methods : List M
structure U where
  classes : List C
  main : M
def strP (xs : List ByteArray) : List P := xs.map P.str
def plainM (m : M) : List P := [.str m.sel, .bool m.cls, .row 1 (strP m.params), .row 1 (strP m.temps), .row 5 (plainEs m.body)]
def plainMs : List M → List P
  | [] => []
  | m :: ms => plainM m ++ plainMs ms
def plainC (c : C) : List P := [.str c.name, .str c.parent, .row 1 (strP c.fields), .row 5 (plainMs c.methods)]
def plainCs : List C → List P
  | [] => []
  | c :: cs => plainC c ++ plainCs cs
def plainU (u : U) : List P := .row 4 (plainCs u.classes) :: plainM u.main
theorem plainMs_len (ms : List M) : (plainMs ms).length = ms.length * 5 := by
  induction ms with
  | nil => rfl
  | cons m ms ih => rw [plainMs, List.length_append, ih, List.length_cons, Nat.succ_mul]; show 5 + _ = _; omega
theorem plainCs_len (cs : List C) : (plainCs cs).length = cs.length * 4 := by
  induction cs with
  | nil => rfl
  | cons m ms ih => rw [plainCs, List.length_append, ih, List.length_cons, Nat.succ_mul]; show 4 + _ = _; omega
theorem rowStr {ds : List D} (h : FitRow 0 (erases ds)) : ∃ xs, ds = strs xs ∧ erases ds = strP xs := by
  obtain ⟨xs, rfl⟩ := strs_get h
  exact ⟨xs, rfl, strs_erases xs⟩
theorem meth_get {ds : List D} (h : FitL (env 3) (erases ds)) : ∃ (m : M) (t2 t3 t4 : Nat) (v2 v3 v4 : Value) (d4 : List D), ds = [.str m.sel, .bool m.cls, .row t2 1 v2 (strs m.params), .row t3 1 v3 (strs m.temps), .row t4 5 v4 d4] ∧ erases d4 = plainEs m.body ∧ erases ds = plainM m := by
  obtain ⟨s0, e0, rfl, h0⟩ := fitL_str h
  obtain ⟨x1, e1, rfl, h1⟩ := fitL_bool h0
  obtain ⟨t2, v2, d2, e2, rfl, f2, h2⟩ := fitL_row (k := 1) rfl h1
  obtain ⟨t3, v3, d3, e3, rfl, f3, h3⟩ := fitL_row (k := 1) rfl h2
  obtain ⟨t4, v4, d4, e4, rfl, f4, h4⟩ := fitL_row (k := 5) rfl h3
  obtain rfl := fitL_nil h4
  obtain ⟨ps, rfl, hp⟩ := rowStr f2
  obtain ⟨ts, rfl, ht⟩ := rowStr f3
  obtain ⟨ks, hk⟩ := trees_get f4
  refine ⟨⟨s0, x1, ps, ts, ks⟩, t2, t3, t4, v2, v3, v4, d4, rfl, hk, ?_⟩
  simp only [erases, erase, plainM, hp, ht, hk]
theorem meths_get : ∀ (n : Nat) (ds : List D), ds.length ≤ n → FitRow 3 (erases ds) → ∃ ms, erases ds = plainMs ms := by
  intro n
  induction n with
  | zero => intro ds hl _; exact ⟨[], by rw [List.eq_nil_of_length_eq_zero (Nat.le_zero.1 hl)]; rfl⟩
  | succ n ih =>
    intro ds hl h
    rcases fitRow_cases h with rfl | ⟨item, rest, rfl, h1, h2⟩
    · exact ⟨[], rfl⟩
    · have hil := fitL_len h1
      have h5 : (env 3).length = 5 := rfl
      rw [erases_len] at hil
      rw [List.length_append] at hl
      obtain ⟨m, _, _, _, _, _, _, _, _, _, hm⟩ := meth_get h1
      obtain ⟨ms, hms⟩ := ih rest (by omega) h2
      exact ⟨m :: ms, by rw [erases_append, hm, hms, plainMs]⟩
theorem class_get {ds : List D} (h : FitL (env 4) (erases ds)) : ∃ (c : C) (t2 t3 : Nat) (v2 v3 : Value) (d3 : List D), ds = [.str c.name, .str c.parent, .row t2 1 v2 (strs c.fields), .row t3 5 v3 d3] ∧ erases d3 = plainMs c.methods ∧ FitRow 3 (erases d3) ∧ erases ds = plainC c := by
  obtain ⟨s0, e0, rfl, h0⟩ := fitL_str h
  obtain ⟨s1, e1, rfl, h1⟩ := fitL_str h0
  obtain ⟨t2, v2, d2, e2, rfl, f2, h2⟩ := fitL_row (k := 1) rfl h1
  obtain ⟨t3, v3, d3, e3, rfl, f3, h3⟩ := fitL_row (k := 5) rfl h2
  obtain rfl := fitL_nil h3
  obtain ⟨fs, rfl, hp⟩ := rowStr f2
  obtain ⟨ms, hk⟩ := meths_get _ d3 (Nat.le_refl _) f3
  refine ⟨⟨s0, s1, fs, ms⟩, t2, t3, v2, v3, d3, rfl, hk, f3, ?_⟩
  simp only [erases, erase, plainC, hp, hk]
theorem classes_get : ∀ (n : Nat) (ds : List D), ds.length ≤ n → FitRow 4 (erases ds) → ∃ cs, erases ds = plainCs cs := by
  intro n
  induction n with
  | zero => intro ds hl _; exact ⟨[], by rw [List.eq_nil_of_length_eq_zero (Nat.le_zero.1 hl)]; rfl⟩
  | succ n ih =>
    intro ds hl h
    rcases fitRow_cases h with rfl | ⟨item, rest, rfl, h1, h2⟩
    · exact ⟨[], rfl⟩
    · have hil := fitL_len h1
      have h5 : (env 4).length = 4 := rfl
      rw [erases_len] at hil
      rw [List.length_append] at hl
      obtain ⟨c, _, _, _, _, _, _, _, _, hm⟩ := class_get h1
      obtain ⟨ms, hms⟩ := ih rest (by omega) h2
      exact ⟨c :: ms, by rw [erases_append, hm, hms, plainCs]⟩
theorem unit_get {ds : List D} (h : FitL (env 5) (erases ds)) : ∃ (u : U) (t0 : Nat) (v0 : Value) (d0 ms : List D), ds = .row t0 4 v0 d0 :: ms ∧ erases d0 = plainCs u.classes ∧ FitRow 4 (erases d0) ∧ FitL (env 3) (erases ms) ∧ erases ms = plainM u.main ∧ erases ds = plainU u := by
  obtain ⟨t0, v0, d0, e0, rfl, f0, h0⟩ := fitL_row (k := 4) rfl h
  obtain ⟨cs, hcs⟩ := classes_get _ d0 (Nat.le_refl _) f0
  obtain ⟨m, _, _, _, _, _, _, _, _, _, hm⟩ := meth_get (ds := e0) h0
  refine ⟨⟨cs, m⟩, t0, v0, d0, e0, rfl, hcs, f0, h0, hm, ?_⟩
  rw [erases, erase, hcs, hm, plainU]
theorem item_at {I : Nat} : ∀ (n : Nat) (ds : List D), ds.length ≤ n → FitRow I (erases ds) → 0 < (env I).length → ∀ i, i * (env I).length < ds.length → ∃ A x B, ds = A ++ (x ++ B) ∧ A.length = i * (env I).length ∧ FitL (env I) (erases x) := by
  intro n
  induction n with
  | zero => intro ds hl _ _ i hi; omega
  | succ n ih =>
    intro ds hl h hp i hi
    rcases fitRow_cases h with rfl | ⟨item, rest, rfl, h1, h2⟩
    · simp at hi
    · have hil := fitL_len h1
      rw [erases_len] at hil
      rw [List.length_append] at hl hi
      cases i with
      | zero => exact ⟨[], item, rest, rfl, by simp, h1⟩
      | succ i =>
        rw [Nat.succ_mul] at hi
        obtain ⟨A, x, B, rfl, h3, h4⟩ := ih rest (by omega) h2 hp i (by omega)
        refine ⟨item ++ A, x, B, by rw [List.append_assoc], ?_, h4⟩
        rw [List.length_append, hil, h3, Nat.succ_mul]
        omega
def bodyE (m : M) : E := .mk 8 ByteArray.empty m.params.length (m.params ++ m.temps) m.body
theorem plainM_weight (m : M) : Data.weights (plainM m) = m.sel.size + Tree.weight (bodyE m) := by
  unfold bodyE
  rw [Tree.weight]
  simp only [plainM, Data.weights, Data.weight, strP]
  rw [List.length_map, List.length_map, strs_weights, strs_weights, plainEs_len, Nat.mul_div_cancel _ (by decide), plainEs_weight, Nat.div_one, Nat.div_one, List.length_append, lens_append]
  have : ByteArray.empty.size = 0 := rfl
  omega
end Go.Proofs.YtekeondbbikkpaaGreat.Data

namespace Go.Proofs.YtekeondbbikkpaaGreat.Data
open Go.RowKit
open Strs Tree
theorem infoTx : (Tryz.prog.info? 9).map (fun i => (i.zero, i.size, i.bytes)) = some (some (.string ByteArray.empty), 1, 16) := by kernel_rfl
theorem add_at (b o k : Nat) : (⟨b, o, none⟩ : Addr).add k = ⟨b, o + k, none⟩ := by unfold Addr.add; split <;> simp_all
theorem wpList_append_texts {w : World} {ops : Array Oper} {rest : List Oper} {o : Oper} {a : Act} {Q : Exit → Act → World → Prop} (hgd : o.guard = none) (s x : Operand)
    (ho : o.op = .call { callee := .builtin .append, args := #[s, x], argTypes := #[64, 64] })
    (base : Nat) (v : Value) (xs : List ByteArray) (hs : a.eval s = v) (hown : w.ownsRow base 9 1 v xs.length (xs.map Value.string))
    (vy : Value) (ys : List ByteArray) (lo : Nat) (hx : a.eval x = vy) (hy : Texts lo w ys vy) (hf : Formed vy ys.length) (hbytes : xs.length + ys.length ≤ 4398046511104) (hbase : base ≤ w.heap.size)
    (h : ∀ v' w', w'.ownsRow base 9 1 v' (xs ++ ys).length ((xs ++ ys).map Value.string) → Below base w w' → wpList Tryz.prog ops Q rest (a.put o.dst v') w') : wpList Tryz.prog ops Q (o :: rest) a w := by
  obtain ⟨i0, hi, hz0, hz1, hz2⟩ := info_parts infoTx
  rcases hf with ⟨rfl, hn⟩ | ⟨b, of, c, rfl⟩
  · have hy0 : ys = [] := List.eq_nil_of_length_eq_zero hn
    subst hy0
    refine wpList_append_own_none hgd s x 64 ho base 9 i0 1 Tryz.underlying64 hi v xs.length _ hs hown hx ?_
    exact h v w (by rw [List.append_nil]; exact hown) (Below.refl _ _)
  · obtain ⟨a', cap, he, hm, hsz, hc⟩ := hy
    cases he
    refine wpList_append_own _ hgd s x 64 ho base 9 i0 (.string ByteArray.empty) 1 16 Tryz.underlying64 hi hz0 hz1 hz2 rfl (by decide) v xs.length _ hs hown ⟨b, of, none⟩ ys.length c (ys.map Value.string) hx (by simp) (fun j u hj => ?_) (fun u hu => ?_) (by unfold maxLen; omega) (by omega) hbase ?_
    · have hl := (List.getElem?_eq_some_iff.1 hj).1
      have hv := (List.getElem?_eq_some_iff.1 hj).2
      rw [List.length_map] at hl
      rw [List.getElem_map] at hv
      obtain ⟨b', o', e, -, hd⟩ := hc (by omega)
      cases e
      rw [add_at, hd j hl, hv]
    · obtain ⟨y, _, rfl⟩ := List.mem_map.1 hu
      rfl
    · intro v' w' hown' hgr _
      exact h v' w' (by rw [List.length_append, List.map_append]; exact hown') ((Below.refl _ _).grown hgr hbase (fun k hk => (hown.lt k hk).1))
theorem own_lit0 (w : World) (T : TypeId) (k : Nat) : (w.alloc (.cells #[] T)).ownsRow w.heap.size T k (.slice (some ⟨w.heap.size, 0, none⟩) 0 0) 0 [] :=
  World.ownsRow_lit (base := w.heap.size) (e := T) (size := k) w #[] 0 (Nat.le_refl _) (Nat.zero_le _) (by simp)
theorem cells_low {B base : Nat} {ds : List D} {wr w' : World} (h : Cells B ds wr) (hb : Below base wr w') (hB : B < base) : Cells B ds w' :=
  ⟨Nat.lt_of_lt_of_le h.1 hb.size, fun j hj => (World.cell?_of_block (a := ⟨B, j, none⟩) (hb.block B hB)).trans (h.2 j hj)⟩
theorem free_low {B base : Nat} {wr w' : World} (h : ∀ o, wr.frozen? ⟨B, o, none⟩ = false) (hb : Below base wr w') (hB : B < base) : ∀ o, w'.frozen? ⟨B, o, none⟩ = false :=
  fun o => (World.frozen?_of_block (a := ⟨B, o, none⟩) (hb.block B hB)).trans (h o)
def zeroE : List D := [.int 0, .str ⟨#[]⟩, .int 0, .row 0 1 (.slice none 0 0) [], .row 0 5 (.slice none 0 0) []]
end Go.Proofs.YtekeondbbikkpaaGreat.Data

namespace Go.Proofs.YtekeondbbikkpaaGreat.Data
open Go.RowKit
open Strs Tree
theorem flatS_len {α : Type} {K : Nat} (l : List (List α)) (h : ∀ x, x ∈ l → x.length = K) : l.flatten.length = l.length * K := by
  induction l with
  | nil => simp
  | cons x xs ih =>
    rw [List.flatten_cons, List.length_append, List.length_cons, ih (fun y hy => h y (by simp [hy])), h x (by simp), Nat.succ_mul]
    omega
def ApartS (lo : Nat) (wr : World) (g : Option Nat) (x : List D) : Prop :=
  ∃ l0 w0, lo ≤ l0 ∧ Holdss l0 w0 x ∧ Kept l0 w0 wr ∧ w0.heap.size ≤ wr.heap.size ∧ ∀ k, g = some k → k < l0 ∨ w0.heap.size ≤ k
structure OutS (base : Nat) (T : TypeId) (K : Nat) (wr : World) (L : List (List D)) (v : Value) : Prop where
  own : wr.ownsRow base T K v L.length (vals L.flatten)
  len : ∀ x, x ∈ L → x.length = K
  apart : ∀ x, x ∈ L → ApartS base wr v.ownBlock x
theorem OutS.form {base K : Nat} {T : TypeId} {wr : World} {L : List (List D)} {v : Value} (h : OutS base T K wr L v) : ∃ a c, v = .slice a L.length c := Kit.row_form h.own
theorem OutS.nil {base K : Nat} {T : TypeId} {wr : World} : OutS base T K wr [] (.slice none 0 0) := ⟨⟨by simp [vals], .inl ⟨rfl, rfl⟩⟩, (fun _ h => nomatch h), (fun _ h => nomatch h)⟩
theorem OutS.below {base K : Nat} {T : TypeId} {wr w' : World} {L : List (List D)} {v : Value} (h : OutS base T K wr L v) (hb : Below wr.heap.size wr w') : OutS base T K w' L v := by
  refine ⟨own_keep h.own hb, h.len, fun x hx => ?_⟩
  obtain ⟨l0, w0, h1, h2, h3, h4, h5⟩ := h.apart x hx
  exact ⟨l0, w0, h1, h2, h3.trans (kept_below hb), Nat.le_trans h4 hb.size, h5⟩
theorem OutS.app {base l1 K : Nat} {T : TypeId} {wr w' : World} {L : List (List D)} {v v' : Value} {x : List D} {o : Obj} (h : OutS base T K wr L v) (hlen : x.length = K) (hx : Holdss l1 wr x) (hl : base ≤ l1) (hg : ∀ k, v.ownBlock = some k → k < l1)
    (hown : w'.ownsRow base T K v' (L.length + 1) (vals L.flatten ++ vals x)) (hgr : (wr.alloc o).grownBy w' v.ownBlock) (hat : v'.ownBlock = v.ownBlock ∨ v'.ownBlock = some (wr.heap.size + 1)) : OutS base T K w' (L ++ [x]) v' := by
  have hs : wr.heap.size ≤ w'.heap.size := by have := hgr.size; simp at this; omega
  have hcell : ∀ b p u, wr.cell? ⟨b, p, none⟩ = some u → some b ≠ v.ownBlock → w'.cell? ⟨b, p, none⟩ = some u := fun b p u hc hne => by
    have hb : Below wr.heap.size wr (wr.alloc o) := (Below.refl _ _).alloc (Nat.le_refl _) _
    exact hgr.cell (cell_keep hb hc) hne
  have hsz : (wr.alloc o).heap.size = wr.heap.size + 1 := by simp
  refine ⟨by rw [List.length_append, List.flatten_append, vals_append]; simpa using hown, fun y hy => ?_, fun y hy => ?_⟩
  · rcases List.mem_append.1 hy with hy | hy
    · exact h.len y hy
    · rw [List.mem_singleton.1 hy]; exact hlen
  rcases List.mem_append.1 hy with hy | hy
  · obtain ⟨l0, w0, h1, h2, h3, h4, h5⟩ := h.apart y hy
    refine ⟨l0, w0, h1, h2, fun b p u hb hc => ?_, Nat.le_trans h4 hs, fun k hk => ?_⟩
    · refine hcell b p u (h3 b p u hb hc) fun e => ?_
      have hlt := cell_lt hc
      rcases h5 b e.symm with h6 | h6
      · omega
      · simp at hlt; omega
    · rcases hat with e | e
      · rw [e] at hk; exact h5 k hk
      · rw [e] at hk
        injection hk with hk
        exact .inr (by omega)
  · rw [List.mem_singleton.1 hy]
    refine ⟨l1, wr, hl, hx, fun b p u hb hc => hcell b p u hc fun e => ?_, hs, fun k hk => ?_⟩
    · have := hg b e.symm; omega
    · rcases hat with e | e
      · rw [e] at hk; exact .inl (hg k hk)
      · rw [e] at hk
        injection hk with hk
        exact .inr (by omega)
theorem OutS.holds {base K : Nat} {T : TypeId} {wr : World} {L : List (List D)} {v : Value} (h : OutS base T K wr L v) (hK : 0 < K) (t : Nat) : Holds base wr (.row t K v L.flatten) := by
  have hl := flatS_len L h.len
  have hd : Holdss base wr L.flatten := by
    rw [holdss_iff]
    intro d hd
    obtain ⟨x, hx, hd⟩ := List.mem_flatten.1 hd
    obtain ⟨l0, w0, h1, h2, h3, -, -⟩ := h.apart x hx
    exact holdss_iff.1 (h2.keep h1 h3) d hd
  have h' := h.own
  rw [Holds]
  refine ⟨?_, hd⟩
  obtain ⟨_, ⟨rfl, hn⟩ | ⟨g, cap, cur, rfl, hbg, hg, hnc, hcm, _, _⟩⟩ := h.own
  · exact ⟨none, 0, 0, rfl, hK, by rw [hl, hn], Nat.le_refl _, Nat.zero_le _, fun h => absurd h (Nat.lt_irrefl _)⟩
  · refine ⟨_, _, cap, rfl, hK, hl, hnc, hcm, fun _ => ⟨g, 0, rfl, hbg, fun j hj => ?_⟩⟩
    rw [Nat.zero_add, h'.cellAt j (by omega)]
    exact vals_get _ _ hj
end Go.Proofs.YtekeondbbikkpaaGreat.Data
