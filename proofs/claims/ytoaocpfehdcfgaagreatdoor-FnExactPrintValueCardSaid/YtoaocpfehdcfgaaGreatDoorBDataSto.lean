/-
  Values, objects and stores as data: what reads as one reads as the other.
-/
import Derived.Test.YtoaocpfehdcfgaaGreatDoorBDataCore
import Derived.Test.YtoaocpfehdcfgaaGreatDoorBImplVal
import Derived.Test.YtoaocpfehdcfgaaGreatDoorBSzStore
namespace Go.Proofs.YtoaocpfehdcfgaaGreatDoor.Data
open Go.RowKit
open Strs Tree Core Sto
def RowOf {α : Type} (k : Nat) (Q : World → Nat → Nat → α → Prop) (lo : Nat) (w : World) (v : Value) (xs : List α) : Prop :=
  ∃ a c, v = .slice a xs.length c ∧ (xs.length ≤ c ∧ c ≤ maxLen) ∧ (0 < xs.length → ∃ b o, a = some ⟨b, o, none⟩ ∧ lo ≤ b ∧ ∀ i x, xs[i]? = some x → Q w b (o + i * k) x)
theorem RowOf.keep {α : Type} {k : Nat} {Q : World → Nat → Nat → α → Prop} {lo : Nat} {w w' : World} {v : Value} {xs : List α} (h : RowOf k Q lo w v xs) (hb : ∀ b o x, x ∈ xs → Q w b o x → Q w' b o x) : RowOf k Q lo w' v xs := by
  obtain ⟨a, c, rfl, hc, h⟩ := h
  refine ⟨a, c, rfl, hc, fun hp => ?_⟩
  obtain ⟨b, o, rfl, hl, h'⟩ := h hp
  exact ⟨b, o, rfl, hl, fun i x hi => hb _ _ _ (List.mem_of_getElem? hi) (h' i x hi)⟩
theorem RowOf.at {α : Type} {k : Nat} {Q : World → Nat → Nat → α → Prop} {lo : Nat} {w : World} {a : Option Addr} {n c : Nat} {xs : List α} (h : RowOf k Q lo w (.slice a n c) xs) {i : Nat} {x : α} (hi : xs[i]? = some x) : ∃ b o, a = some ⟨b, o, none⟩ ∧ lo ≤ b ∧ Q w b (o + i * k) x := by
  obtain ⟨a', c', e, hc, h⟩ := h
  cases e
  have := (List.getElem?_eq_some_iff.1 hi).1
  obtain ⟨b, o, rfl, hl, h'⟩ := h (by omega)
  exact ⟨b, o, rfl, hl, h' i x hi⟩
def VAt (w : World) (b o : Nat) (v : V) : Prop :=
  w.cell? ⟨b, o, none⟩ = some (.int .i64 v.kind) ∧ w.cell? ⟨b, o + 1, none⟩ = some (.int .i64 v.num) ∧ w.cell? ⟨b, o + 2, none⟩ = some (.string v.text) ∧ (Lit.int .i64 v.kind).wf = true ∧ (Lit.int .i64 v.num).wf = true ∧ v.text.size ≤ maxLen
theorem VAt.below {w w' : World} {b o : Nat} {v : V} (h : VAt w b o v) (hb : Below w.heap.size w w') : VAt w' b o v :=
  ⟨cell_keep hb h.1, cell_keep hb h.2.1, cell_keep hb h.2.2.1, h.2.2.2⟩
def VsAt (lo : Nat) (w : World) (v : Value) (xs : List V) : Prop := RowOf 3 VAt lo w v xs
theorem VsAt.below {lo : Nat} {w w' : World} {v : Value} {xs : List V} (h : VsAt lo w v xs) (hb : Below w.heap.size w w') : VsAt lo w' v xs := RowOf.keep h fun _ _ _ _ q => q.below hb
def OAt (lo : Nat) (w : World) (b o : Nat) (x : O) : Prop :=
  ∃ vf vn, w.cell? ⟨b, o, none⟩ = some (.int .i64 x.kind) ∧ w.cell? ⟨b, o + 1, none⟩ = some (.int .i64 x.cls) ∧ w.cell? ⟨b, o + 2, none⟩ = some vf ∧ w.cell? ⟨b, o + 3, none⟩ = some vn ∧
    VsAt lo w vf x.fields ∧ Nums lo w x.nums vn ∧ (Lit.int .i64 x.kind).wf = true ∧ (Lit.int .i64 x.cls).wf = true
theorem OAt.below {lo : Nat} {w w' : World} {b o : Nat} {x : O} (h : OAt lo w b o x) (hb : Below w.heap.size w w') : OAt lo w' b o x := by
  obtain ⟨vf, vn, c0, c1, c2, c3, h1, h2, h3⟩ := h
  exact ⟨vf, vn, cell_keep hb c0, cell_keep hb c1, cell_keep hb c2, cell_keep hb c3, h1.below hb, h2.below hb, h3⟩
def OsAt (lo : Nat) (w : World) (v : Value) (xs : List O) : Prop := RowOf 4 (OAt lo) lo w v xs
theorem OsAt.below {lo : Nat} {w w' : World} {v : Value} {xs : List O} (h : OsAt lo w v xs) (hb : Below w.heap.size w w') : OsAt lo w' v xs := RowOf.keep h fun _ _ _ _ q => q.below hb
def plainV (v : V) : List P := [.int v.kind, .int v.num, .str v.text]
def plainVs : List V → List P
  | [] => []
  | v :: vs => plainV v ++ plainVs vs
def plainO (o : O) : List P := [.int o.kind, .int o.cls, .row 3 (plainVs o.fields), .row 1 (numP o.nums)]
def plainOs : List O → List P
  | [] => []
  | v :: vs => plainO v ++ plainOs vs
def plainSt (s : St) : List P := [.row 3 (plainIs s.classes), .row 4 (plainOs s.objects), .row 1 (strP s.output), .int s.ticks, .int s.budget, .int s.made]
theorem plainVs_len (cs : List V) : (plainVs cs).length = cs.length * 3 := by
  induction cs with
  | nil => rfl
  | cons m ms ih => rw [plainVs, List.length_append, ih, List.length_cons, Nat.succ_mul]; show 3 + _ = _; omega
theorem plainOs_len (cs : List O) : (plainOs cs).length = cs.length * 4 := by
  induction cs with
  | nil => rfl
  | cons m ms ih => rw [plainOs, List.length_append, ih, List.length_cons, Nat.succ_mul]; show 4 + _ = _; omega
theorem plainV_fit (c : V) : FitL (env 10) (plainV c) := FitL.cons _ _ _ _ (Fit.int _) (FitL.cons _ _ _ _ (Fit.int _) (FitL.cons _ _ _ _ (Fit.str _) FitL.nil))
theorem plainVs_fit (cs : List V) : FitRow 10 (plainVs cs) := by
  induction cs with
  | nil => exact FitRow.nil 10
  | cons c cs ih => rw [plainVs]; exact FitRow.cons 10 _ _ _ rfl (plainV_fit c) ih
theorem plainO_fit (o : O) : FitL (env 11) (plainO o) :=
  FitL.cons _ _ _ _ (Fit.int _) (FitL.cons _ _ _ _ (Fit.int _) (FitL.cons _ _ _ _ (Fit.row _ _ _ rfl (plainVs_fit _)) (FitL.cons _ _ _ _ (Fit.row _ _ _ rfl (nums_fit _)) FitL.nil)))
theorem plainOs_fit (cs : List O) : FitRow 11 (plainOs cs) := by
  induction cs with
  | nil => exact FitRow.nil 11
  | cons c cs ih => rw [plainOs]; exact FitRow.cons 11 _ _ _ rfl (plainO_fit c) ih
theorem plainSt_fit (s : St) : FitL (env 12) (plainSt s) :=
  FitL.cons _ _ _ _ (Fit.row _ _ _ rfl (plainIs_fit _)) (FitL.cons _ _ _ _ (Fit.row _ _ _ rfl (plainOs_fit _)) (FitL.cons _ _ _ _ (Fit.row _ _ _ rfl (strs_fit _)) (FitL.cons _ _ _ _ (Fit.int _) (FitL.cons _ _ _ _ (Fit.int _) (FitL.cons _ _ _ _ (Fit.int _) FitL.nil)))))
theorem value_get {ds : List D} (h : FitL (env 10) (erases ds)) : ∃ v : V, ds = [.int v.kind, .int v.num, .str v.text] ∧ erases ds = plainV v := by
  obtain ⟨n0, e0, rfl, h0⟩ := fitL_int h
  obtain ⟨n1, e1, rfl, h1⟩ := fitL_int h0
  obtain ⟨s2, e2, rfl, h2⟩ := fitL_str h1
  obtain rfl := fitL_nil h2
  exact ⟨⟨n0, n1, s2⟩, rfl, rfl⟩
theorem values_get : ∀ (n : Nat) (ds : List D), ds.length ≤ n → FitRow 10 (erases ds) → ∃ cs, erases ds = plainVs cs := by
  intro n
  induction n with
  | zero => intro ds hl _; exact ⟨[], by rw [List.eq_nil_of_length_eq_zero (Nat.le_zero.1 hl)]; rfl⟩
  | succ n ih =>
    intro ds hl h
    rcases fitRow_cases h with rfl | ⟨item, rest, rfl, h1, h2⟩
    · exact ⟨[], rfl⟩
    · have hil := fitL_len h1
      have h5 : (env 10).length = 3 := rfl
      rw [erases_len] at hil
      rw [List.length_append] at hl
      obtain ⟨c, _, hm⟩ := value_get h1
      obtain ⟨ms, hms⟩ := ih rest (by omega) h2
      exact ⟨c :: ms, by rw [erases_append, hm, hms, plainVs]⟩
theorem object_get {ds : List D} (h : FitL (env 11) (erases ds)) : ∃ (o : O) (t2 : Nat) (v2 : Value) (d2 : List D) (t3 : Nat) (v3 : Value), ds = [.int o.kind, .int o.cls, .row t2 3 v2 d2, .row t3 1 v3 (nums o.nums)] ∧ erases d2 = plainVs o.fields ∧ erases ds = plainO o := by
  obtain ⟨n0, e0, rfl, h0⟩ := fitL_int h
  obtain ⟨n1, e1, rfl, h1⟩ := fitL_int h0
  obtain ⟨t2, v2, d2, e2, rfl, f2, h2⟩ := fitL_row (k := 3) rfl h1
  obtain ⟨t3, v3, d3, e3, rfl, f3, h3⟩ := fitL_row (k := 1) rfl h2
  obtain rfl := fitL_nil h3
  obtain ⟨vs, hvs⟩ := values_get _ d2 (Nat.le_refl _) f2
  obtain ⟨xs, rfl⟩ := nums_get f3
  exact ⟨⟨n0, n1, vs, xs⟩, t2, v2, d2, t3, v3, rfl, hvs, by simp only [erases, erase, plainO, hvs, nums_erases]⟩
theorem objects_get : ∀ (n : Nat) (ds : List D), ds.length ≤ n → FitRow 11 (erases ds) → ∃ cs, erases ds = plainOs cs := by
  intro n
  induction n with
  | zero => intro ds hl _; exact ⟨[], by rw [List.eq_nil_of_length_eq_zero (Nat.le_zero.1 hl)]; rfl⟩
  | succ n ih =>
    intro ds hl h
    rcases fitRow_cases h with rfl | ⟨item, rest, rfl, h1, h2⟩
    · exact ⟨[], rfl⟩
    · have hil := fitL_len h1
      have h5 : (env 11).length = 4 := rfl
      rw [erases_len] at hil
      rw [List.length_append] at hl
      obtain ⟨c, _, _, _, _, _, _, _, hm⟩ := object_get h1
      obtain ⟨ms, hms⟩ := ih rest (by omega) h2
      exact ⟨c :: ms, by rw [erases_append, hm, hms, plainOs]⟩
theorem store_get {ds : List D} (h : FitL (env 12) (erases ds)) : ∃ s, erases ds = plainSt s := by
  obtain ⟨t0, v0, d0, e0, rfl, f0, h0⟩ := fitL_row (k := 3) rfl h
  obtain ⟨t1, v1, d1, e1, rfl, f1, h1⟩ := fitL_row (k := 4) rfl h0
  obtain ⟨t2, v2, d2, e2, rfl, f2, h2⟩ := fitL_row (k := 1) rfl h1
  obtain ⟨n3, e3, rfl, h3⟩ := fitL_int h2
  obtain ⟨n4, e4, rfl, h4⟩ := fitL_int h3
  obtain ⟨n5, e5, rfl, h5⟩ := fitL_int h4
  obtain rfl := fitL_nil h5
  obtain ⟨cs, hcs⟩ := infos_get _ d0 (Nat.le_refl _) f0
  obtain ⟨os, hos⟩ := objects_get _ d1 (Nat.le_refl _) f1
  obtain ⟨xs, rfl, hp⟩ := rowStr f2
  exact ⟨⟨cs, os, xs, n3, n4, n5⟩, by simp only [erases, erase, hcs, hos, hp, plainSt]⟩
theorem values_at : ∀ (cs : List V) (ds : List D), erases ds = plainVs cs → ∀ i (h : i < cs.length), ∃ A x B, ds = A ++ (x ++ B) ∧ A.length = i * 3 ∧ erases x = plainV cs[i] := by
  intro cs
  induction cs with
  | nil => intro ds _ i h; simp at h
  | cons m ms ih =>
    intro ds h i hi
    rw [plainVs] at h
    obtain ⟨x, y, rfl, h1, h2⟩ := erases_split h
    cases i with
    | zero => exact ⟨[], x, y, rfl, by simp, h1⟩
    | succ i =>
      obtain ⟨A, x', B, rfl, h3, h4⟩ := ih y h2 i (by simpa using hi)
      refine ⟨x ++ A, x', B, by rw [List.append_assoc], ?_, h4⟩
      have : x.length = 3 := by
        have := congrArg List.length h1
        rw [erases_len] at this
        exact this
      rw [List.length_append, this, h3, Nat.succ_mul]
      omega
theorem objects_at : ∀ (cs : List O) (ds : List D), erases ds = plainOs cs → ∀ i (h : i < cs.length), ∃ A x B, ds = A ++ (x ++ B) ∧ A.length = i * 4 ∧ erases x = plainO cs[i] := by
  intro cs
  induction cs with
  | nil => intro ds _ i h; simp at h
  | cons m ms ih =>
    intro ds h i hi
    rw [plainOs] at h
    obtain ⟨x, y, rfl, h1, h2⟩ := erases_split h
    cases i with
    | zero => exact ⟨[], x, y, rfl, by simp, h1⟩
    | succ i =>
      obtain ⟨A, x', B, rfl, h3, h4⟩ := ih y h2 i (by simpa using hi)
      refine ⟨x ++ A, x', B, by rw [List.append_assoc], ?_, h4⟩
      have : x.length = 4 := by
        have := congrArg List.length h1
        rw [erases_len] at this
        exact this
      rw [List.length_append, this, h3, Nat.succ_mul]
      omega
theorem value_form {ds : List D} {v : V} (h : erases ds = plainV v) : ds = [.int v.kind, .int v.num, .str v.text] := by
  obtain ⟨v', rfl, h5⟩ := value_get (ds := ds) (h ▸ plainV_fit v)
  have e := h5.symm.trans h
  obtain ⟨a1, a2, a3⟩ := v'
  obtain ⟨b1, b2, b3⟩ := v
  simp only [plainV, List.cons.injEq, P.str.injEq, P.int.injEq, and_true] at e
  obtain ⟨rfl, rfl, rfl⟩ := e
  rfl
theorem object_form {ds : List D} {o : O} (h : erases ds = plainO o) : ∃ (t2 : Nat) (v2 : Value) (d2 : List D) (t3 : Nat) (v3 : Value), ds = [.int o.kind, .int o.cls, .row t2 3 v2 d2, .row t3 1 v3 (nums o.nums)] ∧ erases d2 = plainVs o.fields := by
  obtain ⟨o', t2, v2, d2, t3, v3, rfl, -, h5⟩ := object_get (ds := ds) (h ▸ plainO_fit o)
  have h6 := h
  simp only [erases, erase, plainO, List.cons.injEq, P.int.injEq, P.row.injEq, true_and, and_true, nums_erases] at h6
  obtain ⟨a1, a2, a3, a4⟩ := o'
  obtain ⟨b1, b2, b3, b4⟩ := o
  simp only at h6
  obtain ⟨rfl, rfl, h3, h4⟩ := h6
  obtain rfl := num_inj _ _ h4
  exact ⟨t2, v2, d2, t3, v3, rfl, h3⟩
theorem value_open {lo b o : Nat} {w : World} {x : List D} {v : V} (hc : ∀ j d, x[j]? = some d → w.cell? ⟨b, o + j, none⟩ = some (val d)) (hh : Holdss lo w x) (he : erases x = plainV v) : VAt w b o v := by
  obtain rfl := value_form he
  simp only [Holdss, and_true] at hh
  exact ⟨hc 0 _ rfl, hc 1 _ rfl, hc 2 _ rfl, by simpa only [Holds] using hh.1, by simpa only [Holds] using hh.2.1, by simpa only [Holds] using hh.2.2⟩
theorem values_open {lo t : Nat} {w : World} {v : Value} {ds : List D} {cs : List V} (hh : Holds lo w (.row t 3 v ds)) (he : erases ds = plainVs cs) : VsAt lo w v cs := by
  rw [Holds] at hh
  obtain ⟨⟨a, n, c, rfl, -, hl, hn, hc, hcell⟩, hd⟩ := hh
  have hlen := congrArg List.length he
  rw [erases_len, plainVs_len] at hlen
  obtain rfl : n = cs.length := by omega
  refine ⟨a, c, rfl, ⟨hn, hc⟩, fun hp => ?_⟩
  obtain ⟨b, o, rfl, hb, hcell⟩ := hcell hp
  refine ⟨b, o, rfl, hb, fun i m hi => ?_⟩
  obtain ⟨hj, rfl⟩ := List.getElem?_eq_some_iff.1 hi
  obtain ⟨A, x, B, e, hal, hx⟩ := values_at cs ds he i hj
  have hxh : Holdss lo w x := (Holdss.append.1 (Holdss.append.1 (e ▸ hd)).2).1
  refine value_open (lo := lo) (fun j d hj => ?_) hxh hx
  have hj' : (x ++ B)[j]? = some d := by
    rw [List.getElem?_append_left (List.getElem?_eq_some_iff.1 hj).1]; exact hj
  exact row_at hcell e hal j d hj'
theorem objects_open {lo t : Nat} {w : World} {v : Value} {ds : List D} {cs : List O} (hh : Holds lo w (.row t 4 v ds)) (he : erases ds = plainOs cs) : OsAt lo w v cs := by
  rw [Holds] at hh
  obtain ⟨⟨a, n, c, rfl, -, hl, hn, hc, hcell⟩, hd⟩ := hh
  have hlen := congrArg List.length he
  rw [erases_len, plainOs_len] at hlen
  obtain rfl : n = cs.length := by omega
  refine ⟨a, c, rfl, ⟨hn, hc⟩, fun hp => ?_⟩
  obtain ⟨b, o, rfl, hb, hcell⟩ := hcell hp
  refine ⟨b, o, rfl, hb, fun i m hi => ?_⟩
  obtain ⟨hj, rfl⟩ := List.getElem?_eq_some_iff.1 hi
  obtain ⟨A, x, B, e, hal, hx⟩ := objects_at cs ds he i hj
  have hxh : Holdss lo w x := (Holdss.append.1 (Holdss.append.1 (e ▸ hd)).2).1
  obtain ⟨t2, v2, d2, t3, v3, rfl, h2⟩ := object_form hx
  simp only [Holdss, and_true] at hxh
  obtain ⟨g0, g1, g2, g3⟩ := hxh
  refine ⟨v2, v3, ?_, ?_, ?_, ?_, values_open g2 h2, nums_at g3, by simpa only [Holds] using g0, by simpa only [Holds] using g1⟩
  · exact row_at0 hcell e hal (.int cs[i].kind) rfl
  · exact row_at hcell e hal 1 (.int cs[i].cls) rfl
  · exact row_at hcell e hal 2 (.row t2 3 v2 d2) rfl
  · exact row_at hcell e hal 3 (.row t3 1 v3 (nums cs[i].nums)) rfl
theorem store_open {lo : Nat} {w : World} {ds : List D} {s : St} (he : erases ds = plainSt s) (hh : Holdss lo w ds) (hs : Stricts ds) :
    ∃ v0 v1 v2, agg ds = .agg #[v0, v1, v2, .int .i64 s.ticks, .int .i64 s.budget, .int .i64 s.made] ∧
      IsAt lo w v0 s.classes ∧ OsAt lo w v1 s.objects ∧ Texts lo w s.output v2 ∧ (Lit.int .i64 s.ticks).wf = true ∧ (Lit.int .i64 s.budget).wf = true ∧ (Lit.int .i64 s.made).wf = true := by
  have hf : FitL (env 12) (erases ds) := he ▸ plainSt_fit s
  obtain ⟨t0, v0, d0, e0, rfl, f0, h0⟩ := fitL_row (k := 3) rfl hf
  obtain ⟨t1, v1, d1, e1, rfl, f1, h1⟩ := fitL_row (k := 4) rfl h0
  obtain ⟨t2, v2, d2, e2, rfl, f2, h2⟩ := fitL_row (k := 1) rfl h1
  obtain ⟨n3, e3, rfl, h3⟩ := fitL_int h2
  obtain ⟨n4, e4, rfl, h4⟩ := fitL_int h3
  obtain ⟨n5, e5, rfl, h5⟩ := fitL_int h4
  obtain rfl := fitL_nil h5
  obtain ⟨xs, rfl, hp⟩ := rowStr f2
  simp only [erases, erase, plainSt, List.cons.injEq, P.row.injEq, P.int.injEq, true_and, and_true, hp] at he
  obtain ⟨hc, hr, hx, rfl, rfl, rfl⟩ := he
  obtain rfl := str_inj _ _ hx
  simp only [Holdss, and_true] at hh
  obtain ⟨g0, g1, g2, g3, g4, g5⟩ := hh
  simp only [Stricts, and_true] at hs
  obtain ⟨s0, s1, -⟩ := hs
  rw [Strict] at s0
  exact ⟨v0, v1, v2, rfl, infos_open g0 s0.2 hc, objects_open g1 hr, strs_texts g2, by simpa only [Holds] using g3, by simpa only [Holds] using g4, by simpa only [Holds] using g5⟩
theorem value_agg {lo : Nat} {w : World} {ds : List D} {v : V} (he : erases ds = plainV v) (hh : Holdss lo w ds) :
    agg ds = .agg #[.int .i64 v.kind, .int .i64 v.num, .string v.text] ∧ (Lit.int .i64 v.kind).wf = true ∧ (Lit.int .i64 v.num).wf = true ∧ v.text.size ≤ maxLen := by
  obtain rfl := value_form he
  simp only [Holdss, and_true] at hh
  exact ⟨rfl, by simpa only [Holds] using hh.1, by simpa only [Holds] using hh.2.1, by simpa only [Holds] using hh.2.2⟩
theorem plainV_weight (v : V) : Data.weights (plainV v) = v.text.size := by
  simp only [plainV, Data.weights, Data.weight]; omega
theorem plainVs_mem : ∀ (cs : List V) (c : V), c ∈ cs → c.text.size ≤ Data.weights (plainVs cs) := by
  intro cs
  induction cs with
  | nil => intro c h; cases h
  | cons m ms ih =>
    intro c h
    rw [plainVs, Data.weights_append, plainV_weight]
    rcases List.mem_cons.1 h with rfl | h
    · omega
    · have := ih c h; omega
theorem plainO_weight (o : O) : Data.weights (plainO o) = (o.fields.length + Data.weights (plainVs o.fields)) + o.nums.length := by
  simp only [plainO, Data.weights, Data.weight]
  rw [plainVs_len, Nat.mul_div_cancel _ (by decide), nums_weights]
  simp [numP]
theorem plainOs_mem : ∀ (cs : List O) (c : O), c ∈ cs → Data.weights (plainO c) ≤ Data.weights (plainOs cs) := by
  intro cs
  induction cs with
  | nil => intro c h; cases h
  | cons m ms ih =>
    intro c h
    rw [plainOs, Data.weights_append]
    rcases List.mem_cons.1 h with rfl | h
    · omega
    · have := ih c h; omega
structure SmallSt (s : St) : Prop where
  cl : s.classes.length ≤ 1048576
  ol : s.objects.length ≤ 1048576
  ul : s.output.length ≤ 1048576
  c : ∀ c, c ∈ s.classes → c.name.size ≤ 1048576 ∧ c.fields.length + lens c.fields ≤ 1048576
  o : ∀ o, o ∈ s.objects → o.fields.length ≤ 1048576 ∧ o.nums.length ≤ 1048576 ∧ ∀ v, v ∈ o.fields → v.text.size ≤ 1048576
  u : ∀ x, x ∈ s.output → x.size ≤ 1048576
theorem smallSt_of {s : St} (h : Data.weights (plainSt s) ≤ 1048576) : SmallSt s := by
  simp only [plainSt, Data.weights, Data.weight] at h
  rw [plainIs_len, plainOs_len, Nat.mul_div_cancel _ (by decide), Nat.mul_div_cancel _ (by decide), Nat.div_one] at h
  have hsl : (strP s.output).length = s.output.length := by simp [strP]
  have hsw : Data.weights (strP s.output) = lens s.output := strs_weights _
  rw [hsl, hsw] at h
  refine ⟨by omega, by omega, by omega, fun c hc => ?_, fun o ho => ?_, fun x hx => ?_⟩
  · have := plainIs_mem _ c hc
    rw [plainI_weight] at this
    omega
  · have h1 := plainOs_mem _ o ho
    rw [plainO_weight] at h1
    refine ⟨by omega, by omega, fun v hv => ?_⟩
    have := plainVs_mem _ v hv
    omega
  · have : ∀ (xs : List ByteArray), x ∈ xs → x.size ≤ lens xs := by
      intro xs
      induction xs with
      | nil => intro h; cases h
      | cons y ys ih =>
        intro h
        rw [lens]
        rcases List.mem_cons.1 h with rfl | h
        · omega
        · have := ih h; omega
    have := this _ hx
    omega
end Go.Proofs.YtoaocpfehdcfgaaGreatDoor.Data
