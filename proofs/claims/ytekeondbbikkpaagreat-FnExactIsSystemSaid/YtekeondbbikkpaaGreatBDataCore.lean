/-
  Nodes of the core, routines, classes and systems as data: what reads as one reads as the other.
-/
import Derived.Test.YtekeondbbikkpaaGreatBCoreMath
import Derived.Test.YtekeondbbikkpaaGreatBOutRow
namespace Go.Proofs.YtekeondbbikkpaaGreat.Data
open Go.RowKit
open Strs Tree Core
mutual
def plainK : K → List P
  | .mk k t n d ks => [.int k, .str t, .int n, .int d, .row 5 (plainKs ks)]
def plainKs : List K → List P
  | [] => []
  | e :: es => plainK e ++ plainKs es
end
theorem plainK_eq (e : K) : plainK e = [.int e.kind, .str e.text, .int e.num, .int e.dep, .row 5 (plainKs e.kids)] := by
  cases e with
  | mk k t n d ks => rw [plainK]; rfl
theorem plainK_len (e : K) : (plainK e).length = 5 := by rw [plainK_eq]; rfl
theorem plainKs_len (es : List K) : (plainKs es).length = es.length * 5 := by
  induction es with
  | nil => rfl
  | cons e es ih => rw [plainKs, List.length_append, plainK_len, ih, List.length_cons, Nat.succ_mul, Nat.add_comm]
theorem plainKs_append (a b : List K) : plainKs (a ++ b) = plainKs a ++ plainKs b := by
  induction a with
  | nil => rfl
  | cons e es ih => rw [List.cons_append, plainKs, plainKs, ih, List.append_assoc]
theorem plainK_weight : ∀ e, Data.weights (plainK e) = kweight e := by
  refine indK fun k t n d ks ih => ?_
  have h : ∀ l : List K, (∀ e, e ∈ l → Data.weights (plainK e) = kweight e) → Data.weights (plainKs l) = kweights l := by
    intro l
    induction l with
    | nil => intro _; rfl
    | cons e es ihl =>
      intro hl
      rw [plainKs, Data.weights_append, hl e (by simp), ihl fun x hx => hl x (by simp [hx]), kweights]
  rw [plainK, kweight]
  simp only [Data.weights, Data.weight]
  rw [h ks ih, plainKs_len, Nat.mul_div_cancel _ (by decide)]
  omega
theorem plainKs_weight (es : List K) : Data.weights (plainKs es) = kweights es := by
  induction es with
  | nil => rfl
  | cons e es ih => rw [plainKs, Data.weights_append, plainK_weight, ih, kweights]
theorem ksize_weight : ∀ e, ksize e ≤ kweight e + 1 := by
  refine indK fun k t n d ks ih => ?_
  rw [ksize, kweight]
  have : ∀ l : List K, (∀ e, e ∈ l → ksize e ≤ kweight e + 1) → ksizes l ≤ l.length + kweights l := by
    intro l
    induction l with
    | nil => intro _; simp [ksizes]
    | cons e es ihl =>
      intro h
      have h1 := h e (by simp)
      have h2 := ihl fun e he => h e (by simp [he])
      rw [ksizes, kweights, List.length_cons]; omega
  have := this ks ih
  omega
theorem knodes_of : ∀ (n : Nat) (ps : List P), masses ps ≤ n → (FitRow 7 ps → ∃ es, ps = plainKs es) ∧ (FitL (env 7) ps → ∃ e, ps = plainK e) := by
  intro n
  induction n with
  | zero =>
    intro ps hm
    cases ps with
    | nil => exact ⟨fun _ => ⟨[], rfl⟩, fun h => by cases h⟩
    | cons p ps =>
      rw [masses] at hm
      have : 0 < mass p := by cases p <;> rw [mass] <;> omega
      omega
  | succ n ih =>
    have one : ∀ ps, masses ps ≤ n + 1 → FitL (env 7) ps → ∃ e, ps = plainK e := by
      intro ps hm h
      cases h with
      | cons _ _ p0 _ g0 h =>
      cases h with
      | cons _ _ p1 _ g1 h =>
      cases h with
      | cons _ _ p2 _ g2 h =>
      cases h with
      | cons _ _ p3 _ g3 h =>
      cases h with
      | cons _ _ p4 _ g4 h =>
      cases h
      cases g0 with
      | int k =>
      cases g1 with
      | str t =>
      cases g2 with
      | int m =>
      cases g3 with
      | int d =>
      cases g4 with
      | row _ _ q4 hk4 f4 =>
      subst hk4
      obtain ⟨es, rfl⟩ := (ih q4 (by simp only [masses, mass] at hm; omega)).1 f4
      exact ⟨.mk k t m d es, by rw [plainK]; rfl⟩
    have many : ∀ (j : Nat) (ps : List P), ps.length ≤ j → masses ps ≤ n + 1 → FitRow 7 ps → ∃ es, ps = plainKs es := by
      intro j
      induction j with
      | zero => intro ps hl _ _; exact ⟨[], List.eq_nil_of_length_eq_zero (Nat.le_zero.1 hl)⟩
      | succ j ihj =>
        intro ps hl hm h
        rcases fitRow_cases' h with rfl | ⟨item, rest, rfl, h1, h2⟩
        · exact ⟨[], rfl⟩
        · have hil := fitL_len h1
          rw [masses_append] at hm
          rw [List.length_append] at hl
          have h5 : (env 7).length = 5 := rfl
          obtain ⟨e, rfl⟩ := one item (by omega) h1
          obtain ⟨es, rfl⟩ := ihj rest (by omega) (by omega) h2
          exact ⟨e :: es, by rw [plainKs]⟩
    exact fun ps hm => ⟨many _ ps (Nat.le_refl _) hm, one ps hm⟩
theorem knodes_get {ds : List D} (h : FitRow 7 (erases ds)) : ∃ es, erases ds = plainKs es := (knodes_of _ _ (Nat.le_refl _)).1 h
theorem knode_get {ds : List D} (h : FitL (env 7) (erases ds)) : ∃ e, erases ds = plainK e := (knodes_of _ _ (Nat.le_refl _)).2 h
theorem plainK_fit : ∀ e, FitL (env 7) (plainK e) := by
  refine indK fun k t n d ks ih => ?_
  rw [plainK]
  refine FitL.cons _ _ _ _ (Fit.int _) (FitL.cons _ _ _ _ (Fit.str _) (FitL.cons _ _ _ _ (Fit.int _) (FitL.cons _ _ _ _ (Fit.int _) (FitL.cons _ _ _ _ (Fit.row _ _ _ rfl ?_) FitL.nil))))
  have h : ∀ l : List K, (∀ e, e ∈ l → FitL (env 7) (plainK e)) → FitRow 7 (plainKs l) := by
    intro l
    induction l with
    | nil => intro _; exact FitRow.nil 7
    | cons e es ihl =>
      intro hl
      rw [plainKs]
      exact FitRow.cons 7 _ _ _ rfl (hl e (by simp)) (ihl fun x hx => hl x (by simp [hx]))
  exact h ks ih
theorem plainKs_fit (es : List K) : FitRow 7 (plainKs es) := by
  induction es with
  | nil => exact FitRow.nil 7
  | cons e es ih => rw [plainKs]; exact FitRow.cons 7 _ _ _ rfl (plainK_fit e) ih
theorem kerases5 {ds : List D} {e : K} (h : erases ds = plainK e) : ∃ t4 v4 d4, ds = [.int e.kind, .str e.text, .int e.num, .int e.dep, .row t4 5 v4 d4] ∧ erases d4 = plainKs e.kids := by
  have hf : FitL (env 7) (erases ds) := h ▸ plainK_fit e
  obtain ⟨n0, e0, rfl, hf0⟩ := fitL_int hf
  obtain ⟨s1, e1, rfl, hf1⟩ := fitL_str hf0
  obtain ⟨n2, e2, rfl, hf2⟩ := fitL_int hf1
  obtain ⟨n3, e3, rfl, hf3⟩ := fitL_int hf2
  obtain ⟨t4, v4, d4, e4, rfl, f4, hf4⟩ := fitL_row (k := 5) rfl hf3
  obtain rfl := fitL_nil hf4
  rw [plainK_eq] at h
  simp only [erases, erase, List.cons.injEq, P.int.injEq, P.str.injEq, P.row.injEq, true_and, and_true] at h
  obtain ⟨rfl, rfl, rfl, rfl, h4⟩ := h
  exact ⟨t4, v4, d4, rfl, h4⟩
theorem kkids_at : ∀ (es : List K) (ds : List D), erases ds = plainKs es → ∀ i (h : i < es.length), ∃ A x B, ds = A ++ (x ++ B) ∧ A.length = i * 5 ∧ erases x = plainK es[i] := by
  intro es
  induction es with
  | nil => intro ds _ i h; simp at h
  | cons e es ih =>
    intro ds h i hi
    rw [plainKs] at h
    obtain ⟨x, y, rfl, h1, h2⟩ := erases_split h
    cases i with
    | zero => exact ⟨[], x, y, rfl, by simp, h1⟩
    | succ i =>
      obtain ⟨A, x', B, rfl, h3, h4⟩ := ih y h2 i (by simpa using hi)
      refine ⟨x ++ A, x', B, by rw [List.append_assoc], ?_, h4⟩
      have : x.length = 5 := by
        have := congrArg List.length h1
        rw [erases_len, plainK_len] at this
        exact this
      rw [List.length_append, this, h3, Nat.succ_mul]
      omega
theorem knode_of {lo : Nat} {w : World} : ∀ e (ds : List D) (t4 : Nat) (v4 : Value) (d4 : List D), ds = [.int e.kind, .str e.text, .int e.num, .int e.dep, .row t4 5 v4 d4] → erases ds = plainK e → Holdss lo w ds → KAt lo w e v4 := by
  refine indK fun k t n d ks ih => ?_
  intro ds t4 v4 d4 hds he hh
  subst hds
  rw [plainK] at he
  simp only [K.kind, K.text, K.num, K.dep, erases, erase, List.cons.injEq, P.row.injEq, true_and, and_true] at he hh
  simp only [Holdss, and_true] at hh
  obtain ⟨g0, g1, g2, g3, g4⟩ := hh
  replace g0 : (Lit.int .i64 k).wf = true := by simpa only [Holds] using g0
  replace g1 : t.size ≤ maxLen := by simpa only [Holds] using g1
  replace g2 : (Lit.int .i64 n).wf = true := by simpa only [Holds] using g2
  replace g3 : (Lit.int .i64 d).wf = true := by simpa only [Holds] using g3
  rw [kat_iff]
  refine ⟨g0, g2, g3, g1, ?_⟩
  show KsAt lo w ks v4
  rw [Holds] at g4
  obtain ⟨⟨a, m, cap, rfl, -, hl, hc1, hc2, hc⟩, hk⟩ := g4
  have hlen := congrArg List.length he
  rw [erases_len, plainKs_len] at hlen
  have hm : m = ks.length := by omega
  subst hm
  refine ⟨a, cap, rfl, ⟨hc1, hc2⟩, fun hp => ?_⟩
  obtain ⟨b, o, rfl, hb, hcell⟩ := hc hp
  refine ⟨b, o, rfl, hb, ?_⟩
  rw [krow_iff]
  intro i hi
  obtain ⟨A, x, B, hd, hal, hx⟩ := kkids_at ks d4 he i hi
  obtain ⟨u4, w4, f4, hx5, -⟩ := kerases5 hx
  have hxh : Holdss lo w x := (Holdss.append.1 (Holdss.append.1 (hd ▸ hk)).2).1
  refine ⟨w4, ?_, ?_, ?_, ?_, ?_, ih _ (List.getElem_mem _) x u4 w4 f4 hx5 hx hxh⟩
  · exact row_at0 hcell hd hal (.int ks[i].kind) (by rw [hx5]; rfl)
  · exact row_at hcell hd hal 1 (.str ks[i].text) (by rw [hx5]; rfl)
  · exact row_at hcell hd hal 2 (.int ks[i].num) (by rw [hx5]; rfl)
  · exact row_at hcell hd hal 3 (.int ks[i].dep) (by rw [hx5]; rfl)
  · exact row_at hcell hd hal 4 (.row u4 5 w4 f4) (by rw [hx5]; rfl)
def plainI (c : I) : List P := [.str c.name, .int c.parent, .row 1 (strP c.fields)]
def plainIs : List I → List P
  | [] => []
  | c :: cs => plainI c ++ plainIs cs
def plainR (r : R) : List P := .str r.sel :: .int r.owner :: .bool r.cls :: .int r.params :: .int r.slots :: plainK r.body
def plainRs : List R → List P
  | [] => []
  | r :: rs => plainR r ++ plainRs rs
def plainS (s : S) : List P := .row 3 (plainIs s.classes) :: .row 10 (plainRs s.routines) :: plainR s.main
theorem plainI_len (c : I) : (plainI c).length = 3 := rfl
theorem plainR_len (r : R) : (plainR r).length = 10 := by unfold plainR; rw [List.length_cons, List.length_cons, List.length_cons, List.length_cons, List.length_cons, plainK_len]
theorem plainIs_len (cs : List I) : (plainIs cs).length = cs.length * 3 := by
  induction cs with
  | nil => rfl
  | cons m ms ih => rw [plainIs, List.length_append, ih, List.length_cons, Nat.succ_mul, plainI_len]; omega
theorem plainRs_len (cs : List R) : (plainRs cs).length = cs.length * 10 := by
  induction cs with
  | nil => rfl
  | cons m ms ih => rw [plainRs, List.length_append, ih, List.length_cons, Nat.succ_mul, plainR_len]; omega
theorem plainI_fit (c : I) : FitL (env 6) (plainI c) :=
  FitL.cons _ _ _ _ (Fit.str _) (FitL.cons _ _ _ _ (Fit.int _) (FitL.cons _ _ _ _ (Fit.row _ _ _ rfl (strs_fit _)) FitL.nil))
theorem plainR_fit (r : R) : FitL (env 8) (plainR r) :=
  FitL.cons _ _ _ _ (Fit.str _) (FitL.cons _ _ _ _ (Fit.int _) (FitL.cons _ _ _ _ (Fit.bool _) (FitL.cons _ _ _ _ (Fit.int _) (FitL.cons _ _ _ _ (Fit.int _) (plainK_fit r.body)))))
theorem plainIs_fit (cs : List I) : FitRow 6 (plainIs cs) := by
  induction cs with
  | nil => exact FitRow.nil 6
  | cons c cs ih => rw [plainIs]; exact FitRow.cons 6 _ _ _ rfl (plainI_fit c) ih
theorem plainRs_fit (cs : List R) : FitRow 8 (plainRs cs) := by
  induction cs with
  | nil => exact FitRow.nil 8
  | cons c cs ih => rw [plainRs]; exact FitRow.cons 8 _ _ _ rfl (plainR_fit c) ih
theorem plainS_fit (s : S) : FitL (env 9) (plainS s) :=
  FitL.cons _ _ _ _ (Fit.row _ _ _ rfl (plainIs_fit _)) (FitL.cons _ _ _ _ (Fit.row _ _ _ rfl (plainRs_fit _)) (plainR_fit s.main))
theorem info_get {ds : List D} (h : FitL (env 6) (erases ds)) : ∃ (c : I) (t2 : Nat) (v2 : Value), ds = [.str c.name, .int c.parent, .row t2 1 v2 (strs c.fields)] ∧ erases ds = plainI c := by
  obtain ⟨s0, e0, rfl, h0⟩ := fitL_str h
  obtain ⟨n1, e1, rfl, h1⟩ := fitL_int h0
  obtain ⟨t2, v2, d2, e2, rfl, f2, h2⟩ := fitL_row (k := 1) rfl h1
  obtain rfl := fitL_nil h2
  obtain ⟨fs, rfl, hp⟩ := rowStr f2
  exact ⟨⟨s0, n1, fs⟩, t2, v2, rfl, by simp only [erases, erase, plainI, hp]⟩
theorem infos_get : ∀ (n : Nat) (ds : List D), ds.length ≤ n → FitRow 6 (erases ds) → ∃ cs, erases ds = plainIs cs := by
  intro n
  induction n with
  | zero => intro ds hl _; exact ⟨[], by rw [List.eq_nil_of_length_eq_zero (Nat.le_zero.1 hl)]; rfl⟩
  | succ n ih =>
    intro ds hl h
    rcases fitRow_cases h with rfl | ⟨item, rest, rfl, h1, h2⟩
    · exact ⟨[], rfl⟩
    · have hil := fitL_len h1
      have h5 : (env 6).length = 3 := rfl
      rw [erases_len] at hil
      rw [List.length_append] at hl
      obtain ⟨c, _, _, _, hm⟩ := info_get h1
      obtain ⟨ms, hms⟩ := ih rest (by omega) h2
      exact ⟨c :: ms, by rw [erases_append, hm, hms, plainIs]⟩
theorem rout_get {ds : List D} (h : FitL (env 8) (erases ds)) : ∃ (r : R) (ks : List D), ds = .str r.sel :: .int r.owner :: .bool r.cls :: .int r.params :: .int r.slots :: ks ∧ erases ks = plainK r.body ∧ erases ds = plainR r := by
  obtain ⟨s0, e0, rfl, h0⟩ := fitL_str h
  obtain ⟨n1, e1, rfl, h1⟩ := fitL_int h0
  obtain ⟨x2, e2, rfl, h2⟩ := fitL_bool h1
  obtain ⟨n3, e3, rfl, h3⟩ := fitL_int h2
  obtain ⟨n4, e4, rfl, h4⟩ := fitL_int h3
  obtain ⟨e, he⟩ := knode_get (ds := e4) h4
  exact ⟨⟨s0, n1, x2, n3, n4, e⟩, e4, rfl, he, by simp only [erases, erase, plainR, he]⟩
theorem routs_get : ∀ (n : Nat) (ds : List D), ds.length ≤ n → FitRow 8 (erases ds) → ∃ rs, erases ds = plainRs rs := by
  intro n
  induction n with
  | zero => intro ds hl _; exact ⟨[], by rw [List.eq_nil_of_length_eq_zero (Nat.le_zero.1 hl)]; rfl⟩
  | succ n ih =>
    intro ds hl h
    rcases fitRow_cases h with rfl | ⟨item, rest, rfl, h1, h2⟩
    · exact ⟨[], rfl⟩
    · have hil := fitL_len h1
      have h5 : (env 8).length = 10 := rfl
      rw [erases_len] at hil
      rw [List.length_append] at hl
      obtain ⟨c, _, _, _, hm⟩ := rout_get h1
      obtain ⟨ms, hms⟩ := ih rest (by omega) h2
      exact ⟨c :: ms, by rw [erases_append, hm, hms, plainRs]⟩
theorem sys_get {ds : List D} (h : FitL (env 9) (erases ds)) : ∃ s, erases ds = plainS s := by
  obtain ⟨t0, v0, d0, e0, rfl, f0, h0⟩ := fitL_row (k := 3) rfl h
  obtain ⟨t1, v1, d1, e1, rfl, f1, h1⟩ := fitL_row (k := 10) rfl h0
  obtain ⟨cs, hcs⟩ := infos_get _ d0 (Nat.le_refl _) f0
  obtain ⟨rs, hrs⟩ := routs_get _ d1 (Nat.le_refl _) f1
  obtain ⟨r, _, _, _, hr⟩ := rout_get (ds := e1) h1
  exact ⟨⟨cs, rs, r⟩, by rw [erases, erase, erases, erase, hcs, hrs, hr, plainS]⟩
theorem infos_at : ∀ (cs : List I) (ds : List D), erases ds = plainIs cs → ∀ i (h : i < cs.length), ∃ A x B, ds = A ++ (x ++ B) ∧ A.length = i * 3 ∧ erases x = plainI cs[i] := by
  intro cs
  induction cs with
  | nil => intro ds _ i h; simp at h
  | cons m ms ih =>
    intro ds h i hi
    rw [plainIs] at h
    obtain ⟨x, y, rfl, h1, h2⟩ := erases_split h
    cases i with
    | zero => exact ⟨[], x, y, rfl, by simp, h1⟩
    | succ i =>
      obtain ⟨A, x', B, rfl, h3, h4⟩ := ih y h2 i (by simpa using hi)
      refine ⟨x ++ A, x', B, by rw [List.append_assoc], ?_, h4⟩
      have : x.length = 3 := by
        have := congrArg List.length h1
        rw [erases_len, plainI_len] at this
        exact this
      rw [List.length_append, this, h3, Nat.succ_mul]
      omega
theorem routs_at : ∀ (cs : List R) (ds : List D), erases ds = plainRs cs → ∀ i (h : i < cs.length), ∃ A x B, ds = A ++ (x ++ B) ∧ A.length = i * 10 ∧ erases x = plainR cs[i] := by
  intro cs
  induction cs with
  | nil => intro ds _ i h; simp at h
  | cons m ms ih =>
    intro ds h i hi
    rw [plainRs] at h
    obtain ⟨x, y, rfl, h1, h2⟩ := erases_split h
    cases i with
    | zero => exact ⟨[], x, y, rfl, by simp, h1⟩
    | succ i =>
      obtain ⟨A, x', B, rfl, h3, h4⟩ := ih y h2 i (by simpa using hi)
      refine ⟨x ++ A, x', B, by rw [List.append_assoc], ?_, h4⟩
      have : x.length = 10 := by
        have := congrArg List.length h1
        rw [erases_len, plainR_len] at this
        exact this
      rw [List.length_append, this, h3, Nat.succ_mul]
      omega
def IAt (lo : Nat) (w : World) (b o : Nat) (c : I) : Prop :=
  ∃ vf, w.cell? ⟨b, o, none⟩ = some (.string c.name) ∧ w.cell? ⟨b, o + 1, none⟩ = some (.int .i64 c.parent) ∧ w.cell? ⟨b, o + 2, none⟩ = some vf ∧ Texts lo w c.fields vf ∧ Formed vf c.fields.length ∧ (Lit.int .i64 c.parent).wf = true
def IsAt (lo : Nat) (w : World) (v : Value) (cs : List I) : Prop :=
  ∃ a c, v = .slice a cs.length c ∧ (cs.length ≤ c ∧ c ≤ maxLen) ∧ (0 < cs.length → ∃ b o, a = some ⟨b, o, none⟩ ∧ lo ≤ b ∧ ∀ i x, cs[i]? = some x → IAt lo w b (o + i * 3) x)
def RAt (lo : Nat) (w : World) (b o : Nat) (r : R) : Prop :=
  w.cell? ⟨b, o, none⟩ = some (.string r.sel) ∧ w.cell? ⟨b, o + 1, none⟩ = some (.int .i64 r.owner) ∧ w.cell? ⟨b, o + 2, none⟩ = some (.bool r.cls) ∧ w.cell? ⟨b, o + 3, none⟩ = some (.int .i64 r.params) ∧ w.cell? ⟨b, o + 4, none⟩ = some (.int .i64 r.slots) ∧
    KSpot lo w b (o + 5) r.body ∧ (Lit.int .i64 r.owner).wf = true ∧ (Lit.int .i64 r.params).wf = true ∧ (Lit.int .i64 r.slots).wf = true
def RsAt (lo : Nat) (w : World) (v : Value) (rs : List R) : Prop :=
  ∃ a c, v = .slice a rs.length c ∧ (rs.length ≤ c ∧ c ≤ maxLen) ∧ (0 < rs.length → ∃ b o, a = some ⟨b, o, none⟩ ∧ lo ≤ b ∧ ∀ i x, rs[i]? = some x → RAt lo w b (o + i * 10) x)
theorem IAt.below {lo : Nat} {w w' : World} {b o : Nat} {c : I} (h : IAt lo w b o c) (hb : Below w.heap.size w w') : IAt lo w' b o c := by
  obtain ⟨vf, c0, c1, c2, h1, h2, h3⟩ := h
  exact ⟨vf, cell_keep hb c0, cell_keep hb c1, cell_keep hb c2, h1.below hb, h2, h3⟩
theorem IsAt.below {lo : Nat} {w w' : World} {v : Value} {cs : List I} (h : IsAt lo w v cs) (hb : Below w.heap.size w w') : IsAt lo w' v cs := by
  obtain ⟨a, c, rfl, hc, h⟩ := h
  refine ⟨a, c, rfl, hc, fun hp => ?_⟩
  obtain ⟨b, o, rfl, hl, h'⟩ := h hp
  exact ⟨b, o, rfl, hl, fun i x hi => (h' i x hi).below hb⟩
theorem RAt.below {lo : Nat} {w w' : World} {b o : Nat} {r : R} (h : RAt lo w b o r) (hb : Below w.heap.size w w') : RAt lo w' b o r := by
  obtain ⟨c0, c1, c2, c3, c4, h1, h2⟩ := h
  exact ⟨cell_keep hb c0, cell_keep hb c1, cell_keep hb c2, cell_keep hb c3, cell_keep hb c4, h1.below hb, h2⟩
theorem RsAt.below {lo : Nat} {w w' : World} {v : Value} {cs : List R} (h : RsAt lo w v cs) (hb : Below w.heap.size w w') : RsAt lo w' v cs := by
  obtain ⟨a, c, rfl, hc, h⟩ := h
  refine ⟨a, c, rfl, hc, fun hp => ?_⟩
  obtain ⟨b, o, rfl, hl, h'⟩ := h hp
  exact ⟨b, o, rfl, hl, fun i x hi => (h' i x hi).below hb⟩
theorem IsAt.at {lo : Nat} {w : World} {a : Option Addr} {n c : Nat} {cs : List I} (h : IsAt lo w (.slice a n c) cs) {i : Nat} {x : I} (hi : cs[i]? = some x) : ∃ b o, a = some ⟨b, o, none⟩ ∧ lo ≤ b ∧ IAt lo w b (o + i * 3) x := by
  obtain ⟨a', c', e, hc, h⟩ := h
  cases e
  have := (List.getElem?_eq_some_iff.1 hi).1
  obtain ⟨b, o, rfl, hl, h'⟩ := h (by omega)
  exact ⟨b, o, rfl, hl, h' i x hi⟩
theorem RsAt.at {lo : Nat} {w : World} {a : Option Addr} {n c : Nat} {cs : List R} (h : RsAt lo w (.slice a n c) cs) {i : Nat} {x : R} (hi : cs[i]? = some x) : ∃ b o, a = some ⟨b, o, none⟩ ∧ lo ≤ b ∧ RAt lo w b (o + i * 10) x := by
  obtain ⟨a', c', e, hc, h⟩ := h
  cases e
  have := (List.getElem?_eq_some_iff.1 hi).1
  obtain ⟨b, o, rfl, hl, h'⟩ := h (by omega)
  exact ⟨b, o, rfl, hl, h' i x hi⟩
theorem IsAt.take {lo : Nat} {w : World} {a : Option Addr} {n c : Nat} {cs : List I} (h : IsAt lo w (.slice a n c) cs) (i : Nat) (hi : i ≤ n) : IsAt lo w (.slice a i c) (cs.take i) := by
  obtain ⟨a', c', e, hc, h⟩ := h
  cases e
  have hl : (cs.take i).length = i := by rw [List.length_take]; omega
  refine ⟨a, c, by rw [hl], by rw [hl]; omega, fun hp => ?_⟩
  obtain ⟨b, o, rfl, hlo, h'⟩ := h (by omega)
  refine ⟨b, o, rfl, hlo, fun j x hj => h' j x ?_⟩
  rw [List.getElem?_take] at hj
  split at hj
  · exact hj
  · cases hj
theorem RsAt.take {lo : Nat} {w : World} {a : Option Addr} {n c : Nat} {cs : List R} (h : RsAt lo w (.slice a n c) cs) (i : Nat) (hi : i ≤ n) : RsAt lo w (.slice a i c) (cs.take i) := by
  obtain ⟨a', c', e, hc, h⟩ := h
  cases e
  have hl : (cs.take i).length = i := by rw [List.length_take]; omega
  refine ⟨a, c, by rw [hl], by rw [hl]; omega, fun hp => ?_⟩
  obtain ⟨b, o, rfl, hlo, h'⟩ := h (by omega)
  refine ⟨b, o, rfl, hlo, fun j x hj => h' j x ?_⟩
  rw [List.getElem?_take] at hj
  split at hj
  · exact hj
  · cases hj
theorem info_form {ds : List D} {c : I} (h : erases ds = plainI c) : ∃ (t2 : Nat) (v2 : Value), ds = [.str c.name, .int c.parent, .row t2 1 v2 (strs c.fields)] := by
  obtain ⟨c', t2, v2, rfl, h5⟩ := info_get (ds := ds) (h ▸ plainI_fit c)
  have e := h5.symm.trans h
  obtain ⟨a1, a2, a3⟩ := c'
  obtain ⟨b1, b2, b3⟩ := c
  simp only [plainI, List.cons.injEq, P.str.injEq, P.int.injEq, P.row.injEq, true_and, and_true] at e
  obtain ⟨rfl, rfl, e3⟩ := e
  obtain rfl := str_inj _ _ e3
  exact ⟨t2, v2, rfl⟩
theorem rout_form {ds : List D} {r : R} (h : erases ds = plainR r) : ∃ (t4 : Nat) (v4 : Value) (d4 : List D), ds = [.str r.sel, .int r.owner, .bool r.cls, .int r.params, .int r.slots, .int r.body.kind, .str r.body.text, .int r.body.num, .int r.body.dep, .row t4 5 v4 d4] ∧ erases [.int r.body.kind, .str r.body.text, .int r.body.num, .int r.body.dep, .row t4 5 v4 d4] = plainK r.body := by
  have hf : FitL (env 8) (erases ds) := h ▸ plainR_fit r
  obtain ⟨s0, e0, rfl, h0⟩ := fitL_str hf
  obtain ⟨n1, e1, rfl, h1⟩ := fitL_int h0
  obtain ⟨x2, e2, rfl, h2⟩ := fitL_bool h1
  obtain ⟨n3, e3, rfl, h3⟩ := fitL_int h2
  obtain ⟨n4, e4, rfl, h4⟩ := fitL_int h3
  simp only [erases, erase, plainR, List.cons.injEq, P.str.injEq, P.int.injEq, P.bool.injEq] at h
  obtain ⟨rfl, rfl, rfl, rfl, rfl, he⟩ := h
  obtain ⟨t4, v4, d4, rfl, -⟩ := kerases5 he
  exact ⟨t4, v4, d4, rfl, he⟩
theorem infos_open {lo t : Nat} {w : World} {v : Value} {ds : List D} {cs : List I} (hh : Holds lo w (.row t 3 v ds)) (hs : Stricts ds) (he : erases ds = plainIs cs) : IsAt lo w v cs := by
  rw [Holds] at hh
  obtain ⟨⟨a, n, c, rfl, -, hl, hn, hc, hcell⟩, hd⟩ := hh
  have hlen := congrArg List.length he
  rw [erases_len, plainIs_len] at hlen
  obtain rfl : n = cs.length := by omega
  refine ⟨a, c, rfl, ⟨hn, hc⟩, fun hp => ?_⟩
  obtain ⟨b, o, rfl, hb, hcell⟩ := hcell hp
  refine ⟨b, o, rfl, hb, fun i m hi => ?_⟩
  obtain ⟨hj, rfl⟩ := List.getElem?_eq_some_iff.1 hi
  obtain ⟨A, x, B, e, hal, hx⟩ := infos_at cs ds he i hj
  have hxh : Holdss lo w x := (Holdss.append.1 (Holdss.append.1 (e ▸ hd)).2).1
  have hxs : Stricts x := (Stricts.append.1 (Stricts.append.1 (e ▸ hs)).2).1
  obtain ⟨t2, v2, rfl⟩ := info_form hx
  simp only [Holdss, and_true] at hxh
  simp only [Stricts, and_true] at hxs
  refine ⟨v2, ?_, ?_, ?_, strs_texts hxh.2.2, formed_val hxs.2.2 (by decide) (by rw [strs_len, Nat.mul_one]), by simpa only [Holds] using hxh.2.1⟩
  · exact row_at0 hcell e hal (.str cs[i].name) rfl
  · exact row_at hcell e hal 1 (.int cs[i].parent) rfl
  · exact row_at hcell e hal 2 (.row t2 1 v2 (strs cs[i].fields)) rfl
theorem rout_open {lo b o : Nat} {w : World} {x : List D} {r : R} (hc : ∀ j d, x[j]? = some d → w.cell? ⟨b, o + j, none⟩ = some (val d)) (hh : Holdss lo w x) (he : erases x = plainR r) : RAt lo w b o r := by
  obtain ⟨t4, v4, d4, rfl, h5⟩ := rout_form he
  simp only [Holdss, and_true] at hh
  obtain ⟨h0, h1, h2, h3, h4, g⟩ := hh
  have hk := knode_of (lo := lo) (w := w) r.body _ t4 v4 d4 rfl h5 (by simp only [Holdss, and_true]; exact g)
  exact ⟨hc 0 _ rfl, hc 1 _ rfl, hc 2 _ rfl, hc 3 _ rfl, hc 4 _ rfl, ⟨v4, hc 5 _ rfl, hc 6 _ rfl, hc 7 _ rfl, hc 8 _ rfl, hc 9 _ rfl, hk⟩, by simpa only [Holds] using h1, by simpa only [Holds] using h3, by simpa only [Holds] using h4⟩
theorem routs_open {lo t : Nat} {w : World} {v : Value} {ds : List D} {cs : List R} (hh : Holds lo w (.row t 10 v ds)) (he : erases ds = plainRs cs) : RsAt lo w v cs := by
  rw [Holds] at hh
  obtain ⟨⟨a, n, c, rfl, -, hl, hn, hc, hcell⟩, hd⟩ := hh
  have hlen := congrArg List.length he
  rw [erases_len, plainRs_len] at hlen
  obtain rfl : n = cs.length := by omega
  refine ⟨a, c, rfl, ⟨hn, hc⟩, fun hp => ?_⟩
  obtain ⟨b, o, rfl, hb, hcell⟩ := hcell hp
  refine ⟨b, o, rfl, hb, fun i m hi => ?_⟩
  obtain ⟨hj, rfl⟩ := List.getElem?_eq_some_iff.1 hi
  obtain ⟨A, x, B, e, hal, hx⟩ := routs_at cs ds he i hj
  have hxh : Holdss lo w x := (Holdss.append.1 (Holdss.append.1 (e ▸ hd)).2).1
  have hxl : x.length = 10 := by
    have := congrArg List.length hx
    rw [erases_len, plainR_len] at this
    exact this
  refine rout_open (fun j d hj => ?_) hxh hx
  have hj' : (x ++ B)[j]? = some d := by
    rw [List.getElem?_append_left (List.getElem?_eq_some_iff.1 hj).1]; exact hj
  exact row_at hcell e hal j d hj'
theorem sys_open {lo : Nat} {w : World} {ds : List D} {s : S} (he : erases ds = plainS s) (hh : Holdss lo w ds) (hs : Stricts ds) :
    ∃ v0 v1 vk, agg ds = .agg #[v0, v1, .string s.main.sel, .int .i64 s.main.owner, .bool s.main.cls, .int .i64 s.main.params, .int .i64 s.main.slots, .int .i64 s.main.body.kind, .string s.main.body.text, .int .i64 s.main.body.num, .int .i64 s.main.body.dep, vk] ∧
      IsAt lo w v0 s.classes ∧ RsAt lo w v1 s.routines ∧ KAt lo w s.main.body vk ∧ (Lit.int .i64 s.main.owner).wf = true ∧ (Lit.int .i64 s.main.params).wf = true ∧ (Lit.int .i64 s.main.slots).wf = true := by
  have hf : FitL (env 9) (erases ds) := he ▸ plainS_fit s
  obtain ⟨t0, v0, d0, e0, rfl, f0, h0⟩ := fitL_row (k := 3) rfl hf
  obtain ⟨t1, v1, d1, e1, rfl, f1, h1⟩ := fitL_row (k := 10) rfl h0
  simp only [erases, erase, plainS, List.cons.injEq, P.row.injEq, true_and] at he
  obtain ⟨hc, hr, hm⟩ := he
  obtain ⟨t4, v4, d4, rfl, h5⟩ := rout_form hm
  simp only [Holdss, and_true] at hh
  obtain ⟨g0, g1, q0, q1, q2, q3, q4, g⟩ := hh
  simp only [Stricts, and_true] at hs
  obtain ⟨s0, s1, -⟩ := hs
  rw [Strict] at s0
  refine ⟨v0, v1, v4, rfl, infos_open g0 s0.2 hc, routs_open g1 hr, ?_, by simpa only [Holds] using q1, by simpa only [Holds] using q3, by simpa only [Holds] using q4⟩
  exact knode_of (lo := lo) (w := w) s.main.body _ t4 v4 d4 rfl h5 (by simp only [Holdss, and_true]; exact g)
theorem plainI_weight (c : I) : Data.weights (plainI c) = c.name.size + (c.fields.length + lens c.fields) := by
  simp only [plainI, Data.weights, Data.weight, strP]
  rw [List.length_map, strs_weights, Nat.div_one]
  omega
theorem plainR_weight (r : R) : Data.weights (plainR r) = r.sel.size + kweight r.body := by
  simp only [plainR, Data.weights, Data.weight, plainK_weight]
  omega
theorem plainIs_mem : ∀ (cs : List I) (c : I), c ∈ cs → Data.weights (plainI c) ≤ Data.weights (plainIs cs) := by
  intro cs
  induction cs with
  | nil => intro c h; cases h
  | cons m ms ih =>
    intro c h
    rw [plainIs, Data.weights_append]
    rcases List.mem_cons.1 h with rfl | h
    · omega
    · have := ih c h; omega
theorem plainRs_mem : ∀ (cs : List R) (c : R), c ∈ cs → Data.weights (plainR c) ≤ Data.weights (plainRs cs) := by
  intro cs
  induction cs with
  | nil => intro c h; cases h
  | cons m ms ih =>
    intro c h
    rw [plainRs, Data.weights_append]
    rcases List.mem_cons.1 h with rfl | h
    · omega
    · have := ih c h; omega
structure Small (s : S) : Prop where
  cl : s.classes.length ≤ 1048576
  rl : s.routines.length ≤ 1048576
  c : ∀ c, c ∈ s.classes → c.name.size ≤ 1048576 ∧ c.fields.length + lens c.fields ≤ 1048576
  r : ∀ r, r ∈ s.routines → r.sel.size ≤ 1048576 ∧ kweight r.body ≤ 1048576
  m : s.main.sel.size ≤ 1048576 ∧ kweight s.main.body ≤ 1048576
theorem small_of {s : S} (h : Data.weights (plainS s) ≤ 1048576) : Small s := by
  rw [plainS] at h
  simp only [Data.weights, Data.weight] at h
  rw [plainIs_len, plainRs_len, plainR_weight, Nat.mul_div_cancel _ (by decide), Nat.mul_div_cancel _ (by decide)] at h
  refine ⟨by omega, by omega, fun c hc => ?_, fun r hr => ?_, by omega, by omega⟩
  · have := plainIs_mem _ c hc
    rw [plainI_weight] at this
    omega
  · have := plainRs_mem _ r hr
    rw [plainR_weight] at this
    omega
end Go.Proofs.YtekeondbbikkpaaGreat.Data
