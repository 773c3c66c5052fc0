/-
  Trees as data: what reads as one reads as the other.
-/
import Derived.Test.YtekeondbbikkpaaGreatBDataStr
import Derived.Test.YtekeondbbikkpaaGreatBSoft
import Derived.Test.YtekeondbbikkpaaGreatBToClassInfo
namespace Go.Proofs.YtekeondbbikkpaaGreat.Data
open Go.RowKit
open Strs Tree
mutual
def plainE : E → List P
  | .mk k t n ns ks => [.int k, .str t, .int n, .row 1 (ns.map P.str), .row 5 (plainEs ks)]
def plainEs : List E → List P
  | [] => []
  | e :: es => plainE e ++ plainEs es
end
theorem plainE_eq (e : E) : plainE e = [.int e.kind, .str e.text, .int e.num, .row 1 (e.names.map P.str), .row 5 (plainEs e.kids)] := by
  cases e with
  | mk k t n ns ks => rw [plainE]; rfl
theorem plainE_len (e : E) : (plainE e).length = 5 := by rw [plainE_eq]; rfl
theorem plainEs_len (es : List E) : (plainEs es).length = es.length * 5 := by
  induction es with
  | nil => rfl
  | cons e es ih => rw [plainEs, List.length_append, plainE_len, ih, List.length_cons, Nat.succ_mul, Nat.add_comm]
theorem plainEs_append (a b : List E) : plainEs (a ++ b) = plainEs a ++ plainEs b := by
  induction a with
  | nil => rfl
  | cons e es ih => rw [List.cons_append, plainEs, plainEs, ih, List.append_assoc]
theorem plainE_weight : ∀ e, Data.weights (plainE e) = Tree.weight e := by
  refine Tree.ind fun k t n ns ks ih => ?_
  have h : ∀ l : List E, (∀ e, e ∈ l → Data.weights (plainE e) = Tree.weight e) → Data.weights (plainEs l) = Tree.weights l := by
    intro l
    induction l with
    | nil => intro _; rfl
    | cons e es ihl =>
      intro hl
      rw [plainEs, Data.weights_append, hl e (by simp), ihl fun x hx => hl x (by simp [hx]), Tree.weights]
  rw [plainE, Tree.weight]
  simp only [Data.weights, Data.weight]
  rw [List.length_map, strs_weights, h ks ih, plainEs_len, Nat.mul_div_cancel _ (by decide), Nat.div_one]
  omega
theorem plainEs_weight (es : List E) : Data.weights (plainEs es) = Tree.weights es := by
  induction es with
  | nil => rfl
  | cons e es ih => rw [plainEs, Data.weights_append, plainE_weight, ih, Tree.weights]
theorem row_weight (es : List E) : Data.weight (.row 5 (plainEs es)) = es.length + Tree.weights es := by
  rw [Data.weight, plainEs_len, Nat.mul_div_cancel _ (by decide), plainEs_weight]
theorem str_inj : ∀ (xs ys : List ByteArray), xs.map P.str = ys.map P.str → xs = ys := by
  intro xs ys h
  have inj : ∀ a b : ByteArray, P.str a = P.str b → a = b := fun a b h => by cases h; rfl
  exact (List.map_inj_right inj).1 h
theorem plainE_inj : ∀ a b : E, plainE a = plainE b → a = b := by
  refine Tree.ind fun k t n ns ks ih => ?_
  intro b h
  cases b with
  | mk k' t' n' ns' ks' =>
    rw [plainE, plainE] at h
    simp only [List.cons.injEq, P.int.injEq, P.str.injEq, P.row.injEq, true_and, and_true] at h
    obtain ⟨rfl, rfl, rfl, h4, h5⟩ := h
    rw [str_inj _ _ h4]
    have hk : ∀ (l l' : List E), (∀ e, e ∈ l → ∀ b, plainE e = plainE b → e = b) → plainEs l = plainEs l' → l = l' := by
      intro l
      induction l with
      | nil =>
        intro l' _ he
        cases l' with
        | nil => rfl
        | cons x xs =>
          have := congrArg List.length he
          rw [plainEs_len, plainEs_len] at this
          simp at this
      | cons e es ihl =>
        intro l' hl he
        cases l' with
        | nil =>
          have := congrArg List.length he
          rw [plainEs_len, plainEs_len] at this
          simp at this
        | cons x xs =>
          rw [plainEs, plainEs] at he
          have h1 := List.append_inj he (by rw [plainE_len, plainE_len])
          rw [hl e (by simp) x h1.1, ihl xs (fun y hy => hl y (by simp [hy])) h1.2]
    rw [hk ks ks' ih h5]
theorem plainEs_inj (a b : List E) (h : plainEs a = plainEs b) : a = b := by
  have := plainE_inj (.mk 0 ByteArray.empty 0 [] a) (.mk 0 ByteArray.empty 0 [] b) (by rw [plainE, plainE, h])
  injection this
theorem strsP_of : ∀ (n : Nat) (ps : List P), ps.length ≤ n → FitRow 0 ps → ∃ xs : List ByteArray, ps = xs.map P.str := by
  intro n
  induction n with
  | zero => intro ps hl _; exact ⟨[], List.eq_nil_of_length_eq_zero (Nat.le_zero.1 hl)⟩
  | succ n ih =>
    intro ps hl h
    rcases fitRow_cases' h with rfl | ⟨item, rest, rfl, h1, h2⟩
    · exact ⟨[], rfl⟩
    · cases h1 with
      | cons _ _ p ps h3 h4 =>
        cases h4
        cases h3 with
        | str s =>
          obtain ⟨xs, rfl⟩ := ih rest (by simp at hl; omega) h2
          exact ⟨s :: xs, rfl⟩
theorem trees_of : ∀ (n : Nat) (ps : List P), masses ps ≤ n → (FitRow 2 ps → ∃ es, ps = plainEs es) ∧ (FitL (env 2) ps → ∃ e, ps = plainE e) := by
  intro n
  induction n with
  | zero =>
    intro ps hm
    cases ps with
    | nil => exact ⟨fun _ => ⟨[], rfl⟩, fun h => by cases h⟩
    | cons p ps =>
      rw [masses] at hm
      have : 0 < mass p := by cases p <;> rw [mass] <;> omega
      omega
  | succ n ih =>
    have one : ∀ ps, masses ps ≤ n + 1 → FitL (env 2) ps → ∃ e, ps = plainE e := by
      intro ps hm h
      cases h with
      | cons _ _ p0 _ g0 h =>
      cases h with
      | cons _ _ p1 _ g1 h =>
      cases h with
      | cons _ _ p2 _ g2 h =>
      cases h with
      | cons _ _ p3 _ g3 h =>
      cases h with
      | cons _ _ p4 _ g4 h =>
      cases h
      cases g0 with
      | int k =>
      cases g1 with
      | str t =>
      cases g2 with
      | int m =>
      cases g3 with
      | row _ _ q3 hk3 f3 =>
      cases g4 with
      | row _ _ q4 hk4 f4 =>
      subst hk3 hk4
      obtain ⟨xs, rfl⟩ := strsP_of _ q3 (Nat.le_refl _) f3
      obtain ⟨es, rfl⟩ := (ih q4 (by simp only [masses, mass] at hm; omega)).1 f4
      exact ⟨.mk k t m xs es, by rw [plainE]; rfl⟩
    have many : ∀ (j : Nat) (ps : List P), ps.length ≤ j → masses ps ≤ n + 1 → FitRow 2 ps → ∃ es, ps = plainEs es := by
      intro j
      induction j with
      | zero => intro ps hl _ _; exact ⟨[], List.eq_nil_of_length_eq_zero (Nat.le_zero.1 hl)⟩
      | succ j ihj =>
        intro ps hl hm h
        rcases fitRow_cases' h with rfl | ⟨item, rest, rfl, h1, h2⟩
        · exact ⟨[], rfl⟩
        · have hil := fitL_len h1
          rw [masses_append] at hm
          rw [List.length_append] at hl
          have h5 : (env 2).length = 5 := rfl
          obtain ⟨e, rfl⟩ := one item (by omega) h1
          obtain ⟨es, rfl⟩ := ihj rest (by omega) (by omega) h2
          exact ⟨e :: es, by rw [plainEs]⟩
    exact fun ps hm => ⟨many _ ps (Nat.le_refl _) hm, one ps hm⟩
theorem trees_get {ds : List D} (h : FitRow 2 (erases ds)) : ∃ es, erases ds = plainEs es := (trees_of _ _ (Nat.le_refl _)).1 h
theorem tree_get {ds : List D} (h : FitL (env 2) (erases ds)) : ∃ e, erases ds = plainE e := (trees_of _ _ (Nat.le_refl _)).2 h
theorem plainE_fit : ∀ e, FitL (env 2) (plainE e) := by
  refine Tree.ind fun k t n ns ks ih => ?_
  rw [plainE]
  refine FitL.cons _ _ _ _ (Fit.int _) (FitL.cons _ _ _ _ (Fit.str _) (FitL.cons _ _ _ _ (Fit.int _) (FitL.cons _ _ _ _ (Fit.row _ _ _ rfl (strs_fit ns)) (FitL.cons _ _ _ _ (Fit.row _ _ _ rfl ?_) FitL.nil))))
  have h : ∀ l : List E, (∀ e, e ∈ l → FitL (env 2) (plainE e)) → FitRow 2 (plainEs l) := by
    intro l
    induction l with
    | nil => intro _; exact FitRow.nil 2
    | cons e es ihl =>
      intro hl
      rw [plainEs]
      exact FitRow.cons 2 _ _ _ rfl (hl e (by simp)) (ihl fun x hx => hl x (by simp [hx]))
  exact h ks ih
theorem plainEs_fit (es : List E) : FitRow 2 (plainEs es) := by
  induction es with
  | nil => exact FitRow.nil 2
  | cons e es ih => rw [plainEs]; exact FitRow.cons 2 _ _ _ rfl (plainE_fit e) ih
theorem erases5 {ds : List D} {e : E} (h : erases ds = plainE e) : ∃ t3 v3 d3 t4 v4 d4, ds = [.int e.kind, .str e.text, .int e.num, .row t3 1 v3 d3, .row t4 5 v4 d4] ∧ d3 = strs e.names ∧ erases d4 = plainEs e.kids := by
  have hf : FitL (env 2) (erases ds) := h ▸ plainE_fit e
  obtain ⟨n0, e0, rfl, hf0⟩ := fitL_int hf
  obtain ⟨s1, e1, rfl, hf1⟩ := fitL_str hf0
  obtain ⟨n2, e2, rfl, hf2⟩ := fitL_int hf1
  obtain ⟨t3, v3, d3, e3, rfl, f3, hf3⟩ := fitL_row (k := 1) rfl hf2
  obtain ⟨t4, v4, d4, e4, rfl, f4, hf4⟩ := fitL_row (k := 5) rfl hf3
  obtain rfl := fitL_nil hf4
  rw [plainE_eq] at h
  simp only [erases, erase, List.cons.injEq, P.int.injEq, P.str.injEq, P.row.injEq, true_and, and_true] at h
  obtain ⟨rfl, rfl, rfl, h3, h4⟩ := h
  obtain ⟨xs, rfl⟩ := strs_get f3
  rw [strs_erases] at h3
  exact ⟨t3, v3, _, t4, v4, d4, rfl, by rw [str_inj _ _ h3], h4⟩
theorem kids_split {ds : List D} {e : E} {es : List E} (h : erases ds = plainEs (e :: es)) : ∃ x y, ds = x ++ y ∧ erases x = plainE e ∧ erases y = plainEs es := by
  rw [plainEs] at h
  exact erases_split h
theorem kids_at : ∀ (es : List E) (ds : List D), erases ds = plainEs es → ∀ i (h : i < es.length), ∃ A x B, ds = A ++ (x ++ B) ∧ A.length = i * 5 ∧ erases x = plainE es[i] := by
  intro es
  induction es with
  | nil => intro ds _ i h; simp at h
  | cons e es ih =>
    intro ds h i hi
    obtain ⟨x, y, rfl, h1, h2⟩ := kids_split h
    cases i with
    | zero => exact ⟨[], x, y, rfl, by simp, h1⟩
    | succ i =>
      obtain ⟨A, x', B, rfl, h3, h4⟩ := ih y h2 i (by simpa using hi)
      refine ⟨x ++ A, x', B, by rw [List.append_assoc], ?_, h4⟩
      have : x.length = 5 := by
        have := congrArg List.length h1
        rw [erases_len, plainE_len] at this
        exact this
      rw [List.length_append, this, h3, Nat.succ_mul]
      omega
theorem node_of {lo : Nat} {w : World} : ∀ e (ds : List D) (t3 t4 : Nat) (v3 v4 : Value) (d3 d4 : List D), ds = [.int e.kind, .str e.text, .int e.num, .row t3 1 v3 d3, .row t4 5 v4 d4] → erases ds = plainE e → Holdss lo w ds → NodeAt lo w e v3 v4 := by
  refine Tree.ind fun k t n ns ks ih => ?_
  intro ds t3 t4 v3 v4 d3 d4 hds he hh
  subst hds
  rw [plainE] at he
  simp only [E.kind, E.text, E.num, erases, erase, List.cons.injEq, P.row.injEq, true_and, and_true] at he hh
  obtain ⟨h3, h4⟩ := he
  simp only [Holdss, and_true] at hh
  obtain ⟨g0, g1, g2, g3, g4⟩ := hh
  replace g0 : (Lit.int .i64 k).wf = true := by simpa only [Holds] using g0
  replace g1 : t.size ≤ maxLen := by simpa only [Holds] using g1
  replace g2 : (Lit.int .i64 n).wf = true := by simpa only [Holds] using g2
  rw [node_iff]
  refine ⟨g0, g2, g1, ?_, ?_⟩
  · obtain ⟨xs, rfl⟩ := strs_get (ds := d3) (h3 ▸ strs_fit ns)
    rw [strs_erases] at h3
    rw [str_inj _ _ h3] at g3
    exact strs_texts g3
  · show KidsAt lo w ks v4
    rw [Holds] at g4
    obtain ⟨⟨a, m, cap, rfl, -, hl, hc1, hc2, hc⟩, hk⟩ := g4
    have hlen := congrArg List.length h4
    rw [erases_len, plainEs_len] at hlen
    have hm : m = ks.length := by omega
    subst hm
    refine ⟨a, cap, rfl, ⟨hc1, hc2⟩, fun hp => ?_⟩
    obtain ⟨b, o, rfl, hb, hcell⟩ := hc hp
    refine ⟨b, o, rfl, hb, ?_⟩
    rw [Tree.row_iff]
    intro i hi
    obtain ⟨A, x, B, hd, hal, hx⟩ := kids_at ks d4 h4 i hi
    obtain ⟨u3, w3, f3, u4, w4, f4, hx5, -, -⟩ := erases5 hx
    have hxh : Holdss lo w x := (Holdss.append.1 (Holdss.append.1 (hd ▸ hk)).2).1
    refine ⟨w3, w4, ?_, ?_, ?_, ?_, ?_, ih _ (List.getElem_mem _) x u3 u4 w3 w4 f3 f4 hx5 hx hxh⟩
    · exact row_at0 hcell hd hal (.int ks[i].kind) (by rw [hx5]; rfl)
    · exact row_at hcell hd hal 1 (.str ks[i].text) (by rw [hx5]; rfl)
    · exact row_at hcell hd hal 2 (.int ks[i].num) (by rw [hx5]; rfl)
    · exact row_at hcell hd hal 3 (.row u3 1 w3 f3) (by rw [hx5]; rfl)
    · exact row_at hcell hd hal 4 (.row u4 5 w4 f4) (by rw [hx5]; rfl)
theorem kids_of {lo t : Nat} {w : World} {v : Value} {ds : List D} {es : List E} (he : erases ds = plainEs es) (hh : Holds lo w (.row t 5 v ds)) : KidsAt lo w es v := by
  have h := node_of (lo := lo) (w := w) (.mk 0 ByteArray.empty 0 [] es) [.int 0, .str ByteArray.empty, .int 0, .row 0 1 (.slice none 0 0) [], .row t 5 v ds] 0 t (.slice none 0 0) v [] ds rfl (by rw [plainE]; simp [erases, erase, he]) (by
    simp only [Holdss, and_true]
    refine ⟨by rw [Holds]; decide, by rw [Holds]; unfold maxLen; decide, by rw [Holds]; decide, ?_, hh⟩
    rw [Holds]
    exact ⟨⟨none, 0, 0, rfl, by decide, by simp, Nat.le_refl _, by unfold maxLen; omega, fun hp => by omega⟩, trivial⟩)
  exact (node_iff.1 h).2.2.2.2
theorem reads_of {lo : Nat} {w : World} {e : E} {ds : List D} (he : erases ds = plainE e) (hh : Holdss lo w ds) : Reads lo w e (agg ds) := by
  obtain ⟨t3, v3, d3, t4, v4, d4, rfl, -, -⟩ := erases5 he
  exact ⟨v3, v4, rfl, node_of e _ t3 t4 v3 v4 d3 d4 rfl he hh⟩
theorem texts_holds {lo : Nat} {w : World} {xs : List ByteArray} {v : Value} (h : Texts lo w xs v) (t : Nat) : Holds lo w (.row t 1 v (strs xs)) := by
  obtain ⟨a, cap, rfl, ⟨h1, h2⟩, h3, h4⟩ := h
  rw [Holds]
  refine ⟨⟨a, xs.length, cap, rfl, by decide, by rw [strs_len, Nat.mul_one], h1, h2, fun hp => ?_⟩, holdss_iff.2 fun d hd => ?_⟩
  · obtain ⟨b, o, rfl, hb, hc⟩ := h4 hp
    refine ⟨b, o, rfl, hb, fun j hj => ?_⟩
    rw [strs_len] at hj
    rw [hc j hj]
    simp [strs, val]
  · simp only [strs, List.mem_map] at hd
    obtain ⟨x, hx, rfl⟩ := hd
    rw [Holds]
    exact h3 x hx
theorem node_holds {lo : Nat} {w : World} (t3 t4 : Nat) : ∀ e v3 v4, NodeAt lo w e v3 v4 → ∃ d4, erases [.int e.kind, .str e.text, .int e.num, .row t3 1 v3 (strs e.names), .row t4 5 v4 d4] = plainE e ∧ Holdss lo w [.int e.kind, .str e.text, .int e.num, .row t3 1 v3 (strs e.names), .row t4 5 v4 d4] := by
  refine Tree.ind fun k t n ns ks ih => ?_
  intro v3 v4 h
  rw [node_iff] at h
  obtain ⟨h1, h2, h3, h4, a, cap, rfl, ⟨hc1, hc2⟩, hc⟩ := h
  simp only [E.kind, E.text, E.num, E.names, E.kids] at *
  by_cases hp : 0 < ks.length
  · obtain ⟨b, o, rfl, hb, hr⟩ := hc hp
    have go : ∀ (l : List E) (o' : Nat), (∀ e, e ∈ l → ∀ v3 v4, NodeAt lo w e v3 v4 → ∃ d4, erases [.int e.kind, .str e.text, .int e.num, .row t3 1 v3 (strs e.names), .row t4 5 v4 d4] = plainE e ∧ Holdss lo w [.int e.kind, .str e.text, .int e.num, .row t3 1 v3 (strs e.names), .row t4 5 v4 d4]) →
        Tree.Row lo w b l o' → ∃ ds, erases ds = plainEs l ∧ Holdss lo w ds ∧ ∀ j (h : j < ds.length), w.cell? ⟨b, o' + j, none⟩ = some (val ds[j]) := by
      intro l
      induction l with
      | nil => intro o' _ _; exact ⟨[], rfl, trivial, fun j hj => by simp at hj⟩
      | cons e es ihl =>
        intro o' hl hrow
        rw [Tree.Row] at hrow
        obtain ⟨⟨vn, vk, c0, c1, c2, c3, c4, hn⟩, hrest⟩ := hrow
        obtain ⟨d4, he, hh⟩ := hl e (by simp) vn vk hn
        obtain ⟨ds, hes, hhs, hcs⟩ := ihl (o' + 5) (fun x hx => hl x (by simp [hx])) hrest
        refine ⟨[.int e.kind, .str e.text, .int e.num, .row t3 1 vn (strs e.names), .row t4 5 vk d4] ++ ds, by rw [erases_append, he, hes, plainEs], Holdss.append.2 ⟨hh, hhs⟩, fun j hj => ?_⟩
        match j, hj with
        | 0, _ => exact c0
        | 1, _ => exact c1
        | 2, _ => exact c2
        | 3, _ => exact c3
        | 4, _ => exact c4
        | j + 5, hj =>
          have := hcs j (by simpa using hj)
          rw [show o' + (j + 5) = o' + 5 + j by omega, this]
          rfl
    obtain ⟨ds, hes, hhs, hcs⟩ := go ks o ih hr
    have hlen := congrArg List.length hes
    rw [erases_len, plainEs_len] at hlen
    refine ⟨ds, ?_, ?_⟩
    · rw [plainE]
      simp only [erases, erase, strs_erases, hes]
    · simp only [Holdss, and_true]
      refine ⟨by rw [Holds]; exact h1, by rw [Holds]; exact h3, by rw [Holds]; exact h2, texts_holds h4 t3, ?_⟩
      rw [Holds]
      exact ⟨⟨_, ks.length, cap, rfl, by decide, hlen, hc1, hc2, fun _ => ⟨b, o, rfl, hb, hcs⟩⟩, hhs⟩
  · have hk0 : ks = [] := List.eq_nil_of_length_eq_zero (by omega)
    subst hk0
    refine ⟨[], ?_, ?_⟩
    · rw [plainE]
      simp only [erases, erase, strs_erases, plainEs]
    · simp only [Holdss, and_true]
      refine ⟨by rw [Holds]; exact h1, by rw [Holds]; exact h3, by rw [Holds]; exact h2, texts_holds h4 t3, ?_⟩
      rw [Holds]
      exact ⟨⟨a, 0, cap, rfl, by decide, by simp, hc1, hc2, fun hp => by omega⟩, trivial⟩
theorem kids_holds {lo : Nat} {w : World} {es : List E} {v : Value} (h : KidsAt lo w es v) (t : Nat) : ∃ ds, erases ds = plainEs es ∧ Holds lo w (.row t 5 v ds) := by
  have hn : NodeAt lo w (.mk 0 ByteArray.empty 0 [] es) (.slice none 0 0) v := node_iff.2 ⟨show (Lit.int .i64 0).wf = true by decide, show (Lit.int .i64 0).wf = true by decide, show ByteArray.empty.size ≤ maxLen by unfold maxLen; decide,
    show Texts lo w [] (.slice none 0 0) from ⟨none, 0, rfl, ⟨Nat.le_refl _, by unfold maxLen; decide⟩, fun _ h => by (cases h), fun hp => by simp at hp⟩, h⟩
  obtain ⟨d4, he, hh⟩ := node_holds 0 t (.mk 0 ByteArray.empty 0 [] es) (.slice none 0 0) v hn
  refine ⟨d4, ?_, ?_⟩
  · rw [plainE] at he
    simp only [E.kind, E.text, E.num, E.names, erases, erase, List.cons.injEq, P.row.injEq, true_and, and_true] at he
    exact he.2
  · simp only [Holdss, and_true] at hh
    exact hh.2.2.2.2
theorem soft_of {base : Nat} {w : World} : ∀ e (ds : List D) (t3 t4 : Nat) (v3 v4 : Value) (d3 d4 : List D), ds = [.int e.kind, .str e.text, .int e.num, .row t3 1 v3 d3, .row t4 5 v4 d4] → erases ds = plainE e → Goods w ds → (∀ b, b ∈ foots ds → base ≤ b) → Soft.Soft base w e v4 := by
  refine Tree.ind fun k t n ns ks ih => ?_
  intro ds t3 t4 v3 v4 d3 d4 hds he hg hlo
  subst hds
  rw [plainE] at he
  simp only [E.kind, E.text, E.num, erases, erase, List.cons.injEq, P.row.injEq, true_and, and_true] at he hg hlo
  obtain ⟨h3, h4⟩ := he
  rw [goods_iff] at hg
  have g4 := hg (.row t4 5 v4 d4) (by simp)
  rw [Good] at g4
  obtain ⟨⟨m, -, hl, ho⟩, hk⟩ := g4
  have hlen := congrArg List.length h4
  rw [erases_len, plainEs_len] at hlen
  have hm : m = ks.length := by omega
  subst hm
  rw [Soft.soft_iff]
  show Soft.SoftKids base w ks v4
  have ho' := ho
  obtain ⟨_, ⟨rfl, hn⟩ | ⟨g, cap, cur, rfl, hbg, hgg, hnc, hcm, _, _⟩⟩ := ho
  · exact ⟨none, 0, by rw [hn], fun hp => by omega⟩
  · refine ⟨_, cap, rfl, fun hp => ⟨g, 0, rfl, hlo g (by simp [foots, foot, blk, Value.ownBlock]), fun o => ho'.frozenAt o, ?_⟩⟩
    rw [Soft.softrow_iff]
    intro i hi
    obtain ⟨A, x, B, hd, hal, hx⟩ := kids_at ks d4 h4 i hi
    obtain ⟨u3, w3, f3, u4, w4, f4, hx5, -, -⟩ := erases5 hx
    have hxg : Goods w x := (Goods.append.1 (Goods.append.1 (hd ▸ hk)).2).1
    have hxl : ∀ b, b ∈ foots x → base ≤ b := fun b hb => hlo b (by
      have : b ∈ foots d4 := by rw [hd, foots_append, foots_append]; simp [hb]
      simp [foots, foot, this])
    refine ⟨w4, ?_, ih _ (List.getElem_mem _) x u3 u4 w3 w4 f3 f4 hx5 hx hxg hxl⟩
    have hcell : ∀ j (h : j < d4.length), w.cell? ⟨g, 0 + j, none⟩ = some (val d4[j]) := fun j hj => by
      rw [Nat.zero_add, ho'.cellAt j (by omega)]
      exact vals_get d4 j hj
    exact row_at hcell hd hal 4 (.row u4 5 w4 f4) (by rw [hx5]; rfl)
theorem softkids_of {base t : Nat} {w : World} {v : Value} {ds : List D} {es : List E} (he : erases ds = plainEs es) (h : Row base w t 5 v ds) : Soft.SoftKids base w es v := by
  have ho := row_iff.2 h
  have hs := soft_of (base := base) (w := w) (.mk 0 ByteArray.empty 0 [] es) [.int 0, .str ByteArray.empty, .int 0, .row 0 1 (.slice none 0 0) [], .row t 5 v ds] 0 t (.slice none 0 0) v [] ds rfl (by rw [plainE]; simp [erases, erase, he]) (by
    rw [goods_iff]
    intro d hd
    simp only [List.mem_cons, List.not_mem_nil, or_false] at hd
    rcases hd with rfl | rfl | rfl | rfl | rfl
    · rw [Good]; decide
    · rw [Good]; unfold maxLen; decide
    · rw [Good]; decide
    · rw [Good]; exact ⟨⟨0, by decide, rfl, nil_row _ _ _⟩, trivial⟩
    · exact goods_iff.1 ho.good _ (by simp)) (by
    intro b hb
    refine ho.lo b ?_
    simp only [foots, foot, List.append_nil, List.nil_append] at hb ⊢
    simpa [blk, Value.ownBlock] using hb)
  exact Soft.soft_iff.1 hs
end Go.Proofs.YtekeondbbikkpaaGreat.Data
