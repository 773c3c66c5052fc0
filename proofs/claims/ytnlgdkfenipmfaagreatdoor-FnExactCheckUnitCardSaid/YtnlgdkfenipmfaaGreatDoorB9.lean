/-
  DataTree DataStrict AppendTexts
-/
import Derived.Test.YtnlgdkfenipmfaaGreatDoorB1
import Derived.Test.YtnlgdkfenipmfaaGreatDoorB33
import Derived.Laws.AppendOwnNone
namespace Go.Proofs.YtnlgdkfenipmfaaGreatDoor.Data
open Go.RowKit
open Strs Tree
mutual
def plainE : E -> List P
  | .mk k t n ns ks => [.int k, .str t, .int n, .row 1 (ns.map P.str), .row 5 (plainEs ks)]
def plainEs : List E -> List P
  | [] => []
  | e :: es => plainE e ++ plainEs es
end
theorem plainE_eq (e : E) : plainE e = [.int e.kind, .str e.text, .int e.num, .row 1 (e.names.map P.str), .row 5 (plainEs e.kids)] := by
  cases e with
  | mk k t n ns ks => rw [plainE]; rfl
theorem plainE_len (e : E) : (plainE e).length = 5 := by rw [plainE_eq]; rfl
theorem plainEs_len (es : List E) : (plainEs es).length = es.length * 5 := by
  induction es with
  | nil => rfl
  | cons e es ih => rw [plainEs, List.length_append, plainE_len, ih, List.length_cons, Nat.succ_mul, Nat.add_comm]
theorem plainE_weight : ∀ e, Data.weights (plainE e) = Tree.weight e := by
  refine Tree.ind fun k t n ns ks ih => ?_
  have h : ∀ l : List E, (∀ e, e ∈ l -> Data.weights (plainE e) = Tree.weight e) -> Data.weights (plainEs l) = Tree.weights l := by
    intro l
    induction l with
    | nil => intro _; rfl
    | cons e es ihl =>
      intro hl
      rw [plainEs, Data.zaf, hl e (by simp), ihl fun x hx => hl x (by simp [hx]), Tree.weights]
  rw [plainE, Tree.weight]
  simp only [Data.weights, Data.weight]
  rw [List.length_map, strs_weights, h ks ih, plainEs_len, Nat.mul_div_cancel _ (by decide), Nat.div_one]
  omega
theorem plainEs_weight (es : List E) : Data.weights (plainEs es) = Tree.weights es := by
  induction es with
  | nil => rfl
  | cons e es ih => rw [plainEs, Data.zaf, plainE_weight, ih, Tree.weights]
theorem str_inj : ∀ (xs ys : List ByteArray), xs.map P.str = ys.map P.str -> xs = ys := by
  intro xs ys h
  have inj : ∀ a b : ByteArray, P.str a = P.str b -> a = b := fun a b h => by cases h; rfl
  exact (List.map_inj_right inj).1 h
theorem plainE_inj : ∀ a b : E, plainE a = plainE b -> a = b := by
  refine Tree.ind fun k t n ns ks ih => ?_
  intro b h
  cases b with
  | mk k' t' n' ns' ks' =>
    rw [plainE, plainE] at h
    simp only [List.cons.injEq, P.int.injEq, P.str.injEq, P.row.injEq, true_and, and_true] at h
    obtain ⟨rfl, rfl, rfl, h4, h5⟩ := h
    rw [str_inj _ _ h4]
    have hk : ∀ (l l' : List E), (∀ e, e ∈ l -> ∀ b, plainE e = plainE b -> e = b) -> plainEs l = plainEs l' -> l = l' := by
      intro l
      induction l with
      | nil =>
        intro l' _ he
        cases l' with
        | nil => rfl
        | cons x xs =>
          have := congrArg List.length he
          rw [plainEs_len, plainEs_len] at this
          simp at this
      | cons e es ihl =>
        intro l' hl he
        cases l' with
        | nil =>
          have := congrArg List.length he
          rw [plainEs_len, plainEs_len] at this
          simp at this
        | cons x xs =>
          rw [plainEs, plainEs] at he
          have h1 := List.append_inj he (by rw [plainE_len, plainE_len])
          rw [hl e (by simp) x h1.1, ihl xs (fun y hy => hl y (by simp [hy])) h1.2]
    rw [hk ks ks' ih h5]
theorem plainEs_inj (a b : List E) (h : plainEs a = plainEs b) : a = b := by
  have := plainE_inj (.mk 0 ByteArray.empty 0 [] a) (.mk 0 ByteArray.empty 0 [] b) (by rw [plainE, plainE, h])
  injection this
theorem strsP_of : ∀ (n : Nat) (ps : List P), ps.length <= n -> FitRow 0 ps -> ∃ xs : List ByteArray, ps = xs.map P.str := by
  intro n
  induction n with
  | zero => intro ps hl _; exact ⟨[], List.eq_nil_of_length_eq_zero (Nat.le_zero.1 hl)⟩
  | succ n ih =>
    intro ps hl h
    rcases fitRow_cases' h with rfl | ⟨item, rest, rfl, h1, h2⟩
    · exact ⟨[], rfl⟩
    · cases h1 with
      | cons _ _ p ps h3 h4 =>
        cases h4
        cases h3 with
        | str s =>
          obtain ⟨xs, rfl⟩ := ih rest (by simp at hl; omega) h2
          exact ⟨s :: xs, rfl⟩
theorem trees_of : ∀ (n : Nat) (ps : List P), masses ps <= n -> (FitRow 2 ps -> ∃ es, ps = plainEs es) /\ (FitL (env 2) ps -> ∃ e, ps = plainE e) := by
  intro n
  induction n with
  | zero =>
    intro ps hm
    cases ps with
    | nil => exact ⟨fun _ => ⟨[], rfl⟩, fun h => by cases h⟩
    | cons p ps =>
      rw [masses] at hm
      have : 0 < mass p := by cases p <;> rw [mass] <;> omega
      omega
  | succ n ih =>
    have one : ∀ ps, masses ps <= n + 1 -> FitL (env 2) ps -> ∃ e, ps = plainE e := by
      intro ps hm h
      cases h with
      | cons _ _ p0 _ g0 h =>
      cases h with
      | cons _ _ p1 _ g1 h =>
      cases h with
      | cons _ _ p2 _ g2 h =>
      cases h with
      | cons _ _ p3 _ g3 h =>
      cases h with
      | cons _ _ p4 _ g4 h =>
      cases h
      cases g0 with
      | int k =>
      cases g1 with
      | str t =>
      cases g2 with
      | int m =>
      cases g3 with
      | row _ _ q3 hk3 f3 =>
      cases g4 with
      | row _ _ q4 hk4 f4 =>
      subst hk3 hk4
      obtain ⟨xs, rfl⟩ := strsP_of _ q3 (zL _) f3
      obtain ⟨es, rfl⟩ := (ih q4 (by simp only [masses, mass] at hm; omega)).1 f4
      exact ⟨.mk k t m xs es, by rw [plainE]; rfl⟩
    have many : ∀ (j : Nat) (ps : List P), ps.length <= j -> masses ps <= n + 1 -> FitRow 2 ps -> ∃ es, ps = plainEs es := by
      intro j
      induction j with
      | zero => intro ps hl _ _; exact ⟨[], List.eq_nil_of_length_eq_zero (Nat.le_zero.1 hl)⟩
      | succ j ihj =>
        intro ps hl hm h
        rcases fitRow_cases' h with rfl | ⟨item, rest, rfl, h1, h2⟩
        · exact ⟨[], rfl⟩
        · have hil := fitL_len h1
          rw [masses_append] at hm
          rw [List.length_append] at hl
          have h5 : (env 2).length = 5 := rfl
          obtain ⟨e, rfl⟩ := one item (by omega) h1
          obtain ⟨es, rfl⟩ := ihj rest (by omega) (by omega) h2
          exact ⟨e :: es, by rw [plainEs]⟩
    exact fun ps hm => ⟨many _ ps (zL _) hm, one ps hm⟩
theorem trees_get {ds : List D} (h : FitRow 2 (erases ds)) : ∃ es, erases ds = plainEs es := (trees_of _ _ (zL _)).1 h
theorem plainE_fit : ∀ e, FitL (env 2) (plainE e) := by
  refine Tree.ind fun k t n ns ks ih => ?_
  rw [plainE]
  refine FitL.cons _ _ _ _ (Fit.int _) (FitL.cons _ _ _ _ (Fit.str _) (FitL.cons _ _ _ _ (Fit.int _) (FitL.cons _ _ _ _ (Fit.row _ _ _ rfl (strs_fit ns)) (FitL.cons _ _ _ _ (Fit.row _ _ _ rfl ?_) FitL.nil))))
  have h : ∀ l : List E, (∀ e, e ∈ l -> FitL (env 2) (plainE e)) -> FitRow 2 (plainEs l) := by
    intro l
    induction l with
    | nil => intro _; exact FitRow.nil 2
    | cons e es ihl =>
      intro hl
      rw [plainEs]
      exact FitRow.cons 2 _ _ _ rfl (hl e (by simp)) (ihl fun x hx => hl x (by simp [hx]))
  exact h ks ih
theorem plainEs_fit (es : List E) : FitRow 2 (plainEs es) := by
  induction es with
  | nil => exact FitRow.nil 2
  | cons e es ih => rw [plainEs]; exact FitRow.cons 2 _ _ _ rfl (plainE_fit e) ih
theorem erases5 {ds : List D} {e : E} (h : erases ds = plainE e) : ∃ t3 v3 d3 t4 v4 d4, ds = [.int e.kind, .str e.text, .int e.num, .row t3 1 v3 d3, .row t4 5 v4 d4] /\ d3 = strs e.names /\ erases d4 = plainEs e.kids := by
  have hf : FitL (env 2) (erases ds) := h ▸ plainE_fit e
  obtain ⟨n0, e0, rfl, hf0⟩ := za0 hf
  obtain ⟨s1, e1, rfl, hf1⟩ := zai hf0
  obtain ⟨n2, e2, rfl, hf2⟩ := za0 hf1
  obtain ⟨t3, v3, d3, e3, rfl, f3, hf3⟩ := zaa (k := 1) rfl hf2
  obtain ⟨t4, v4, d4, e4, rfl, f4, hf4⟩ := zaa (k := 5) rfl hf3
  obtain rfl := zal hf4
  rw [plainE_eq] at h
  simp only [erases, erase, List.cons.injEq, P.int.injEq, P.str.injEq, P.row.injEq, true_and, and_true] at h
  obtain ⟨rfl, rfl, rfl, h3, h4⟩ := h
  obtain ⟨xs, rfl⟩ := strs_get f3
  rw [strs_erases] at h3
  exact ⟨t3, v3, _, t4, v4, d4, rfl, by rw [str_inj _ _ h3], h4⟩
theorem kids_split {ds : List D} {e : E} {es : List E} (h : erases ds = plainEs (e :: es)) : ∃ x y, ds = x ++ y /\ erases x = plainE e /\ erases y = plainEs es := by
  rw [plainEs] at h
  exact erases_split h
theorem kids_at : ∀ (es : List E) (ds : List D), erases ds = plainEs es -> ∀ i (h : i < es.length), ∃ A x B, ds = A ++ (x ++ B) /\ A.length = i * 5 /\ erases x = plainE es[i] := by
  intro es
  induction es with
  | nil => intro ds _ i h; simp at h
  | cons e es ih =>
    intro ds h i hi
    obtain ⟨x, y, rfl, h1, h2⟩ := kids_split h
    cases i with
    | zero => exact ⟨[], x, y, rfl, by simp, h1⟩
    | succ i =>
      obtain ⟨A, x', B, rfl, h3, h4⟩ := ih y h2 i (by simpa using hi)
      refine ⟨x ++ A, x', B, by rw [List.append_assoc], ?_, h4⟩
      have : x.length = 5 := by
        have := congrArg List.length h1
        rw [zad, plainE_len] at this
        exact this
      rw [List.length_append, this, h3, Nat.succ_mul]
      omega
theorem node_of {lo : Nat} {w : World} : ∀ e (ds : List D) (t3 t4 : Nat) (v3 v4 : Value) (d3 d4 : List D), ds = [.int e.kind, .str e.text, .int e.num, .row t3 1 v3 d3, .row t4 5 v4 d4] -> erases ds = plainE e -> Holdss lo w ds -> NodeAt lo w e v3 v4 := by
  refine Tree.ind fun k t n ns ks ih => ?_
  intro ds t3 t4 v3 v4 d3 d4 hds he hh
  subst hds
  rw [plainE] at he
  simp only [E.kind, E.text, E.num, erases, erase, List.cons.injEq, P.row.injEq, true_and, and_true] at he hh
  obtain ⟨h3, h4⟩ := he
  simp only [Holdss, and_true] at hh
  obtain ⟨g0, g1, g2, g3, g4⟩ := hh
  replace g0 : (Lit.int .i64 k).wf = true := by simpa only [Holds] using g0
  replace g1 : t.size <= maxLen := by simpa only [Holds] using g1
  replace g2 : (Lit.int .i64 n).wf = true := by simpa only [Holds] using g2
  rw [zat]
  refine ⟨g0, g2, g1, ?_, ?_⟩
  · obtain ⟨xs, rfl⟩ := strs_get (ds := d3) (h3 ▸ strs_fit ns)
    rw [strs_erases] at h3
    rw [str_inj _ _ h3] at g3
    exact zav g3
  · show KidsAt lo w ks v4
    rw [Holds] at g4
    obtain ⟨⟨a, m, cap, rfl, -, hl, hc1, hc2, hc⟩, hk⟩ := g4
    have hlen := congrArg List.length h4
    rw [zad, plainEs_len] at hlen
    have hm : m = ks.length := by omega
    subst hm
    refine ⟨a, cap, rfl, ⟨hc1, hc2⟩, fun hp => ?_⟩
    obtain ⟨b, o, rfl, hb, hcell⟩ := hc hp
    refine ⟨b, o, rfl, hb, ?_⟩
    rw [Tree.row_iff]
    intro i hi
    obtain ⟨A, x, B, hd, hal, hx⟩ := kids_at ks d4 h4 i hi
    obtain ⟨u3, w3, f3, u4, w4, f4, hx5, -, -⟩ := erases5 hx
    have hxh : Holdss lo w x := (Holdss.append.1 (Holdss.append.1 (hd ▸ hk)).2).1
    refine ⟨w3, w4, ?_, ?_, ?_, ?_, ?_, ih _ (List.getElem_mem _) x u3 u4 w3 w4 f3 f4 hx5 hx hxh⟩
    · exact row_at0 hcell hd hal (.int ks[i].kind) (by rw [hx5]; rfl)
    · exact row_at hcell hd hal 1 (.str ks[i].text) (by rw [hx5]; rfl)
    · exact row_at hcell hd hal 2 (.int ks[i].num) (by rw [hx5]; rfl)
    · exact row_at hcell hd hal 3 (.row u3 1 w3 f3) (by rw [hx5]; rfl)
    · exact row_at hcell hd hal 4 (.row u4 5 w4 f4) (by rw [hx5]; rfl)
theorem kids_of {lo t : Nat} {w : World} {v : Value} {ds : List D} {es : List E} (he : erases ds = plainEs es) (hh : Holds lo w (.row t 5 v ds)) : KidsAt lo w es v := by
  have h := node_of (lo := lo) (w := w) (.mk 0 ByteArray.empty 0 [] es) [.int 0, .str ByteArray.empty, .int 0, .row 0 1 (.slice none 0 0) [], .row t 5 v ds] 0 t (.slice none 0 0) v [] ds rfl (by rw [plainE]; simp [erases, erase, he]) (by
    simp only [Holdss, and_true]
    refine ⟨by rw [Holds]; decide, by rw [Holds]; unfold maxLen; decide, by rw [Holds]; decide, ?_, hh⟩
    rw [Holds]
    exact ⟨⟨none, 0, 0, rfl, by decide, by simp, zL _, by unfold maxLen; omega, fun hp => by omega⟩, trivial⟩)
  exact (zat.1 h).2.2.2.2
theorem soft_of {base : Nat} {w : World} : ∀ e (ds : List D) (t3 t4 : Nat) (v3 v4 : Value) (d3 d4 : List D), ds = [.int e.kind, .str e.text, .int e.num, .row t3 1 v3 d3, .row t4 5 v4 d4] -> erases ds = plainE e -> Goods w ds -> (∀ b, b ∈ foots ds -> base <= b) -> Soft.Soft base w e v4 := by
  refine Tree.ind fun k t n ns ks ih => ?_
  intro ds t3 t4 v3 v4 d3 d4 hds he hg hlo
  subst hds
  rw [plainE] at he
  simp only [E.kind, E.text, E.num, erases, erase, List.cons.injEq, P.row.injEq, true_and, and_true] at he hg hlo
  obtain ⟨h3, h4⟩ := he
  rw [zak] at hg
  have g4 := hg (.row t4 5 v4 d4) (by simp)
  rw [Good] at g4
  obtain ⟨⟨m, -, hl, ho⟩, hk⟩ := g4
  have hlen := congrArg List.length h4
  rw [zad, plainEs_len] at hlen
  have hm : m = ks.length := by omega
  subst hm
  rw [Soft.soft_iff]
  show Soft.SoftKids base w ks v4
  have ho' := ho
  obtain ⟨_, ⟨rfl, hn⟩ | ⟨g, cap, cur, rfl, hbg, hgg, hnc, hcm, _, _⟩⟩ := ho
  · exact ⟨none, 0, by rw [hn], fun hp => by omega⟩
  · refine ⟨_, cap, rfl, fun hp => ⟨g, 0, rfl, hlo g (by simp [foots, foot, blk, Value.ownBlock]), fun o => ho'.frozenAt o, ?_⟩⟩
    rw [Soft.softrow_iff]
    intro i hi
    obtain ⟨A, x, B, hd, hal, hx⟩ := kids_at ks d4 h4 i hi
    obtain ⟨u3, w3, f3, u4, w4, f4, hx5, -, -⟩ := erases5 hx
    have hxg : Goods w x := (Goods.append.1 (Goods.append.1 (hd ▸ hk)).2).1
    have hxl : ∀ b, b ∈ foots x -> base <= b := fun b hb => hlo b (by
      have : b ∈ foots d4 := by rw [hd, zas, zas]; simp [hb]
      simp [foots, foot, this])
    refine ⟨w4, ?_, ih _ (List.getElem_mem _) x u3 u4 w3 w4 f3 f4 hx5 hx hxg hxl⟩
    have hcell : ∀ j (h : j < d4.length), w.cell? ⟨g, 0 + j, none⟩ = some (val d4[j]) := fun j hj => by
      rw [Nat.zero_add, ho'.cellAt j (by omega)]
      exact vals_get d4 j hj
    exact row_at hcell hd hal 4 (.row u4 5 w4 f4) (by rw [hx5]; rfl)
theorem softkids_of {base t : Nat} {w : World} {v : Value} {ds : List D} {es : List E} (he : erases ds = plainEs es) (h : Row base w t 5 v ds) : Soft.SoftKids base w es v := by
  have ho := row_iff.2 h
  have hs := soft_of (base := base) (w := w) (.mk 0 ByteArray.empty 0 [] es) [.int 0, .str ByteArray.empty, .int 0, .row 0 1 (.slice none 0 0) [], .row t 5 v ds] 0 t (.slice none 0 0) v [] ds rfl (by rw [plainE]; simp [erases, erase, he]) (by
    rw [zak]
    intro d hd
    simp only [List.mem_cons, List.not_mem_nil, or_false] at hd
    rcases hd with rfl | rfl | rfl | rfl | rfl
    · rw [Good]; decide
    · rw [Good]; unfold maxLen; decide
    · rw [Good]; decide
    · rw [Good]; exact ⟨⟨0, by decide, rfl, nil_row _ _ _⟩, trivial⟩
    · exact zak.1 ho.good _ (by simp)) (by
    intro b hb
    refine ho.lo b ?_
    simp only [foots, foot, List.append_nil, List.nil_append] at hb ⊢
    simpa [blk, Value.ownBlock] using hb)
  exact Soft.soft_iff.1 hs
end Go.Proofs.YtnlgdkfenipmfaaGreatDoor.Data
namespace Go.Proofs.YtnlgdkfenipmfaaGreatDoor.Data
open Go.RowKit
open Strs Tree
def Formed (v : Value) (n : Nat) : Prop := (v = .slice none 0 0 /\ n = 0) \/ ∃ b o c, v = .slice (some ⟨b, o, none⟩) n c
mutual
def Strict : D -> Prop
  | .int _ => True
  | .str _ => True
  | .bool _ => True
  | .row _ k v ds => (∃ n, ds.length = n * k /\ Formed v n) /\ Stricts ds
def Stricts : List D -> Prop
  | [] => True
  | d :: ds => Strict d /\ Stricts ds
end
theorem stricts_iff {ds : List D} : Stricts ds ↔ ∀ d, d ∈ ds -> Strict d := by
  induction ds with
  | nil => simp [Stricts]
  | cons t ts ih => rw [Stricts, ih]; simp
theorem Stricts.append {a b : List D} : Stricts (a ++ b) ↔ Stricts a /\ Stricts b := by
  rw [stricts_iff, stricts_iff, stricts_iff]
  constructor
  · exact fun h => ⟨fun d hd => h d (by simp [hd]), fun d hd => h d (by simp [hd])⟩
  · rintro ⟨h1, h2⟩ d hd
    rcases List.mem_append.1 hd with h | h
    · exact h1 d h
    · exact h2 d h
theorem own_formed {w : World} {base : Nat} {e : TypeId} {size : Nat} {v : Value} {n : Nat} {xs : List Value} (h : w.ownsRow base e size v n xs) : Formed v n := by
  obtain ⟨_, ⟨rfl, hn⟩ | ⟨g, cap, cur, rfl, _⟩⟩ := h
  · exact .inl ⟨rfl, hn⟩
  · exact .inr ⟨g, 0, cap, rfl⟩
theorem Good.strict {w : World} : ∀ d, Good w d -> Strict d := by
  refine ind (fun n _ => ?_) (fun s _ => ?_) (fun b _ => ?_) fun t k v ds ih h => ?_
  · rw [Strict]; trivial
  · rw [Strict]; trivial
  · rw [Strict]; trivial
  · rw [Good] at h
    obtain ⟨⟨n, h0, h1, h2⟩, h3⟩ := h
    rw [zak] at h3
    rw [Strict]
    exact ⟨⟨n, h1, own_formed h2⟩, stricts_iff.2 fun d hd => ih d hd (h3 d hd)⟩
theorem Own.strict {base : Nat} {w : World} {ds : List D} (h : Own base w ds) : Stricts ds := stricts_iff.2 fun d hd => Good.strict d (zak.1 h.good d hd)
theorem formed_val {t k : Nat} {v : Value} {ds : List D} {n : Nat} (h : Strict (.row t k v ds)) (hk : 0 < k) (hn : ds.length = n * k) : Formed v n := by
  rw [Strict] at h
  obtain ⟨⟨m, h1, h2⟩, -⟩ := h
  have : m = n := Nat.eq_of_mul_eq_mul_right hk (by rw [<- h1, hn])
  subst this
  exact h2
structure M where
  sel : ByteArray
  cls : Bool
  params : List ByteArray
  temps : List ByteArray
  body : List E
structure C where
  name : ByteArray
  parent : ByteArray
  fields : List ByteArray
  methods : List M
structure U where
  classes : List C
  main : M
def strP (xs : List ByteArray) : List P := xs.map P.str
def plainM (m : M) : List P := [.str m.sel, .bool m.cls, .row 1 (strP m.params), .row 1 (strP m.temps), .row 5 (plainEs m.body)]
def plainMs : List M -> List P
  | [] => []
  | m :: ms => plainM m ++ plainMs ms
def plainC (c : C) : List P := [.str c.name, .str c.parent, .row 1 (strP c.fields), .row 5 (plainMs c.methods)]
def plainCs : List C -> List P
  | [] => []
  | c :: cs => plainC c ++ plainCs cs
def plainU (u : U) : List P := .row 4 (plainCs u.classes) :: plainM u.main
theorem plainMs_len (ms : List M) : (plainMs ms).length = ms.length * 5 := by
  induction ms with
  | nil => rfl
  | cons m ms ih => rw [plainMs, List.length_append, ih, List.length_cons, Nat.succ_mul]; show 5 + _ = _; omega
theorem plainCs_len (cs : List C) : (plainCs cs).length = cs.length * 4 := by
  induction cs with
  | nil => rfl
  | cons m ms ih => rw [plainCs, List.length_append, ih, List.length_cons, Nat.succ_mul]; show 4 + _ = _; omega
theorem rowStr {ds : List D} (h : FitRow 0 (erases ds)) : ∃ xs, ds = strs xs /\ erases ds = strP xs := by
  obtain ⟨xs, rfl⟩ := strs_get h
  exact ⟨xs, rfl, strs_erases xs⟩
theorem meth_get {ds : List D} (h : FitL (env 3) (erases ds)) : ∃ (m : M) (t2 t3 t4 : Nat) (v2 v3 v4 : Value) (d4 : List D), ds = [.str m.sel, .bool m.cls, .row t2 1 v2 (strs m.params), .row t3 1 v3 (strs m.temps), .row t4 5 v4 d4] /\ erases d4 = plainEs m.body /\ erases ds = plainM m := by
  obtain ⟨s0, e0, rfl, h0⟩ := zai h
  obtain ⟨x1, e1, rfl, h1⟩ := zay h0
  obtain ⟨t2, v2, d2, e2, rfl, f2, h2⟩ := zaa (k := 1) rfl h1
  obtain ⟨t3, v3, d3, e3, rfl, f3, h3⟩ := zaa (k := 1) rfl h2
  obtain ⟨t4, v4, d4, e4, rfl, f4, h4⟩ := zaa (k := 5) rfl h3
  obtain rfl := zal h4
  obtain ⟨ps, rfl, hp⟩ := rowStr f2
  obtain ⟨ts, rfl, ht⟩ := rowStr f3
  obtain ⟨ks, hk⟩ := trees_get f4
  refine ⟨⟨s0, x1, ps, ts, ks⟩, t2, t3, t4, v2, v3, v4, d4, rfl, hk, ?_⟩
  simp only [erases, erase, plainM, hp, ht, hk]
theorem meths_get : ∀ (n : Nat) (ds : List D), ds.length <= n -> FitRow 3 (erases ds) -> ∃ ms, erases ds = plainMs ms := by
  intro n
  induction n with
  | zero => intro ds hl _; exact ⟨[], by rw [List.eq_nil_of_length_eq_zero (Nat.le_zero.1 hl)]; rfl⟩
  | succ n ih =>
    intro ds hl h
    rcases zaw h with rfl | ⟨item, rest, rfl, h1, h2⟩
    · exact ⟨[], rfl⟩
    · have hil := fitL_len h1
      have h5 : (env 3).length = 5 := rfl
      rw [zad] at hil
      rw [List.length_append] at hl
      obtain ⟨m, _, _, _, _, _, _, _, _, _, hm⟩ := meth_get h1
      obtain ⟨ms, hms⟩ := ih rest (by omega) h2
      exact ⟨m :: ms, by rw [zac, hm, hms, plainMs]⟩
theorem class_get {ds : List D} (h : FitL (env 4) (erases ds)) : ∃ (c : C) (t2 t3 : Nat) (v2 v3 : Value) (d3 : List D), ds = [.str c.name, .str c.parent, .row t2 1 v2 (strs c.fields), .row t3 5 v3 d3] /\ erases d3 = plainMs c.methods /\ FitRow 3 (erases d3) /\ erases ds = plainC c := by
  obtain ⟨s0, e0, rfl, h0⟩ := zai h
  obtain ⟨s1, e1, rfl, h1⟩ := zai h0
  obtain ⟨t2, v2, d2, e2, rfl, f2, h2⟩ := zaa (k := 1) rfl h1
  obtain ⟨t3, v3, d3, e3, rfl, f3, h3⟩ := zaa (k := 5) rfl h2
  obtain rfl := zal h3
  obtain ⟨fs, rfl, hp⟩ := rowStr f2
  obtain ⟨ms, hk⟩ := meths_get _ d3 (zL _) f3
  refine ⟨⟨s0, s1, fs, ms⟩, t2, t3, v2, v3, d3, rfl, hk, f3, ?_⟩
  simp only [erases, erase, plainC, hp, hk]
theorem classes_get : ∀ (n : Nat) (ds : List D), ds.length <= n -> FitRow 4 (erases ds) -> ∃ cs, erases ds = plainCs cs := by
  intro n
  induction n with
  | zero => intro ds hl _; exact ⟨[], by rw [List.eq_nil_of_length_eq_zero (Nat.le_zero.1 hl)]; rfl⟩
  | succ n ih =>
    intro ds hl h
    rcases zaw h with rfl | ⟨item, rest, rfl, h1, h2⟩
    · exact ⟨[], rfl⟩
    · have hil := fitL_len h1
      have h5 : (env 4).length = 4 := rfl
      rw [zad] at hil
      rw [List.length_append] at hl
      obtain ⟨c, _, _, _, _, _, _, _, _, hm⟩ := class_get h1
      obtain ⟨ms, hms⟩ := ih rest (by omega) h2
      exact ⟨c :: ms, by rw [zac, hm, hms, plainCs]⟩
theorem unit_get {ds : List D} (h : FitL (env 5) (erases ds)) : ∃ (u : U) (t0 : Nat) (v0 : Value) (d0 ms : List D), ds = .row t0 4 v0 d0 :: ms /\ erases d0 = plainCs u.classes /\ FitRow 4 (erases d0) /\ FitL (env 3) (erases ms) /\ erases ms = plainM u.main /\ erases ds = plainU u := by
  obtain ⟨t0, v0, d0, e0, rfl, f0, h0⟩ := zaa (k := 4) rfl h
  obtain ⟨cs, hcs⟩ := classes_get _ d0 (zL _) f0
  obtain ⟨m, _, _, _, _, _, _, _, _, _, hm⟩ := meth_get (ds := e0) h0
  refine ⟨⟨cs, m⟩, t0, v0, d0, e0, rfl, hcs, f0, h0, hm, ?_⟩
  rw [erases, erase, hcs, hm, plainU]
def bodyE (m : M) : E := .mk 8 ByteArray.empty m.params.length (m.params ++ m.temps) m.body
theorem plainM_weight (m : M) : Data.weights (plainM m) = m.sel.size + Tree.weight (bodyE m) := by
  unfold bodyE
  rw [Tree.weight]
  simp only [plainM, Data.weights, Data.weight, strP]
  rw [List.length_map, List.length_map, strs_weights, strs_weights, plainEs_len, Nat.mul_div_cancel _ (by decide), plainEs_weight, Nat.div_one, Nat.div_one, List.length_append, lens_append]
  have : ByteArray.empty.size = 0 := rfl
  omega
end Go.Proofs.YtnlgdkfenipmfaaGreatDoor.Data
namespace Go.Proofs.YtnlgdkfenipmfaaGreatDoor
namespace Data
open Go.RowKit
open Strs Tree
theorem infoTx : (Tryz.prog.info? 9).map (fun i => (i.zero, i.size, i.bytes)) = some (some (.string ByteArray.empty), 1, 16) := by kernel_rfl
theorem add_at (b o k : Nat) : (⟨b, o, none⟩ : Addr).add k = ⟨b, o + k, none⟩ := by unfold Addr.add; split <;> simp_all
theorem zan {w : World} {ops : Array Oper} {rest : List Oper} {o : Oper} {a : Act} {Q : Exit -> Act -> World -> Prop} (hgd : o.guard = none) (s x : Operand)
    (ho : o.op = .call { callee := .builtin .append, args := #[s, x], argTypes := #[25, 25] })
    (base : Nat) (v : Value) (xs : List ByteArray) (hs : a.eval s = v) (hown : w.ownsRow base 9 1 v xs.length (xs.map Value.string))
    (vy : Value) (ys : List ByteArray) (lo : Nat) (hx : a.eval x = vy) (hy : Texts lo w ys vy) (hf : Formed vy ys.length) (hbytes : xs.length + ys.length <= 4398046511104) (hbase : base <= w.heap.size)
    (h : ∀ v' w', w'.ownsRow base 9 1 v' (xs ++ ys).length ((xs ++ ys).map Value.string) -> Below base w w' -> wpList Tryz.prog ops Q rest (a.put o.dst v') w') : wpList Tryz.prog ops Q (o :: rest) a w := by
  obtain ⟨i0, hi, hz0, hz1, hz2⟩ := info_parts infoTx
  rcases hf with ⟨rfl, hn⟩ | ⟨b, of, c, rfl⟩
  · have hy0 : ys = [] := List.eq_nil_of_length_eq_zero hn
    subst hy0
    refine wpList_append_own_none hgd s x 25 ho base 9 i0 1 Tryz.underlying25 hi v xs.length _ hs hown hx ?_
    exact h v w (by rw [List.append_nil]; exact hown) (zB _ _)
  · obtain ⟨a', cap, he, hm, hsz, hc⟩ := hy
    cases he
    refine wpList_append_own _ hgd s x 25 ho base 9 i0 (.string ByteArray.empty) 1 16 Tryz.underlying25 hi hz0 hz1 hz2 rfl (by decide) v xs.length _ hs hown ⟨b, of, none⟩ ys.length c (ys.map Value.string) hx (by simp) (fun j u hj => ?_) (fun u hu => ?_) (by unfold maxLen; omega) (by omega) hbase ?_
    · have hl := (List.getElem?_eq_some_iff.1 hj).1
      have hv := (List.getElem?_eq_some_iff.1 hj).2
      rw [List.length_map] at hl
      rw [List.getElem_map] at hv
      obtain ⟨b', o', e, -, hd⟩ := hc (by omega)
      cases e
      rw [add_at, hd j hl, hv]
    · obtain ⟨y, _, rfl⟩ := List.mem_map.1 hu
      rfl
    · intro v' w' hown' hgr _
      exact h v' w' (by rw [List.length_append, List.map_append]; exact hown') ((zB _ _).grown hgr hbase (fun k hk => (hown.lt k hk).1))
theorem own_lit0 (w : World) (T : TypeId) (k : Nat) : (w.alloc (.cells #[] T)).ownsRow w.heap.size T k (.slice (some ⟨w.heap.size, 0, none⟩) 0 0) 0 [] :=
  World.ownsRow_lit (base := w.heap.size) (e := T) (size := k) w #[] 0 (zL _) (Nat.zero_le _) (by simp)
theorem cells_low {B base : Nat} {ds : List D} {wr w' : World} (h : Cells B ds wr) (hb : Below base wr w') (hB : B < base) : Cells B ds w' :=
  ⟨Nat.lt_of_lt_of_le h.1 hb.size, fun j hj => (World.cell?_of_block (a := ⟨B, j, none⟩) (hb.block B hB)).trans (h.2 j hj)⟩
theorem free_low {B base : Nat} {wr w' : World} (h : ∀ o, wr.frozen? ⟨B, o, none⟩ = false) (hb : Below base wr w') (hB : B < base) : ∀ o, w'.frozen? ⟨B, o, none⟩ = false :=
  fun o => (World.frozen?_of_block (a := ⟨B, o, none⟩) (hb.block B hB)).trans (h o)
def zeroE : List D := [.int 0, .str ⟨#[]⟩, .int 0, .row 0 1 (.slice none 0 0) [], .row 0 5 (.slice none 0 0) []]
set_option maxRecDepth 10000 in
set_option maxHeartbeats 4000000 in
theorem block_all {lo l1 l2 : Nat} {w : World} {ps ts : List ByteArray} {ks : List E} {vp vt vk : Value} (hp : Texts l1 w ps vp) (fp : Formed vp ps.length) (ht : Texts l2 w ts vt) (ft : Formed vt ts.length) (hk : KidsAt lo w ks vk) (hpl : ps.length + ts.length <= 4398046511104) :
    Calls Tryz.prog 74 #[vp, vt, vk] w fun r w' => ∃ ra rc, r = .returned (.agg #[.int .i64 8, .string ⟨#[]⟩, .int .i64 (ps.length : Int), .slice ra (ps.length + ts.length) rc, vk]) /\ Texts w.heap.size w' (ps ++ ts) (.slice ra (ps.length + ts.length) rc) /\ Below w.heap.size w w' := by
  have HT := zH ht
  have HP := zH hp
  have FT := zH ft
  have FP := zH fp
  skip
  obtain ⟨pa, pc, rfl, -⟩ := id hp
  obtain ⟨ta, tc, rfl, -⟩ := id ht
  obtain ⟨ka, kc, rfl, -⟩ := id hk
  clear hp ht hk fp ft
  have hz : Cells w.heap.size zeroE ((w.alloc (.cells #[.int .i64 0, .string ⟨#[]⟩, .int .i64 0, .slice none 0 0, .slice none 0 0] 76)).alloc (.cells #[] 9)) := (zab w zeroE 76).step ((zB _ _).alloc (zL _) _)
  have hb0 : Below w.heap.size w ((w.alloc (.cells #[.int .i64 0, .string ⟨#[]⟩, .int .i64 0, .slice none 0 0, .slice none 0 0] 76)).alloc (.cells #[] 9)) := ((zB _ _).alloc (zL _) _).alloc (by simp) _
  have hlit := own_lit0 (w.alloc (.cells #[.int .i64 0, .string ⟨#[]⟩, .int .i64 0, .slice none 0 0, .slice none 0 0] 76)) 9 1
  rw [show (w.alloc (.cells #[.int .i64 0, .string ⟨#[]⟩, .int .i64 0, .slice none 0 0, .slice none 0 0] 76)).heap.size = w.heap.size + 1 by simp] at hlit
  have hf0 : ∀ o, ((w.alloc (.cells #[.int .i64 0, .string ⟨#[]⟩, .int .i64 0, .slice none 0 0, .slice none 0 0] 76)).alloc (.cells #[] 9)).frozen? ⟨w.heap.size, o, none⟩ = false := fun o => by go_simp
  have hs0 : w.heap.size + 1 <= ((w.alloc (.cells #[.int .i64 0, .string ⟨#[]⟩, .int .i64 0, .slice none 0 0, .slice none 0 0] 76)).alloc (.cells #[] 9)).heap.size := by simp
  have HLIT := zH hlit
  have HB0 := zH hb0
  have HZ0 := zH hz
  have HF0 := zH hf0
  have HS0 := zH hs0
  clear hlit hb0 hz hf0 hs0
  go_enter Tryz.func74, Tryz.ntmps74
  go_wp2_with (at_builtin; go_must (refine zan rfl _ _ rfl (w.heap.size + 1) _ [] rfl HLIT.out (.slice pa ps.length pc) ps l1 rfl (HP.out.below HB0.out) FP.out (by simp; omega) HS0.out ?_))
  intro v1 w1 hown hlow
  have HO1 := zH hown
  have HB1 := zH (HB0.out.trans (hlow.mono (by omega)))
  have HZ1 := zH (cells_low HZ0.out hlow (by omega))
  have HF1 := zH (free_low HF0.out hlow (by omega))
  have HS1 := zH (Nat.le_trans HS0.out hlow.size)
  clear hown hlow HLIT HB0 HZ0 HF0 HS0
  go_wp2_with (at_builtin; go_must (refine zan rfl _ _ rfl (w.heap.size + 1) _ ps rfl HO1.out (.slice ta ts.length tc) ts l2 rfl (HT.out.below HB1.out) FT.out (by omega) HS1.out ?_))
  intro v2 w2 hown hlow
  have HB2 := zH (HB1.out.trans (hlow.mono (by omega)))
  have hz2 := cells_low HZ1.out hlow (by omega)
  have fz := free_low HF1.out hlow (by omega)
  have z0 := hz2.at 0 (.int 0) rfl
  have z1 := hz2.at 1 (.str ⟨#[]⟩) rfl
  have z2 := hz2.at 2 (.int 0) rfl
  have z3 := hz2.at 3 (.row 0 1 (.slice none 0 0) []) rfl
  have z4 := hz2.at 4 (.row 0 5 (.slice none 0 0) []) rfl
  simp only [val] at z0 z1 z2 z3 z4
  obtain ⟨ra, rc, rfl⟩ := Kit.row_form hown
  have HO2 : Hid (w2.ownsRow (w.heap.size + 1) 9 1 (.slice ra (ps.length + ts.length) rc) (ps ++ ts).length ((ps ++ ts).map Value.string)) := zH (by simpa using hown)
  clear hown hlow hz2 HO1 HB1 HZ1 HF1 HS1
  go_wp2_with fail
  have hbf := puts_below (zL w.heap.size) [.int .i64 8, .string ⟨#[]⟩, .int .i64 ps.length, .slice ra (ps.length + ts.length) rc, .slice ka ks.length kc] w w2 0 HB2.out
  have hof : (puts w2 w.heap.size 0 [.int .i64 8, .string ⟨#[]⟩, .int .i64 ps.length, .slice ra (ps.length + ts.length) rc, .slice ka ks.length kc]).ownsRow (w.heap.size + 1) 9 1 (.slice ra (ps.length + ts.length) rc) (ps ++ ts).length ((ps ++ ts).map Value.string) := by
    refine own_frame HO2.out fun b hb => ?_
    have h1 := (own_blk HO2.out b hb).1
    simp only [puts]
    repeat rw [Below.heap_setCell _ _ _ _ (fun e => by have : b = w.heap.size := e; omega)]
  refine bodyPost_ret (v := .agg #[.int .i64 8, .string ⟨#[]⟩, .int .i64 ps.length, .slice ra (ps.length + ts.length) rc, .slice ka ks.length kc]) (by simp [results, Tryz.results74, go_sem, *]) rfl ⟨ra, rc, rfl, ?_, hbf⟩
  have hx : ∀ x, x ∈ ps ++ ts -> x.size <= maxLen := fun x hx => by
    obtain ⟨_, _, _, _, s1, _⟩ := HP.out
    obtain ⟨_, _, _, _, s2, _⟩ := HT.out
    rcases List.mem_append.1 hx with h1 | h1
    · exact s1 x h1
    · exact s2 x h1
  have hr : Row (w.heap.size + 1) _ 9 1 (.slice ra (ps.length + ts.length) rc) (strs (ps ++ ts)) := strs_row hof hx
  have ho := (row_iff.2 hr).mono (base' := w.heap.size) (by omega)
  exact zav (t := 9) (xs := ps ++ ts) (zaz.1 ho.holds (.row 9 1 (.slice ra (ps.length + ts.length) rc) (strs (ps ++ ts))) (by simp))
end Data
end Go.Proofs.YtnlgdkfenipmfaaGreatDoor
