/-
  An argument of a type of data reads as data of that type: over any program whose table of types is laid out so.
  How the laws' own types of data lie in this program's table of types.
-/
import Derived.Test.YtekeondbbikkpaaGreatBToClassInfo
import Derived.OpenShut
import Derived.SliceStrings
import Derived.ChangeArms
import Derived.Deep.Fields
namespace Go.Proofs.YtekeondbbikkpaaGreat.Data
open Go.ChangeShapes Go.WideShapes Go.RowKit Go.Deep
open Strs
inductive Lay (P : Program) (tid : Nat → TypeId) (ok : Nat → Bool) : TypeId → List Ty → Prop
  | int (t : TypeId) (h : P.underlying t = some (.int .i64)) : Lay P tid ok t [.int]
  | str (t : TypeId) (h : P.underlying t = some .string) : Lay P tid ok t [.str]
  | bool (t : TypeId) (h : P.underlying t = some .bool) : Lay P tid ok t [.bool]
  | slice (t : TypeId) (i : Nat) (hi : ok i = true) (h : P.underlying t = some (.slice (tid i))) : Lay P tid ok t [.row i]
  | struct (t : TypeId) (fs : Array Field) (tss : List (List Ty)) (ts : List Ty) (h : P.underlying t = some (.struct fs)) (hl : tss.length = fs.size) (hc : P.cellsOf t = ts.length) (he : ts = tss.flatten)
      (hf : ∀ (k : Nat) (f : Field) (us : List Ty), fs[k]? = some f → tss[k]? = some us → Lay P tid ok f.type us)
      (hg : ∀ (k : Nat) (f : Field) (us : List Ty), fs[k]? = some f → tss[k]? = some us → f.offset = (tss.take k).flatten.length ∧ P.cellsOf f.type = us.length) : Lay P tid ok t ts
theorem listOf {α : Type} {Q : Nat → α → Prop} (n : Nat) (h : ∀ i, i < n → ∃ e, Q i e) : ∃ l : List α, l.length = n ∧ ∀ i (h : i < l.length), Q i l[i] := by
  induction n with
  | zero => exact ⟨[], rfl, fun i h => by simp at h⟩
  | succ n ih =>
    obtain ⟨l, hl, hp⟩ := ih fun i hi => h i (by omega)
    obtain ⟨e, he⟩ := h n (by omega)
    refine ⟨l ++ [e], by simp [hl], fun i hi => ?_⟩
    by_cases hin : i < l.length
    · rw [List.getElem_append_left hin]; exact hp i hin
    · have : i = n := by simp at hi; omega
      subst this
      rw [List.getElem_append_right (by omega)]
      simpa using he
theorem plainOf {w : World} {a : Addr} {v : Value} (h : w.cell? (a.add 0) = some v) : a = ⟨a.block, a.off, none⟩ := by
  obtain ⟨b, off, spot⟩ := a
  have := World.cell?_spot h
  have hs : spot = none := by simpa [Addr.add] using this
  rw [hs]
theorem addPlain (b off k : Nat) : (⟨b, off, none⟩ : Addr).add k = ⟨b, off + k, none⟩ := by unfold Addr.add; split <;> simp_all
theorem fitL_app {a b : List Ty} {x y : List P} (h : FitL a x) (k : FitL b y) : FitL (a ++ b) (x ++ y) := by
  induction a generalizing x with
  | nil => cases h; exact k
  | cons t a ih =>
    cases h with
    | cons _ _ p ps h1 h2 => exact FitL.cons _ _ _ _ h1 (ih h2)
theorem pieces {lo : Nat} {w : World} {tss : List (List Ty)} : ∀ (cs : List Value), cs.length = tss.flatten.length →
    (∀ (k : Nat) (us : List Ty), tss[k]? = some us → ∃ ds, (cs.drop (tss.take k).flatten.length).take us.length = vals ds ∧ FitL us (erases ds) ∧ Holdss lo w ds) → ∃ ds, cs = vals ds ∧ FitL tss.flatten (erases ds) ∧ Holdss lo w ds := by
  induction tss with
  | nil =>
    intro cs hl _
    have : cs = [] := List.eq_nil_of_length_eq_zero (by simpa using hl)
    exact ⟨[], by rw [this]; rfl, by rw [erases]; exact FitL.nil, trivial⟩
  | cons ts tss ih =>
    intro cs hl h
    obtain ⟨d0, e0, f0, h0⟩ := h 0 ts rfl
    simp only [List.take_zero, List.flatten_nil, List.length_nil, List.drop_zero] at e0
    obtain ⟨d1, e1, f1, h1⟩ := ih (cs.drop ts.length) (by simp only [List.flatten_cons, List.length_append] at hl; rw [List.length_drop]; omega) fun k us hk => by
      obtain ⟨ds, e, f, hh⟩ := h (k + 1) us (by simpa using hk)
      refine ⟨ds, ?_, f, hh⟩
      rw [← e, List.drop_drop]
      simp only [List.take_succ_cons, List.flatten_cons, List.length_append]
    refine ⟨d0 ++ d1, ?_, ?_, Holdss.append.2 ⟨h0, h1⟩⟩
    · rw [vals_append, ← e0, ← e1, List.take_append_drop]
    · rw [erases_append]
      exact fitL_app f0 f1
theorem flatten_at {α : Type} {K : Nat} : ∀ (l : List (List α)), (∀ x, x ∈ l → x.length = K) → ∀ (j q : Nat) (hj : j < l.length), q < K → l.flatten[j * K + q]? = l[j][q]? := by
  intro l
  induction l with
  | nil => intro _ j q hj; simp at hj
  | cons x xs ih =>
    intro h j q hj hq
    have hx := h x (by simp)
    rw [List.flatten_cons]
    cases j with
    | zero => rw [Nat.zero_mul, Nat.zero_add, List.getElem?_append_left (by omega)]; rfl
    | succ j =>
      rw [List.getElem?_append_right (by rw [hx, Nat.succ_mul]; omega), hx, show (j + 1) * K + q - K = j * K + q by rw [Nat.succ_mul]; omega]
      exact ih (fun y hy => h y (by simp [hy])) j q (by simpa using hj) hq
theorem flatten_len {α : Type} {K : Nat} : ∀ (l : List (List α)), (∀ x, x ∈ l → x.length = K) → l.flatten.length = l.length * K := by
  intro l
  induction l with
  | nil => intro _; simp
  | cons x xs ih =>
    intro h
    rw [List.flatten_cons, List.length_append, ih fun y hy => h y (by simp [hy]), h x (by simp), List.length_cons, Nat.succ_mul, Nat.add_comm]
theorem flatten_fit {i : Nat} : ∀ (l : List (List D)), (∀ x, x ∈ l → FitL (env i) (erases x)) → FitRow i (erases l.flatten) := by
  intro l
  induction l with
  | nil => intro _; exact FitRow.nil i
  | cons x xs ih =>
    intro h
    rw [List.flatten_cons, erases_append]
    exact FitRow.cons i _ _ _ rfl (h x (by simp)) (ih fun y hy => h y (by simp [hy]))
section
variable {H : Type} {enc : TypeId × Value → H} {P : Program} {w : World} {spare : Nat → Bool} {held : Bool} {tid : Nat → TypeId} {ok : Nat → Bool}
theorem open_cells (hl : ∀ i, ok i = true → Lay P tid ok (tid i) (env i) ∧ P.cellsOf (tid i) = (env i).length ∧ 0 < (env i).length) :
    ∀ (fuel : Nat) (t : TypeId) (ts : List Ty), Lay P tid ok t ts → ∀ (cs : List Value) (x : DataW H × List MemPlace), DataW.trod enc P w 0 spare held fuel t cs = some x → ∃ ds, cs = vals ds ∧ FitL ts (erases ds) ∧ Holdss 0 w ds := by
  intro fuel
  induction fuel using Nat.strongRecOn with
  | _ fuel ih =>
  intro t ts hlay cs x h
  cases hlay with
  | int _ hu =>
    obtain ⟨k, hk, -, wk⟩ := DataW.trod_int hu h
    refine ⟨[.int k], hk, by rw [erases, erases, erase]; exact FitL.cons _ _ _ _ (Fit.int _) FitL.nil, ?_⟩
    rw [Holdss, Holds]
    exact ⟨wk, trivial⟩
  | str _ hu =>
    obtain ⟨s, hk, -, wk⟩ := DataW.trod_string hu h
    refine ⟨[.str s], hk, by rw [erases, erases, erase]; exact FitL.cons _ _ _ _ (Fit.str _) FitL.nil, ?_⟩
    rw [Holdss, Holds]
    exact ⟨wk, trivial⟩
  | bool _ hu =>
    obtain ⟨b, hk, -⟩ := DataW.trod_bool hu h
    refine ⟨[.bool b], hk, by rw [erases, erases, erase]; exact FitL.cons _ _ _ _ (Fit.bool _) FitL.nil, ?_⟩
    rw [Holdss, Holds]
    exact ⟨trivial, trivial⟩
  | slice _ i hi hu =>
    obtain ⟨h1, h2, h3⟩ := hl i hi
    rcases DataW.trod_slice hu h with ⟨h0, _⟩ | ⟨a, len, cap, elems, rest, n2, hn2, h0, _, _, hlc, hcm, hel, hii, _⟩
    · refine ⟨[.row (tid i) (env i).length (.slice none 0 0) []], h0, ?_, ?_⟩
      · rw [erases, erases, erase, erases]
        exact FitL.cons _ _ _ _ (Fit.row _ _ _ rfl (FitRow.nil i)) FitL.nil
      · rw [Holdss, Holds]
        exact ⟨⟨⟨none, 0, 0, rfl, h3, by simp, Nat.le_refl _, by unfold maxLen; omega, fun hp => by omega⟩, trivial⟩, trivial⟩
    · rw [h2] at hii
      have each : ∀ j, j < len → ∃ ds, (∀ q, q < (env i).length → w.cell? ((a.add (j * (env i).length)).add q) = (vals ds)[q]?) ∧ FitL (env i) (erases ds) ∧ Holdss 0 w ds := by
        intro j hj
        have h4 := hii j hj
        rw [List.getElem?_eq_getElem (by omega)] at h4
        obtain ⟨cs', hc, ht⟩ := Option.bind_eq_some_iff.1 h4
        obtain ⟨ds, rfl, hf, hh⟩ := ih n2 (by omega) _ _ h1 cs' _ ht
        obtain ⟨_, _, hat⟩ := World.cells?_some hc
        exact ⟨ds, hat, hf, hh⟩
      obtain ⟨l, hll, hlp⟩ := listOf len each
      have hlen : ∀ x, x ∈ l → x.length = (env i).length := by
        intro x hx
        obtain ⟨j, hj, rfl⟩ := List.getElem_of_mem hx
        have := fitL_len (hlp j hj).2.1
        rw [erases_len] at this
        exact this
      have hfl := flatten_len l hlen
      rw [hll] at hfl
      refine ⟨[.row (tid i) (env i).length (.slice (some a) len cap) l.flatten], h0, ?_, ?_⟩
      · rw [erases, erases, erase]
        refine FitL.cons _ _ _ _ (Fit.row _ _ _ rfl (flatten_fit l fun x hx => ?_)) FitL.nil
        obtain ⟨j, hj, rfl⟩ := List.getElem_of_mem hx
        exact (hlp j hj).2.1
      · rw [Holdss, Holds]
        refine ⟨⟨⟨some a, len, cap, rfl, h3, hfl, hlc, hcm, fun hp => ?_⟩, ?_⟩, trivial⟩
        · have hp0 : a = ⟨a.block, a.off, none⟩ := by
            have h5 := (hlp 0 (by omega)).1 0 h3
            have h6 := hlen l[0] (List.getElem_mem _)
            rw [Nat.zero_mul, vals_get _ 0 (by omega)] at h5
            exact plainOf (v := val (l[0][0]'(by omega))) (by simpa [Addr.add] using h5)
          refine ⟨a.block, a.off, by rw [← hp0], Nat.zero_le _, fun idx hidx => ?_⟩
          have hq : idx % (env i).length < (env i).length := Nat.mod_lt _ h3
          have hdm := Nat.div_add_mod' idx (env i).length
          have hj : idx / (env i).length < len := by
            rw [hfl] at hidx
            exact Nat.div_lt_of_lt_mul (by rw [Nat.mul_comm]; exact hidx)
          have h5 := (hlp (idx / (env i).length) (by omega)).1 (idx % (env i).length) hq
          have h6 := flatten_at l hlen (idx / (env i).length) (idx % (env i).length) (by omega) hq
          rw [hp0, addPlain, addPlain, Nat.add_assoc, hdm] at h5
          rw [hdm, List.getElem?_eq_getElem hidx] at h6
          rw [h5, vals, List.getElem?_map, ← h6]
          rfl
        · rw [holdss_iff]
          intro d hd
          obtain ⟨x, hx, hdx⟩ := List.mem_flatten.1 hd
          obtain ⟨j, hj, rfl⟩ := List.getElem_of_mem hx
          exact holdss_iff.1 (hlp j hj).2.2 d hdx
  | struct _ fs tss _ hu hls hcl he hf hof =>
    obtain ⟨xs, n, rfl, -, hlen, hxl, hg⟩ := DataW.trod_struct hu h
    rw [he]
    refine pieces cs (by rw [hlen, hcl, he]) fun k us hk => ?_
    have hkl : k < fs.size := by
      have := (List.getElem?_eq_some_iff.1 hk).1
      omega
    have g1 := hf k fs[k] us (by simp [hkl]) hk
    obtain ⟨g2, g3⟩ := hof k fs[k] us (by simp [hkl]) hk
    have h4 := hg k fs[k] (by simp [hkl])
    rw [List.getElem?_eq_getElem (by omega), g2, g3] at h4
    exact ih n (by omega) _ _ g1 _ _ h4
theorem open_data (hl : ∀ i, ok i = true → Lay P tid ok (tid i) (env i) ∧ P.cellsOf (tid i) = (env i).length ∧ 0 < (env i).length) {fs : Array Field} {i : Nat} (hi : ok i = true) (hu : P.underlying (tid i) = some (.struct fs)) {r : Reach} {b0 : Nat} {v : Value} {d : DataW H} {p : List MemPlace} (hv : Value.okWide P w r b0 (tid i) v) (h : DataW.Trod enc P w 0 spare held (tid i) v d p) :
    ∃ ds, v = agg ds ∧ FitL (env i) (erases ds) ∧ Holdss 0 w ds := by
  obtain ⟨cs, rfl, _⟩ := okWide_struct hu hv
  obtain ⟨fuel, hf⟩ := h
  obtain ⟨ds, hds, h1, h2⟩ := open_cells hl fuel _ _ (hl i hi).1 _ _ hf
  refine ⟨ds, ?_, h1, h2⟩
  unfold agg
  rw [← hds]
  rfl
end
end Go.Proofs.YtekeondbbikkpaaGreat.Data

namespace Go.Proofs.YtekeondbbikkpaaGreat.Data
open Go.RowKit
open Strs
def tid : Nat → TypeId
  | 0 => 9
  | 1 => 3
  | 6 => 66
  | 7 => 26
  | 8 => 28
  | 9 => 30
  | _ => 0
def ok : Nat → Bool
  | 0 => true
  | 1 => true
  | 6 => true
  | 7 => true
  | 8 => true
  | 9 => true
  | _ => false
theorem lay_int : Lay Tryz.prog tid ok 3 [.int] := Lay.int _ Tryz.underlying3
theorem lay_str : Lay Tryz.prog tid ok 9 [.str] := Lay.str _ Tryz.underlying9
theorem lay_bool : Lay Tryz.prog tid ok 4 [.bool] := Lay.bool _ Tryz.underlying4
theorem lay_sString : Lay Tryz.prog tid ok 64 [.row 0] := Lay.slice _ 0 rfl Tryz.underlying64
theorem lay_sInt : Lay Tryz.prog tid ok 80 [.row 1] := Lay.slice _ 1 rfl Tryz.underlying80
theorem lay_sClassInfo : Lay Tryz.prog tid ok 22 [.row 6] := Lay.slice _ 6 rfl Tryz.underlying22
theorem lay_sCore : Lay Tryz.prog tid ok 24 [.row 7] := Lay.slice _ 7 rfl Tryz.underlying24
theorem lay_sRoutine : Lay Tryz.prog tid ok 23 [.row 8] := Lay.slice _ 8 rfl Tryz.underlying23
theorem lay_ClassInfo : Lay Tryz.prog tid ok 66 (env 6) := by
  refine Lay.struct _ _ [[.str], [.int], [.row 0]] _ Tryz.underlying66 rfl (by kernel_rfl) rfl ?_ ?_
  · intro k f us hf hu
    have hk : k < 3 := (List.getElem?_eq_some_iff.1 hu).1
    match k, hk, hf, hu with
    | 0, _, hf, hu => obtain rfl := Option.some.inj hf; obtain rfl := Option.some.inj hu; exact lay_str
    | 1, _, hf, hu => obtain rfl := Option.some.inj hf; obtain rfl := Option.some.inj hu; exact lay_int
    | 2, _, hf, hu => obtain rfl := Option.some.inj hf; obtain rfl := Option.some.inj hu; exact lay_sString
  · intro k f us hf hu
    have hk : k < 3 := (List.getElem?_eq_some_iff.1 hu).1
    match k, hk, hf, hu with
    | 0, _, hf, hu => obtain rfl := Option.some.inj hf; obtain rfl := Option.some.inj hu; exact ⟨rfl, by kernel_rfl⟩
    | 1, _, hf, hu => obtain rfl := Option.some.inj hf; obtain rfl := Option.some.inj hu; exact ⟨rfl, by kernel_rfl⟩
    | 2, _, hf, hu => obtain rfl := Option.some.inj hf; obtain rfl := Option.some.inj hu; exact ⟨rfl, by kernel_rfl⟩
theorem lay_Core : Lay Tryz.prog tid ok 26 (env 7) := by
  refine Lay.struct _ _ [[.int], [.str], [.int], [.int], [.row 7]] _ Tryz.underlying26 rfl (by kernel_rfl) rfl ?_ ?_
  · intro k f us hf hu
    have hk : k < 5 := (List.getElem?_eq_some_iff.1 hu).1
    match k, hk, hf, hu with
    | 0, _, hf, hu => obtain rfl := Option.some.inj hf; obtain rfl := Option.some.inj hu; exact lay_int
    | 1, _, hf, hu => obtain rfl := Option.some.inj hf; obtain rfl := Option.some.inj hu; exact lay_str
    | 2, _, hf, hu => obtain rfl := Option.some.inj hf; obtain rfl := Option.some.inj hu; exact lay_int
    | 3, _, hf, hu => obtain rfl := Option.some.inj hf; obtain rfl := Option.some.inj hu; exact lay_int
    | 4, _, hf, hu => obtain rfl := Option.some.inj hf; obtain rfl := Option.some.inj hu; exact lay_sCore
  · intro k f us hf hu
    have hk : k < 5 := (List.getElem?_eq_some_iff.1 hu).1
    match k, hk, hf, hu with
    | 0, _, hf, hu => obtain rfl := Option.some.inj hf; obtain rfl := Option.some.inj hu; exact ⟨rfl, by kernel_rfl⟩
    | 1, _, hf, hu => obtain rfl := Option.some.inj hf; obtain rfl := Option.some.inj hu; exact ⟨rfl, by kernel_rfl⟩
    | 2, _, hf, hu => obtain rfl := Option.some.inj hf; obtain rfl := Option.some.inj hu; exact ⟨rfl, by kernel_rfl⟩
    | 3, _, hf, hu => obtain rfl := Option.some.inj hf; obtain rfl := Option.some.inj hu; exact ⟨rfl, by kernel_rfl⟩
    | 4, _, hf, hu => obtain rfl := Option.some.inj hf; obtain rfl := Option.some.inj hu; exact ⟨rfl, by kernel_rfl⟩
theorem lay_Routine : Lay Tryz.prog tid ok 28 (env 8) := by
  refine Lay.struct _ _ [[.str], [.int], [.bool], [.int], [.int], env 7] _ Tryz.underlying28 rfl (by kernel_rfl) rfl ?_ ?_
  · intro k f us hf hu
    have hk : k < 6 := (List.getElem?_eq_some_iff.1 hu).1
    match k, hk, hf, hu with
    | 0, _, hf, hu => obtain rfl := Option.some.inj hf; obtain rfl := Option.some.inj hu; exact lay_str
    | 1, _, hf, hu => obtain rfl := Option.some.inj hf; obtain rfl := Option.some.inj hu; exact lay_int
    | 2, _, hf, hu => obtain rfl := Option.some.inj hf; obtain rfl := Option.some.inj hu; exact lay_bool
    | 3, _, hf, hu => obtain rfl := Option.some.inj hf; obtain rfl := Option.some.inj hu; exact lay_int
    | 4, _, hf, hu => obtain rfl := Option.some.inj hf; obtain rfl := Option.some.inj hu; exact lay_int
    | 5, _, hf, hu => obtain rfl := Option.some.inj hf; obtain rfl := Option.some.inj hu; exact lay_Core
  · intro k f us hf hu
    have hk : k < 6 := (List.getElem?_eq_some_iff.1 hu).1
    match k, hk, hf, hu with
    | 0, _, hf, hu => obtain rfl := Option.some.inj hf; obtain rfl := Option.some.inj hu; exact ⟨rfl, by kernel_rfl⟩
    | 1, _, hf, hu => obtain rfl := Option.some.inj hf; obtain rfl := Option.some.inj hu; exact ⟨rfl, by kernel_rfl⟩
    | 2, _, hf, hu => obtain rfl := Option.some.inj hf; obtain rfl := Option.some.inj hu; exact ⟨rfl, by kernel_rfl⟩
    | 3, _, hf, hu => obtain rfl := Option.some.inj hf; obtain rfl := Option.some.inj hu; exact ⟨rfl, by kernel_rfl⟩
    | 4, _, hf, hu => obtain rfl := Option.some.inj hf; obtain rfl := Option.some.inj hu; exact ⟨rfl, by kernel_rfl⟩
    | 5, _, hf, hu => obtain rfl := Option.some.inj hf; obtain rfl := Option.some.inj hu; exact ⟨rfl, by kernel_rfl⟩
theorem lay_System : Lay Tryz.prog tid ok 30 (env 9) := by
  refine Lay.struct _ _ [[.row 6], [.row 8], env 8] _ Tryz.underlying30 rfl (by kernel_rfl) rfl ?_ ?_
  · intro k f us hf hu
    have hk : k < 3 := (List.getElem?_eq_some_iff.1 hu).1
    match k, hk, hf, hu with
    | 0, _, hf, hu => obtain rfl := Option.some.inj hf; obtain rfl := Option.some.inj hu; exact lay_sClassInfo
    | 1, _, hf, hu => obtain rfl := Option.some.inj hf; obtain rfl := Option.some.inj hu; exact lay_sRoutine
    | 2, _, hf, hu => obtain rfl := Option.some.inj hf; obtain rfl := Option.some.inj hu; exact lay_Routine
  · intro k f us hf hu
    have hk : k < 3 := (List.getElem?_eq_some_iff.1 hu).1
    match k, hk, hf, hu with
    | 0, _, hf, hu => obtain rfl := Option.some.inj hf; obtain rfl := Option.some.inj hu; exact ⟨rfl, by kernel_rfl⟩
    | 1, _, hf, hu => obtain rfl := Option.some.inj hf; obtain rfl := Option.some.inj hu; exact ⟨rfl, by kernel_rfl⟩
    | 2, _, hf, hu => obtain rfl := Option.some.inj hf; obtain rfl := Option.some.inj hu; exact ⟨rfl, by kernel_rfl⟩
theorem lays : ∀ i, ok i = true → Lay Tryz.prog tid ok (tid i) (env i) ∧ Tryz.prog.cellsOf (tid i) = (env i).length ∧ 0 < (env i).length := by
  intro i h
  unfold ok at h
  split at h
  · exact ⟨lay_str, by kernel_rfl, by decide⟩
  · exact ⟨lay_int, by kernel_rfl, by decide⟩
  · exact ⟨lay_ClassInfo, by kernel_rfl, by decide⟩
  · exact ⟨lay_Core, by kernel_rfl, by decide⟩
  · exact ⟨lay_Routine, by kernel_rfl, by decide⟩
  · exact ⟨lay_System, by kernel_rfl, by decide⟩
  · cases h
end Go.Proofs.YtekeondbbikkpaaGreat.Data
