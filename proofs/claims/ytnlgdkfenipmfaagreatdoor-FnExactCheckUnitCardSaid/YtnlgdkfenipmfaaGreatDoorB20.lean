/-
  CheckMath ChkAt ChkBut
-/
import Derived.Test.YtnlgdkfenipmfaaGreatDoorB19
namespace Go.Proofs.YtnlgdkfenipmfaaGreatDoor.Chk
open Go.RowKit
open Strs Tree Go.Proofs.YtnlgdkfenipmfaaGreatDoor.Data
def tSuper : ByteArray := ⟨#[115, 117, 112, 101, 114]⟩
def unknown (n : ByteArray) : ByteArray := ⟨#[110, 97, 109, 101, 32]⟩ ++ n ++ ⟨#[32, 105, 115, 32, 117, 110, 107, 110, 111, 119, 110]⟩
def inUse (n : ByteArray) : ByteArray := ⟨#[110, 97, 109, 101, 32]⟩ ++ n ++ ⟨#[32, 105, 115, 32, 105, 110, 32, 117, 115, 101]⟩
def notAssigned (n : ByteArray) : ByteArray := ⟨#[110, 97, 109, 101, 32]⟩ ++ n ++ ⟨#[32, 99, 97, 110, 32, 110, 111, 116, 32, 98, 101, 32, 97, 115, 115, 105, 103, 110, 101, 100]⟩
def outside : ByteArray := ⟨#[115, 117, 112, 101, 114, 32, 115, 116, 97, 110, 100, 115, 32, 111, 117, 116, 115, 105, 100, 101, 32, 111, 102, 32, 97, 32, 99, 108, 97, 115, 115]⟩
def classThere (n : ByteArray) : ByteArray := ⟨#[99, 108, 97, 115, 115, 32]⟩ ++ n ++ ⟨#[32, 105, 115, 32, 116, 104, 101, 114, 101, 32, 97, 108, 114, 101, 97, 100, 121]⟩
def notExtended (n : ByteArray) : ByteArray := ⟨#[99, 108, 97, 115, 115, 32]⟩ ++ n ++ ⟨#[32, 99, 97, 110, 32, 110, 111, 116, 32, 98, 101, 32, 101, 120, 116, 101, 110, 100, 101, 100]⟩
def fieldUse (n : ByteArray) : ByteArray := ⟨#[102, 105, 101, 108, 100, 32]⟩ ++ n ++ ⟨#[32, 105, 115, 32, 105, 110, 32, 117, 115, 101]⟩
def manyFields (n : ByteArray) : ByteArray := ⟨#[99, 108, 97, 115, 115, 32]⟩ ++ n ++ ⟨#[32, 104, 97, 115, 32, 116, 111, 111, 32, 109, 97, 110, 121, 32, 102, 105, 101, 108, 100, 115]⟩
def methodThere (n : ByteArray) : ByteArray := ⟨#[109, 101, 116, 104, 111, 100, 32]⟩ ++ n ++ ⟨#[32, 105, 115, 32, 116, 104, 101, 114, 101, 32, 97, 108, 114, 101, 97, 100, 121]⟩
def first (a b : ByteArray) : ByteArray := if a.data.toList = [] then b else a
theorem first_some {a : ByteArray} (h : a.data.toList ≠ []) (b : ByteArray) : first a b = a := if_neg h
theorem first_assoc (a b c : ByteArray) : first (first a b) c = first a (first b c) := by
  unfold first
  by_cases h : a.data.toList = []
  · rw [if_pos h, if_pos h]
  · rw [if_neg h, if_neg h, if_neg h]
abbrev Sc := ByteArray -> Nat
def put (σ : Sc) (n : ByteArray) (v : Nat) : Sc := fun m => if m = n then v else σ m
def declare (σ : Sc) (params : Int) : Nat -> List ByteArray -> ByteArray × Sc
  | _, [] => (ByteArray.empty, σ)
  | i, n :: ns => if σ n ≠ 0 then (inUse n, σ) else declare (put σ n (if (i : Int) < params then 2 else 3)) params (i + 1) ns
mutual
def chk (own : Bool) (σ : Sc) : E -> ByteArray
  | .mk k t n ns ks =>
    if k = 4 then (if σ t < 2 then unknown t else ByteArray.empty)
    else if k = 5 then (if σ t ≠ 3 then notAssigned t else chks own σ 0 ks)
    else if k = 6 then chks own σ 1 ks
    else if k = 7 then chks own σ 2 ks
    else if k = 8 then first (declare σ n 0 ns).1 (chks own (declare σ n 0 ns).2 0 ks)
    else chks own σ 0 ks
def chks (own : Bool) (σ : Sc) : Nat -> List E -> ByteArray
  | _, [] => ByteArray.empty
  | 0, e :: es => first (chk own σ e) (chks own σ 0 es)
  | 1, e :: es => if e.kind = 4 /\ e.text = tSuper then (if own then chks own σ 0 es else outside) else first (chk own σ e) (chks own σ 0 es)
  | 2, e :: es => first (chk own σ e) (chks own σ 3 es)
  | _, .mk _ _ _ _ ks :: es => first (chks own σ 0 ks) (chks own σ 3 es)
end
def five : List ByteArray := [⟨#[115, 101, 108, 102]⟩, ⟨#[115, 117, 112, 101, 114]⟩, ⟨#[110, 105, 108]⟩, ⟨#[116, 114, 117, 101]⟩, ⟨#[102, 97, 108, 115, 101]⟩]
def four : List ByteArray := [⟨#[115, 101, 108, 102]⟩, ⟨#[110, 105, 108]⟩, ⟨#[116, 114, 117, 101]⟩, ⟨#[102, 97, 108, 115, 101]⟩]
def tText : ByteArray := ⟨#[116, 101, 120, 116]⟩
def index : List ByteArray -> ByteArray -> Int
  | [], _ => -1
  | x :: xs, n => if x = n then 0 else if index xs n < 0 then -1 else index xs n + 1
theorem index_cases (xs : List ByteArray) (n : ByteArray) : (index xs n = -1 /\ n ∉ xs) \/ ∃ i, ∃ h : i < xs.length, index xs n = (i : Int) /\ xs[i] = n /\ ∀ j (hj : j < i), xs[j]'(by omega) ≠ n := by
  induction xs with
  | nil => left; exact ⟨rfl, by simp⟩
  | cons x xs ih =>
    rw [index]
    by_cases hx : x = n
    · right
      refine ⟨0, by simp, by rw [if_pos hx]; rfl, by simpa using hx, fun j hj => by omega⟩
    · rw [if_neg hx]
      rcases ih with ⟨h1, h2⟩ | ⟨i, hi, h1, h2, h3⟩
      · left
        rw [h1, if_pos (by omega)]
        exact ⟨rfl, by simp [h2, Ne.symm hx]⟩
      · right
        rw [h1, if_neg (by omega)]
        refine ⟨i + 1, by simpa using hi, by omega, by simpa using h2, fun j hj => ?_⟩
        cases j with
        | zero => simpa using hx
        | succ j => simpa using h3 j (by omega)
theorem index_no {xs : List ByteArray} {n : ByteArray} (h : n ∉ xs) : index xs n = -1 := by
  rcases index_cases xs n with ⟨h1, _⟩ | ⟨i, hi, _, h2, _⟩
  · exact h1
  · exact absurd (h2 ▸ List.getElem_mem hi) h
theorem index_at {xs : List ByteArray} {n : ByteArray} {i : Nat} (hi : i < xs.length) (he : xs[i] = n) (h : n ∉ xs.take i) : index xs n = i := by
  rcases index_cases xs n with ⟨_, h2⟩ | ⟨k, hk, h1, h2, h3⟩
  · exact absurd (he ▸ List.getElem_mem hi) h2
  · have : k = i := by
      by_cases hki : k < i
      · exact absurd (List.mem_take_iff_getElem.2 ⟨k, by omega, h2⟩) h
      · by_cases hik : i < k
        · exact absurd he (h3 i hik)
        · omega
    rw [h1, this]
theorem index_mem {xs : List ByteArray} {n : ByteArray} : 0 <= index xs n ↔ n ∈ xs := by
  rcases index_cases xs n with ⟨h1, h2⟩ | ⟨k, hk, h1, h2, h3⟩
  · rw [h1]
    constructor
    · intro h; omega
    · intro h; exact absurd h h2
  · rw [h1]
    exact ⟨fun _ => h2 ▸ List.getElem_mem hk, fun _ => by omega⟩
theorem index_lt (xs : List ByteArray) (n : ByteArray) : -1 <= index xs n /\ index xs n < xs.length := by
  rcases index_cases xs n with ⟨h1, h2⟩ | ⟨k, hk, h1, h2, h3⟩ <;> omega
def cnames (cs : List C) : List ByteArray := cs.map C.name
def cls (cs : List C) (n : ByteArray) : Int := if 0 <= index Builtin.names n then index Builtin.names n else if 0 <= index (cnames cs) n then 16 + index (cnames cs) n else -1
def glob (cs : List C) : Sc := fun n => if decide (0 <= cls cs n) || Tok.has four n then 2 else if n = tSuper then 1 else 0
def use (cs : List C) (vars fixed fields : List ByteArray) : Sc := fun n => if Tok.has vars n || Tok.has fields n then 3 else if Tok.has fixed n then 2 else glob cs n
theorem ba_of {a b : ByteArray} (e : a.toList = b.toList) : a = b := by
  apply ByteArray.ext
  apply Array.toList_inj.1
  rw [<- ByteArray.toList_eq, <- ByteArray.toList_eq]
  exact e
theorem ba_ne {a b : ByteArray} (h : a ≠ b) : (a.toList == b.toList) = false := by
  rw [beq_eq_false_iff_ne]
  exact fun e => h (ba_of e)
theorem ba_same {a b : ByteArray} (h : a = b) : (a.toList == b.toList) = true := by rw [h]; simp
theorem has_iff {xs : List ByteArray} {n : ByteArray} : Tok.has xs n = true ↔ n ∈ xs := by
  unfold Tok.has
  rw [List.any_eq_true]
  constructor
  · rintro ⟨x, hx, he⟩
    have e : x = n := by
      apply ByteArray.ext
      apply Array.toList_inj.1
      rw [<- ByteArray.toList_eq, <- ByteArray.toList_eq]
      exact LawfulBEq.eq_of_beq he
    exact e ▸ hx
  · intro h
    exact ⟨n, h, by simp⟩
end Go.Proofs.YtnlgdkfenipmfaaGreatDoor.Chk
namespace Go.Proofs.YtnlgdkfenipmfaaGreatDoor
namespace Chk
open Go.RowKit
open Strs Tree Go.Proofs.YtnlgdkfenipmfaaGreatDoor.Data
def MethsAt (lo : Nat) (w : World) (v : Value) (ms : List M) : Prop :=
  ∃ a c, v = .slice a ms.length c /\ (ms.length <= c /\ c <= maxLen) /\ (0 < ms.length -> ∃ b o, a = some ⟨b, o, none⟩ /\ ∀ i m, ms[i]? = some m -> ∃ v2 v3 v4, w.cell? ⟨b, o + i * 5, none⟩ = some (.string m.sel) /\ w.cell? ⟨b, o + i * 5 + 1, none⟩ = some (.bool m.cls) /\
    w.cell? ⟨b, o + i * 5 + 2, none⟩ = some v2 /\ w.cell? ⟨b, o + i * 5 + 3, none⟩ = some v3 /\ w.cell? ⟨b, o + i * 5 + 4, none⟩ = some v4 /\ MAt lo w m v2 v3 v4)
def ClAt (lo : Nat) (w : World) (b o : Nat) (c : C) : Prop :=
  ∃ vf vm, w.cell? ⟨b, o, none⟩ = some (.string c.name) /\ w.cell? ⟨b, o + 1, none⟩ = some (.string c.parent) /\ w.cell? ⟨b, o + 2, none⟩ = some vf /\ w.cell? ⟨b, o + 3, none⟩ = some vm /\ Texts lo w c.fields vf /\ Formed vf c.fields.length /\ MethsAt lo w vm c.methods
def ClsAt (lo : Nat) (w : World) (v : Value) (cs : List C) : Prop :=
  ∃ a c, v = .slice a cs.length c /\ (cs.length <= c /\ c <= maxLen) /\ (0 < cs.length -> ∃ b o, a = some ⟨b, o, none⟩ /\ ∀ i x, cs[i]? = some x -> ClAt lo w b (o + i * 4) x)
theorem MethsAt.below {lo : Nat} {w w' : World} {v : Value} {ms : List M} (h : MethsAt lo w v ms) (hb : Below w.heap.size w w') : MethsAt lo w' v ms := by
  obtain ⟨a, c, rfl, hc, h⟩ := h
  refine ⟨a, c, rfl, hc, fun hp => ?_⟩
  obtain ⟨b, o, rfl, h'⟩ := h hp
  refine ⟨b, o, rfl, fun i m hi => ?_⟩
  obtain ⟨v2, v3, v4, c0, c1, c2, c3, c4, hm⟩ := h' i m hi
  exact ⟨v2, v3, v4, cell_keep hb c0, cell_keep hb c1, cell_keep hb c2, cell_keep hb c3, cell_keep hb c4, hm.below hb⟩
theorem ClAt.below {lo : Nat} {w w' : World} {b o : Nat} {c : C} (h : ClAt lo w b o c) (hb : Below w.heap.size w w') : ClAt lo w' b o c := by
  obtain ⟨vf, vm, c0, c1, c2, c3, h1, h2, h3⟩ := h
  exact ⟨vf, vm, cell_keep hb c0, cell_keep hb c1, cell_keep hb c2, cell_keep hb c3, h1.below hb, h2, h3.below hb⟩
theorem ClsAt.below {lo : Nat} {w w' : World} {v : Value} {cs : List C} (h : ClsAt lo w v cs) (hb : Below w.heap.size w w') : ClsAt lo w' v cs := by
  obtain ⟨a, c, rfl, hc, h⟩ := h
  refine ⟨a, c, rfl, hc, fun hp => ?_⟩
  obtain ⟨b, o, rfl, h'⟩ := h hp
  exact ⟨b, o, rfl, fun i x hi => (h' i x hi).below hb⟩
theorem ClsAt.take {lo : Nat} {w : World} {a : Option Addr} {n c : Nat} {cs : List C} (h : ClsAt lo w (.slice a n c) cs) (i : Nat) (hi : i <= n) : ClsAt lo w (.slice a i c) (cs.take i) := by
  obtain ⟨a', c', e, hc, h⟩ := h
  cases e
  have hl : (cs.take i).length = i := by rw [List.length_take]; omega
  refine ⟨a, c, by rw [hl], by rw [hl]; omega, fun hp => ?_⟩
  obtain ⟨b, o, rfl, h'⟩ := h (by omega)
  refine ⟨b, o, rfl, fun j x hj => h' j x ?_⟩
  rw [List.getElem?_take] at hj
  split at hj
  · exact hj
  · cases hj
theorem meths_open {lo t : Nat} {w : World} {v : Value} {ds : List D} {ms : List M} (hh : Holds lo w (.row t 5 v ds)) (hs : Stricts ds) (he : erases ds = plainMs ms) : MethsAt lo w v ms := by
  rw [Holds] at hh
  obtain ⟨⟨a, n, c, rfl, -, hl, hn, hc, hcell⟩, hd⟩ := hh
  have hlen := congrArg List.length he
  rw [zad, plainMs_len] at hlen
  obtain rfl : n = ms.length := by omega
  refine ⟨a, c, rfl, ⟨hn, hc⟩, fun hp => ?_⟩
  obtain ⟨b, o, rfl, -, hcell⟩ := hcell hp
  refine ⟨b, o, rfl, fun i m hi => ?_⟩
  obtain ⟨hj, rfl⟩ := List.getElem?_eq_some_iff.1 hi
  obtain ⟨A, x, B, e, hal, hx⟩ := meths_at ms ds he i hj
  have hxh : Holdss lo w x := (Holdss.append.1 (Holdss.append.1 (e ▸ hd)).2).1
  have hxs : Stricts x := (Stricts.append.1 (Stricts.append.1 (e ▸ hs)).2).1
  obtain ⟨t2, t3, t4, v2, v3, v4, d4, rfl, h4⟩ := meth_form hx
  obtain ⟨u2, u3, u4, hag, hm⟩ := meth_at hx hxh hxs
  have : v2 = u2 /\ v3 = u3 /\ v4 = u4 := by
    have e1 := congrArg Array.toList (Value.agg.inj hag)
    simp [vals, val] at e1
    exact e1
  obtain ⟨rfl, rfl, rfl⟩ := this
  exact ⟨v2, v3, v4, row_at0 hcell e hal (.str ms[i].sel) rfl, row_at hcell e hal 1 (.bool ms[i].cls) rfl, row_at hcell e hal 2 (.row t2 1 v2 (strs ms[i].params)) rfl, row_at hcell e hal 3 (.row t3 1 v3 (strs ms[i].temps)) rfl, row_at hcell e hal 4 (.row t4 5 v4 d4) rfl, hm⟩
theorem classes_open {lo t : Nat} {w : World} {v : Value} {ds : List D} {cs : List C} (hh : Holds lo w (.row t 4 v ds)) (hs : Stricts ds) (he : erases ds = plainCs cs) : ClsAt lo w v cs := by
  rw [Holds] at hh
  obtain ⟨⟨a, n, c, rfl, -, hl, hn, hc, hcell⟩, hd⟩ := hh
  have hlen := congrArg List.length he
  rw [zad, plainCs_len] at hlen
  obtain rfl : n = cs.length := by omega
  refine ⟨a, c, rfl, ⟨hn, hc⟩, fun hp => ?_⟩
  obtain ⟨b, o, rfl, -, hcell⟩ := hcell hp
  refine ⟨b, o, rfl, fun i c hi => ?_⟩
  obtain ⟨hj, rfl⟩ := List.getElem?_eq_some_iff.1 hi
  obtain ⟨A, x, B, e, hal, hx⟩ := classes_at cs ds he i hj
  have hxh : Holdss lo w x := (Holdss.append.1 (Holdss.append.1 (e ▸ hd)).2).1
  have hxs : Stricts x := (Stricts.append.1 (Stricts.append.1 (e ▸ hs)).2).1
  obtain ⟨t2, t3, v2, v3, d3, rfl, h3⟩ := class_form hx
  simp only [Holdss, and_true] at hxh
  obtain ⟨g0, g1, g2, g3⟩ := hxh
  rw [stricts_iff] at hxs
  have s2 := hxs (.row t2 1 v2 (strs cs[i].fields)) (by simp)
  have s3 := hxs (.row t3 5 v3 d3) (by simp)
  have f2 := formed_val (n := cs[i].fields.length) s2 (by omega) (by rw [strs_len]; omega)
  rw [Strict] at s3
  exact ⟨v2, v3, row_at0 hcell e hal (.str cs[i].name) rfl, row_at hcell e hal 1 (.str cs[i].parent) rfl, row_at hcell e hal 2 (.row t2 1 v2 (strs cs[i].fields)) rfl, row_at hcell e hal 3 (.row t3 5 v3 d3) rfl, zav g2, f2, meths_open g3 s3.2 h3⟩
theorem unit_open {lo : Nat} {w : World} {ds : List D} {u : U} (he : erases ds = plainU u) (hh : Holdss lo w ds) (hs : Stricts ds) :
    ∃ v0 v2 v3 v4, agg ds = .agg #[v0, .string u.main.sel, .bool u.main.cls, v2, v3, v4] /\ ClsAt lo w v0 u.classes /\ MAt lo w u.main v2 v3 v4 := by
  obtain ⟨t0, v0, d0, ms, rfl, h0, h1⟩ := unit_form he
  rw [Holdss] at hh
  rw [Stricts] at hs
  obtain ⟨v2, v3, v4, hag, hm⟩ := meth_at h1 hh.2 hs.2
  have s0 := hs.1
  rw [Strict] at s0
  refine ⟨v0, v2, v3, v4, ?_, classes_open hh.1 s0.2 h0, hm⟩
  have e : vals ms = [.string u.main.sel, .bool u.main.cls, v2, v3, v4] := by
    unfold agg at hag
    have := Value.agg.inj hag
    exact congrArg Array.toList this
  show Value.agg (v0 :: vals ms).toArray = _
  rw [e]
end Chk
namespace Chk
open Go.RowKit
open Strs Tree Go.Proofs.YtnlgdkfenipmfaaGreatDoor.Data
structure But (X : Nat) (w w' : World) : Prop where
  os : w'.os = w.os
  tape : w'.tape = w.tape
  output : w'.output = w.output
  size : w.heap.size <= w'.heap.size
  block : ∀ k, k < w.heap.size -> k ≠ X -> w'.heap[k]? = w.heap[k]?
theorem But.refl (X : Nat) (w : World) : But X w w := ⟨rfl, rfl, rfl, zL _, fun _ _ _ => rfl⟩
theorem But.trans {X : Nat} {a b c : World} (h : But X a b) (k : But X b c) : But X a c :=
  ⟨k.os.trans h.os, k.tape.trans h.tape, k.output.trans h.output, Nat.le_trans h.size k.size, fun i hi hx => (k.block i (Nat.lt_of_lt_of_le hi h.size) hx).trans (h.block i hi hx)⟩
theorem zau {X : Nat} {w w' : World} (h : Below w.heap.size w w') : But X w w' := ⟨h.os, h.tape, h.output, h.size, fun k hk _ => h.block k hk⟩
theorem But.below {X : Nat} {w w' : World} (h : But X w w') {B : Nat} (hB : B <= X) (hw : B <= w.heap.size) : Below B w w' := ⟨h.os, h.tape, h.output, h.size, fun k hk => h.block k (by omega) (by omega)⟩
theorem but_set (w : World) (X o : Nat) (v : Value) : But X w (w.setCell ⟨X, o, none⟩ v) :=
  ⟨rfl, rfl, rfl, by simp [World.setCell], fun k _ hx => Below.heap_setCell w ⟨X, o, none⟩ v k hx⟩
theorem But.cell {X : Nat} {w w' : World} (h : But X w w') {b o : Nat} {v : Value} (hb : b ≠ X) (hc : w.cell? ⟨b, o, none⟩ = some v) : w'.cell? ⟨b, o, none⟩ = some v := by
  have hlt := cell_lt hc
  have he := h.block b hlt hb
  unfold World.cell? at hc ⊢
  simp only at hc ⊢
  rw [he]
  exact hc
theorem But.frozen {X : Nat} {w w' : World} (h : But X w w') {b o : Nat} (hb : b ≠ X) (hl : b < w.heap.size) : w'.frozen? ⟨b, o, none⟩ = w.frozen? ⟨b, o, none⟩ := by
  have he := h.block b hl hb
  unfold World.frozen?
  simp only
  rw [he]
theorem But.keptF {X : Nat} {w w' : World} (h : But X w w') (hx : ∀ o v, w.cell? ⟨X, o, none⟩ ≠ some v) (lo : Nat) : Soft.KeptF lo w w' := by
  refine ⟨fun b o v _ hc => h.cell (fun e => hx o v (e ▸ hc)) hc, fun b o _ ⟨o', v, hc⟩ hf => ?_⟩
  rw [h.frozen (fun e => hx o' v (e ▸ hc)) (cell_lt hc)]
  exact hf
end Chk
end Go.Proofs.YtnlgdkfenipmfaaGreatDoor
