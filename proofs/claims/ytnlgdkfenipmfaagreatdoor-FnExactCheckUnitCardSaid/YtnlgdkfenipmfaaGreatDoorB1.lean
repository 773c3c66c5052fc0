/-
  Data Types DataStr DataBox
-/
import Derived.Test.YtnlgdkfenipmfaaGreatDoorB0
namespace Go.Proofs.YtnlgdkfenipmfaaGreatDoor.Data
open Go.RowKit
open Strs
inductive P where
  | int (n : Int)
  | str (s : ByteArray)
  | bool (b : Bool)
  | row (k : Nat) (ps : List P)
inductive D where
  | int (n : Int)
  | str (s : ByteArray)
  | bool (b : Bool)
  | row (t k : Nat) (v : Value) (ds : List D)
instance : Inhabited D := ⟨.int 0⟩
instance : Inhabited P := ⟨.int 0⟩
theorem ind {Q : D -> Prop} (h1 : ∀ n, Q (.int n)) (h2 : ∀ s, Q (.str s)) (h3 : ∀ b, Q (.bool b)) (h : ∀ t k v ds, (∀ d, d ∈ ds -> Q d) -> Q (.row t k v ds)) : ∀ d, Q d := by
  intro d
  refine D.rec (motive_1 := Q) (motive_2 := fun l => ∀ e, e ∈ l -> Q e) h1 h2 h3 h ?_ ?_ d
  · intro e he; cases he
  · intro a l ha hl e he
    cases he with
    | head => exact ha
    | tail _ h => exact hl e h
def val : D -> Value
  | .int n => .int .i64 n
  | .str s => .string s
  | .bool b => .bool b
  | .row _ _ v _ => v
def vals (ds : List D) : List Value := ds.map val
def agg (ds : List D) : Value := .agg (vals ds).toArray
theorem vals_append (a b : List D) : vals (a ++ b) = vals a ++ vals b := by simp [vals]
theorem vals_len (a : List D) : (vals a).length = a.length := by simp [vals]
theorem vals_get (a : List D) (j : Nat) (h : j < a.length) : (vals a)[j]? = some (val a[j]) := by simp [vals, h]
mutual
def erase : D -> P
  | .int n => .int n
  | .str s => .str s
  | .bool b => .bool b
  | .row _ k _ ds => .row k (erases ds)
def erases : List D -> List P
  | [] => []
  | d :: ds => erase d :: erases ds
end
theorem erases_map (ds : List D) : erases ds = ds.map erase := by
  induction ds with
  | nil => rfl
  | cons t ts ih => rw [erases, ih]; rfl
theorem zac (a b : List D) : erases (a ++ b) = erases a ++ erases b := by simp [erases_map]
theorem zad (a : List D) : (erases a).length = a.length := by simp [erases_map]
theorem erases_cons (d : D) (ds : List D) : erases (d :: ds) = erase d :: erases ds := by rw [erases]
theorem erases_split {ds : List D} {a b : List P} (h : erases ds = a ++ b) : ∃ x y, ds = x ++ y /\ erases x = a /\ erases y = b := by
  refine ⟨ds.take a.length, ds.drop a.length, (List.take_append_drop _ _).symm, ?_, ?_⟩
  · rw [erases_map] at *
    rw [List.map_take, h]; simp
  · rw [erases_map] at *
    rw [List.map_drop, h]; simp
mutual
def weight : P -> Nat
  | .int _ => 0
  | .str s => s.size
  | .bool _ => 0
  | .row k ps => ps.length / k + weights ps
def weights : List P -> Nat
  | [] => 0
  | p :: ps => weight p + weights ps
end
theorem zaf (a b : List P) : weights (a ++ b) = weights a + weights b := by
  induction a with
  | nil => simp [weights]
  | cons e es ih => simp [weights, ih]; omega
def blk (v : Value) : List Nat := v.ownBlock.toList
mutual
def foot : D -> List Nat
  | .int _ => []
  | .str _ => []
  | .bool _ => []
  | .row _ _ v ds => blk v ++ foots ds
def foots : List D -> List Nat
  | [] => []
  | d :: ds => foot d ++ foots ds
end
theorem zas (a b : List D) : foots (a ++ b) = foots a ++ foots b := by
  induction a with
  | nil => rfl
  | cons t ts ih => rw [List.cons_append, foots, foots, ih, List.append_assoc]
theorem foot_mem {d : D} {ds : List D} (h : d ∈ ds) : ∀ b, b ∈ foot d -> b ∈ foots ds := by
  induction ds with
  | nil => cases h
  | cons x xs ih =>
    intro b hb
    rw [foots]
    rcases List.mem_cons.1 h with rfl | h
    · exact List.mem_append_left _ hb
    · exact List.mem_append_right _ (ih h b hb)
theorem foots_mem {ds : List D} {b : Nat} (h : b ∈ foots ds) : ∃ d, d ∈ ds /\ b ∈ foot d := by
  induction ds with
  | nil => cases h
  | cons x xs ih =>
    rw [foots] at h
    rcases List.mem_append.1 h with h | h
    · exact ⟨x, by simp, h⟩
    · obtain ⟨t, h1, h2⟩ := ih h
      exact ⟨t, by simp [h1], h2⟩
def Kept (lo : Nat) (w w' : World) : Prop := ∀ b o v, lo <= b -> w.cell? ⟨b, o, none⟩ = some v -> w'.cell? ⟨b, o, none⟩ = some v
theorem kept_below {lo : Nat} {w w' : World} (h : Below w.heap.size w w') : Kept lo w w' := fun _ _ _ _ hc => cell_keep h hc
mutual
def Holds (lo : Nat) (w : World) : D -> Prop
  | .int n => (Lit.int .i64 n).wf = true
  | .str s => s.size <= maxLen
  | .bool _ => True
  | .row _ k v ds => (∃ a n cap, v = .slice a n cap /\ 0 < k /\ ds.length = n * k /\ n <= cap /\ cap <= maxLen /\ (0 < n -> ∃ b o, a = some ⟨b, o, none⟩ /\ lo <= b /\ ∀ j (h : j < ds.length), w.cell? ⟨b, o + j, none⟩ = some (val ds[j]))) /\ Holdss lo w ds
def Holdss (lo : Nat) (w : World) : List D -> Prop
  | [] => True
  | d :: ds => Holds lo w d /\ Holdss lo w ds
end
theorem zaz {lo : Nat} {w : World} {ds : List D} : Holdss lo w ds ↔ ∀ d, d ∈ ds -> Holds lo w d := by
  induction ds with
  | nil => simp [Holdss]
  | cons t ts ih => rw [Holdss, ih]; simp
theorem Holdss.append {lo : Nat} {w : World} {a b : List D} : Holdss lo w (a ++ b) ↔ Holdss lo w a /\ Holdss lo w b := by
  rw [zaz, zaz, zaz]
  constructor
  · exact fun h => ⟨fun d hd => h d (by simp [hd]), fun d hd => h d (by simp [hd])⟩
  · rintro ⟨h1, h2⟩ d hd
    rcases List.mem_append.1 hd with h | h
    · exact h1 d h
    · exact h2 d h
theorem Holds.keep {lo hi : Nat} {w w' : World} (hl : lo <= hi) (hk : Kept hi w w') : ∀ d, Holds hi w d -> Holds lo w' d := by
  refine ind (fun n h => ?_) (fun s h => ?_) (fun b h => ?_) fun t k v ds ih h => ?_
  · rw [Holds] at h ⊢; exact h
  · rw [Holds] at h ⊢; exact h
  · rw [Holds]; trivial
  · rw [Holds] at h ⊢
    obtain ⟨⟨a, n, cap, rfl, h0, h1, h2, h3, h4⟩, h5⟩ := h
    rw [zaz] at h5 ⊢
    refine ⟨⟨a, n, cap, rfl, h0, h1, h2, h3, fun hp => ?_⟩, fun d hd => ih d hd (h5 d hd)⟩
    obtain ⟨b, o, rfl, hb, hc⟩ := h4 hp
    exact ⟨b, o, rfl, Nat.le_trans hl hb, fun j hj => hk _ _ _ hb (hc j hj)⟩
theorem Holdss.keep {lo hi : Nat} {w w' : World} {ds : List D} (h : Holdss hi w ds) (hl : lo <= hi) (hk : Kept hi w w') : Holdss lo w' ds := by
  rw [zaz] at h ⊢
  exact fun d hd => Holds.keep hl hk d (h d hd)
theorem Holdss.below {lo : Nat} {w w' : World} {ds : List D} (h : Holdss lo w ds) (hb : Below w.heap.size w w') : Holdss lo w' ds := h.keep (zL _) (kept_below hb)
theorem Holds.below {lo : Nat} {w w' : World} {d : D} (h : Holds lo w d) (hb : Below w.heap.size w w') : Holds lo w' d := Holds.keep (zL _) (kept_below hb) d h
mutual
def Good (w : World) : D -> Prop
  | .int n => (Lit.int .i64 n).wf = true
  | .str s => s.size <= maxLen
  | .bool _ => True
  | .row t k v ds => (∃ n, 0 < k /\ ds.length = n * k /\ w.ownsRow 0 t k v n (vals ds)) /\ Goods w ds
def Goods (w : World) : List D -> Prop
  | [] => True
  | d :: ds => Good w d /\ Goods w ds
end
theorem zak {w : World} {ds : List D} : Goods w ds ↔ ∀ d, d ∈ ds -> Good w d := by
  induction ds with
  | nil => simp [Goods]
  | cons t ts ih => rw [Goods, ih]; simp
theorem Goods.append {w : World} {a b : List D} : Goods w (a ++ b) ↔ Goods w a /\ Goods w b := by
  rw [zak, zak, zak]
  constructor
  · exact fun h => ⟨fun d hd => h d (by simp [hd]), fun d hd => h d (by simp [hd])⟩
  · rintro ⟨h1, h2⟩ d hd
    rcases List.mem_append.1 hd with h | h
    · exact h1 d h
    · exact h2 d h
theorem own_frame {w w' : World} {base : Nat} {e : TypeId} {size : Nat} {v : Value} {n : Nat} {xs : List Value} (h : w.ownsRow base e size v n xs) (hk : ∀ b, b ∈ blk v -> w'.heap[b]? = w.heap[b]?) : w'.ownsRow base e size v n xs := by
  refine ⟨h.1, ?_⟩
  rcases h.2 with hn | ⟨g, cap, cur, rfl, hbg, hgg, rest⟩
  · exact .inl hn
  · refine .inr ⟨g, cap, cur, rfl, hbg, ?_, rest⟩
    rw [hk g (by simp [blk, Value.ownBlock])]
    exact hgg
theorem own_base {w : World} {base base' : Nat} {e : TypeId} {size : Nat} {v : Value} {n : Nat} {xs : List Value} (h : w.ownsRow base e size v n xs) (hk : ∀ b, b ∈ blk v -> base' <= b) : w.ownsRow base' e size v n xs := by
  refine ⟨h.1, ?_⟩
  rcases h.2 with hn | ⟨g, cap, cur, rfl, hbg, hgg, rest⟩
  · exact .inl hn
  · exact .inr ⟨g, cap, cur, rfl, hk g (by simp [blk, Value.ownBlock]), hgg, rest⟩
theorem own_zero {w : World} {base : Nat} {e : TypeId} {size : Nat} {v : Value} {n : Nat} {xs : List Value} (h : w.ownsRow base e size v n xs) : w.ownsRow 0 e size v n xs := own_base h fun _ _ => Nat.zero_le _
theorem own_blk {w : World} {base : Nat} {e : TypeId} {size : Nat} {v : Value} {n : Nat} {xs : List Value} (h : w.ownsRow base e size v n xs) : ∀ b, b ∈ blk v -> base <= b /\ b < w.heap.size := by
  intro b hb
  have : v.ownBlock = some b := by simpa [blk] using hb
  exact h.lt b this
theorem blk_nodup (v : Value) : (blk v).Nodup := by
  unfold blk
  cases v.ownBlock <;> simp
theorem nil_row {w : World} (base : Nat) (e : TypeId) (size : Nat) : w.ownsRow base e size (.slice none 0 0) 0 [] := ⟨by simp, .inl ⟨rfl, rfl⟩⟩
theorem Good.frame {w w' : World} : ∀ d, Good w d -> (∀ b, b ∈ foot d -> w'.heap[b]? = w.heap[b]?) -> Good w' d := by
  refine ind (fun n h _ => ?_) (fun s h _ => ?_) (fun b h _ => ?_) fun t k v ds ih h hk => ?_
  · rw [Good] at h ⊢; exact h
  · rw [Good] at h ⊢; exact h
  · rw [Good]; trivial
  · rw [Good] at h ⊢
    obtain ⟨⟨n, h0, h1, h2⟩, h3⟩ := h
    rw [foot] at hk
    rw [zak] at h3 ⊢
    exact ⟨⟨n, h0, h1, own_frame h2 fun b hb => hk b (by simp [hb])⟩, fun d hd => ih d hd (h3 d hd) fun b hb => hk b (by simp [foot_mem hd b hb])⟩
theorem Goods.frame {w w' : World} {ds : List D} (h : Goods w ds) (hk : ∀ b, b ∈ foots ds -> w'.heap[b]? = w.heap[b]?) : Goods w' ds := by
  rw [zak] at h ⊢
  exact fun x hx => Good.frame x (h x hx) fun b hb => hk b (foot_mem hx b hb)
theorem Good.lt {w : World} : ∀ d, Good w d -> ∀ b, b ∈ foot d -> b < w.heap.size := by
  refine ind (fun n h b hb => ?_) (fun s h b hb => ?_) (fun b h b hb => ?_) fun t k v ds ih h b hb => ?_
  · rw [foot] at hb; cases hb
  · rw [foot] at hb; cases hb
  · rw [foot] at hb; cases hb
  · rw [Good] at h
    obtain ⟨⟨n, h0, h1, h2⟩, h3⟩ := h
    rw [foot] at hb
    rcases List.mem_append.1 hb with hb | hb
    · exact (own_blk h2 b hb).2
    rw [zak] at h3
    obtain ⟨x, hx, hb⟩ := foots_mem hb
    exact ih x hx (h3 x hx) b hb
theorem Goods.lt {w : World} {ds : List D} (h : Goods w ds) : ∀ b, b ∈ foots ds -> b < w.heap.size := by
  intro b hb
  obtain ⟨x, hx, hb⟩ := foots_mem hb
  exact Good.lt x (zak.1 h x hx) b hb
theorem Good.holds {w : World} {lo : Nat} : ∀ d, Good w d -> (∀ b, b ∈ foot d -> lo <= b) -> Holds lo w d := by
  refine ind (fun n h _ => ?_) (fun s h _ => ?_) (fun b h _ => ?_) fun t k v ds ih h hl => ?_
  · rw [Good] at h; rw [Holds]; exact h
  · rw [Good] at h; rw [Holds]; exact h
  · rw [Holds]; trivial
  · rw [Good] at h
    obtain ⟨⟨n, h0, h1, h2⟩, h3⟩ := h
    rw [foot] at hl
    rw [Holds]
    rw [zak] at h3
    refine ⟨?_, zaz.2 fun d hd => ih d hd (h3 d hd) fun b hb => hl b (by simp [foot_mem hd b hb])⟩
    have h2' := h2
    obtain ⟨_, ⟨rfl, hn⟩ | ⟨g, cap, cur, rfl, hbg, hg, hnc, hcm, _, _⟩⟩ := h2
    · exact ⟨none, 0, 0, rfl, h0, by rw [h1, hn], zL _, by unfold maxLen; omega, fun hp => by omega⟩
    · refine ⟨_, n, cap, rfl, h0, h1, hnc, hcm, fun hp => ⟨g, 0, rfl, hl g (by simp [blk, Value.ownBlock]), fun j hj => ?_⟩⟩
      rw [Nat.zero_add, h2'.cellAt j (by omega)]
      exact vals_get ds j hj
structure Own (base : Nat) (w : World) (ds : List D) : Prop where
  good : Goods w ds
  nd : (foots ds).Nodup
  lo : ∀ b, b ∈ foots ds -> base <= b
theorem Own.lt {base : Nat} {w : World} {ds : List D} (h : Own base w ds) : ∀ b, b ∈ foots ds -> b < w.heap.size := Goods.lt h.good
theorem Own.mono {base base' : Nat} {w : World} {ds : List D} (h : Own base w ds) (hb : base' <= base) : Own base' w ds := ⟨h.good, h.nd, fun b k => Nat.le_trans hb (h.lo b k)⟩
theorem Own.frame {base : Nat} {w w' : World} {ds : List D} (h : Own base w ds) (hk : ∀ b, b ∈ foots ds -> w'.heap[b]? = w.heap[b]?) : Own base w' ds := ⟨h.good.frame hk, h.nd, h.lo⟩
theorem Own.below {base : Nat} {w w' : World} {ds : List D} (h : Own base w ds) (hb : Below w.heap.size w w') : Own base w' ds := h.frame fun b k => hb.block b (h.lt b k)
theorem Own.holds {base : Nat} {w : World} {ds : List D} (h : Own base w ds) : Holdss base w ds :=
  zaz.2 fun d hd => Good.holds d (zak.1 h.good d hd) fun b hb => h.lo b (foot_mem hd b hb)
theorem Own.nil (base : Nat) (w : World) : Own base w [] := ⟨trivial, List.nodup_nil, (fun _ h => nomatch h)⟩
theorem Own.append {base : Nat} {w : World} {a b : List D} (h : Own base w a) (k : Own base w b) (hd : ∀ x, x ∈ foots a -> x ∉ foots b) : Own base w (a ++ b) := by
  refine ⟨Goods.append.2 ⟨h.good, k.good⟩, ?_, fun x hx => ?_⟩
  · rw [zas, List.nodup_append]
    exact ⟨h.nd, k.nd, fun x hx y hy e => hd x hx (e ▸ hy)⟩
  · rw [zas] at hx
    rcases List.mem_append.1 hx with h1 | h1
    · exact h.lo x h1
    · exact k.lo x h1
theorem Own.snoc {base : Nat} {w w' : World} {a b : List D} (h : Own base w a) (hb : Below w.heap.size w w') (k : Own w.heap.size w' b) (hw : base <= w.heap.size) : Own base w' (a ++ b) :=
  (h.below hb).append (k.mono hw) fun x hx hy => by
    have h1 := h.lt x hx
    have h2 := k.lo x hy
    omega
theorem Own.left {base : Nat} {w : World} {a b : List D} (h : Own base w (a ++ b)) : Own base w a := by
  have hn := h.nd
  rw [zas, List.nodup_append] at hn
  exact ⟨(Goods.append.1 h.good).1, hn.1, fun x hx => h.lo x (by rw [zas]; simp [hx])⟩
theorem Own.right {base : Nat} {w : World} {a b : List D} (h : Own base w (a ++ b)) : Own base w b := by
  have hn := h.nd
  rw [zas, List.nodup_append] at hn
  exact ⟨(Goods.append.1 h.good).2, hn.2.1, fun x hx => h.lo x (by rw [zas]; simp [hx])⟩
structure Row (base : Nat) (w : World) (t k : Nat) (v : Value) (ds : List D) : Prop where
  own : ∃ n, 0 < k /\ ds.length = n * k /\ w.ownsRow base t k v n (vals ds)
  kids : Own base w ds
  apart : ∀ b, b ∈ blk v -> b ∉ foots ds
theorem row_iff {base : Nat} {w : World} {t k : Nat} {v : Value} {ds : List D} : Own base w [.row t k v ds] ↔ Row base w t k v ds := by
  constructor
  · rintro ⟨h1, h2, h3⟩
    rw [Goods, Goods, Good] at h1
    obtain ⟨⟨⟨n, h0, h4, h5⟩, h6⟩, -⟩ := h1
    rw [foots, foots, foot, List.append_nil] at h2 h3
    rw [List.nodup_append] at h2
    exact ⟨⟨n, h0, h4, own_base h5 fun b hb => h3 b (by simp [hb])⟩, ⟨h6, h2.2.1, fun b hb => h3 b (by simp [hb])⟩, fun b hb hc => h2.2.2 b hb b hc rfl⟩
  · rintro ⟨⟨n, h0, h4, h5⟩, h6, h7⟩
    refine ⟨?_, ?_, ?_⟩
    · rw [Goods, Goods, Good]
      exact ⟨⟨⟨n, h0, h4, own_zero h5⟩, h6.good⟩, trivial⟩
    · rw [foots, foots, foot, List.append_nil, List.nodup_append]
      exact ⟨blk_nodup _, h6.nd, fun x hx y hy e => h7 x hx (e ▸ hy)⟩
    · rw [foots, foots, foot, List.append_nil]
      intro b hb
      rcases List.mem_append.1 hb with hb | hb
      · exact (own_blk h5 b hb).1
      · exact h6.lo b hb
end Go.Proofs.YtnlgdkfenipmfaaGreatDoor.Data
namespace Go.Proofs.YtnlgdkfenipmfaaGreatDoor.Data
open Go.RowKit
open Strs
inductive Ty where
  | int
  | str
  | bool
  | row (i : Nat)
def tMethod : List Ty := [.str, .bool, .row 0, .row 0, .row 2]
def tCore : List Ty := [.int, .str, .int, .int, .row 7]
def tRoutine : List Ty := [.str, .int, .bool, .int, .int] ++ tCore
def tValue : List Ty := [.int, .int, .str]
def env : Nat -> List Ty
  | 0 => [.str]
  | 1 => [.int]
  | 2 => [.int, .str, .int, .row 0, .row 2]
  | 3 => tMethod
  | 4 => [.str, .str, .row 0, .row 3]
  | 5 => .row 4 :: tMethod
  | 6 => [.str, .int, .row 0]
  | 7 => tCore
  | 8 => tRoutine
  | 9 => [.row 6, .row 8] ++ tRoutine
  | 10 => tValue
  | 11 => [.int, .int, .row 10, .row 1]
  | 12 => [.row 6, .row 11, .row 0, .int, .int, .int]
  | 13 => [.int, .str, .str, .row 0, .int]
  | 14 => [.int, .int, .int, .str]
  | 15 => [.bool, .int, .int, .row 14]
  | 16 => [.int, .bool, .str, .int]
  | 17 => [.row 6, .row 15, .row 16, .int]
  | 18 => [.int, .str, .int]
  | _ => []
mutual
inductive Fit : Ty -> P -> Prop
  | int (n : Int) : Fit .int (.int n)
  | str (s : ByteArray) : Fit .str (.str s)
  | bool (b : Bool) : Fit .bool (.bool b)
  | row (i k : Nat) (ps : List P) (hk : k = (env i).length) (h : FitRow i ps) : Fit (.row i) (.row k ps)
inductive FitRow : Nat -> List P -> Prop
  | nil (i : Nat) : FitRow i []
  | cons (i : Nat) (ps item rest : List P) (e : ps = item ++ rest) (h : FitL (env i) item) (h2 : FitRow i rest) : FitRow i ps
inductive FitL : List Ty -> List P -> Prop
  | nil : FitL [] []
  | cons (t : Ty) (ts : List Ty) (p : P) (ps : List P) (h : Fit t p) (h2 : FitL ts ps) : FitL (t :: ts) (p :: ps)
end
theorem zal {ds : List D} (h : FitL [] (erases ds)) : ds = [] := by
  cases ds with
  | nil => rfl
  | cons d ds => rw [erases] at h; cases h
theorem fitL_cons {t : Ty} {ts : List Ty} {ds : List D} (h : FitL (t :: ts) (erases ds)) : ∃ d es, ds = d :: es /\ Fit t (erase d) /\ FitL ts (erases es) := by
  cases ds with
  | nil => rw [erases] at h; cases h
  | cons d ds =>
    rw [erases] at h
    cases h with
    | cons _ _ _ _ h1 h2 => exact ⟨d, ds, rfl, h1, h2⟩
theorem fit_int {d : D} (h : Fit .int (erase d)) : ∃ n, d = .int n := by
  cases d with
  | int n => exact ⟨n, rfl⟩
  | str s => rw [erase] at h; cases h
  | bool b => rw [erase] at h; cases h
  | row t k v ds => rw [erase] at h; cases h
theorem fit_str {d : D} (h : Fit .str (erase d)) : ∃ s, d = .str s := by
  cases d with
  | int n => rw [erase] at h; cases h
  | str s => exact ⟨s, rfl⟩
  | bool b => rw [erase] at h; cases h
  | row t k v ds => rw [erase] at h; cases h
theorem fit_bool {d : D} (h : Fit .bool (erase d)) : ∃ b, d = .bool b := by
  cases d with
  | int n => rw [erase] at h; cases h
  | str s => rw [erase] at h; cases h
  | bool b => exact ⟨b, rfl⟩
  | row t k v ds => rw [erase] at h; cases h
theorem fit_row {i : Nat} {d : D} (h : Fit (.row i) (erase d)) : ∃ t v ds, d = .row t (env i).length v ds /\ FitRow i (erases ds) := by
  cases d with
  | int n => rw [erase] at h; cases h
  | str s => rw [erase] at h; cases h
  | bool b => rw [erase] at h; cases h
  | row t k v ds =>
    rw [erase] at h
    cases h with
    | row _ _ _ hk h => subst hk; exact ⟨t, v, ds, rfl, h⟩
theorem za0 {ts : List Ty} {ds : List D} (h : FitL (.int :: ts) (erases ds)) : ∃ n es, ds = .int n :: es /\ FitL ts (erases es) := by
  obtain ⟨d, es, rfl, h1, h2⟩ := fitL_cons h
  obtain ⟨n, rfl⟩ := fit_int h1
  exact ⟨n, es, rfl, h2⟩
theorem zai {ts : List Ty} {ds : List D} (h : FitL (.str :: ts) (erases ds)) : ∃ n es, ds = .str n :: es /\ FitL ts (erases es) := by
  obtain ⟨d, es, rfl, h1, h2⟩ := fitL_cons h
  obtain ⟨n, rfl⟩ := fit_str h1
  exact ⟨n, es, rfl, h2⟩
theorem zay {ts : List Ty} {ds : List D} (h : FitL (.bool :: ts) (erases ds)) : ∃ n es, ds = .bool n :: es /\ FitL ts (erases es) := by
  obtain ⟨d, es, rfl, h1, h2⟩ := fitL_cons h
  obtain ⟨n, rfl⟩ := fit_bool h1
  exact ⟨n, es, rfl, h2⟩
theorem zaa {i k : Nat} (hk : (env i).length = k) {ts : List Ty} {ds : List D} (h : FitL (.row i :: ts) (erases ds)) : ∃ t v fs es, ds = .row t k v fs :: es /\ FitRow i (erases fs) /\ FitL ts (erases es) := by
  subst hk
  obtain ⟨d, es, rfl, h1, h2⟩ := fitL_cons h
  obtain ⟨t, v, fs, rfl, h3⟩ := fit_row h1
  exact ⟨t, v, fs, es, rfl, h3, h2⟩
theorem fitL_len {ts : List Ty} {ps : List P} (h : FitL ts ps) : ps.length = ts.length := by
  induction ts generalizing ps with
  | nil => cases h; rfl
  | cons t ts ih =>
    cases h with
    | cons _ _ _ _ h1 h2 => simp [ih h2]
theorem fitRow_cases' {i : Nat} {ps : List P} (h : FitRow i ps) : ps = [] \/ ∃ item rest, ps = item ++ rest /\ FitL (env i) item /\ FitRow i rest := by
  cases h with
  | nil => exact .inl rfl
  | cons _ _ item rest e h1 h2 => exact .inr ⟨item, rest, e, h1, h2⟩
theorem zaw {i : Nat} {ds : List D} (h : FitRow i (erases ds)) : ds = [] \/ ∃ item rest, ds = item ++ rest /\ FitL (env i) (erases item) /\ FitRow i (erases rest) := by
  rcases fitRow_cases' h with e | ⟨item, rest, e, h1, h2⟩
  · left
    have := congrArg List.length e
    rw [zad] at this
    exact List.eq_nil_of_length_eq_zero this
  · obtain ⟨x, y, rfl, rfl, rfl⟩ := erases_split e
    exact .inr ⟨x, y, rfl, h1, h2⟩
def Cells (B : Nat) (ds : List D) (wr : World) : Prop := B < wr.heap.size /\ ∀ j (h : j < ds.length), wr.cell? ⟨B, j, none⟩ = some (val ds[j])
theorem Cells.step {B : Nat} {ds : List D} {wr w' : World} (h : Cells B ds wr) (hb : Below wr.heap.size wr w') : Cells B ds w' :=
  ⟨Nat.lt_of_lt_of_le h.1 hb.size, fun j hj => cell_keep hb (h.2 j hj)⟩
theorem Cells.at {B : Nat} {ds : List D} {wr : World} (h : Cells B ds wr) (j : Nat) (d : D) (hd : ds[j]? = some d) : wr.cell? ⟨B, j, none⟩ = some (val d) := by
  obtain ⟨hj, rfl⟩ := List.getElem?_eq_some_iff.1 hd
  exact h.2 j hj
theorem zab (w : World) (ds : List D) (T : TypeId) : Cells w.heap.size ds (w.alloc (Obj.cells (vals ds).toArray T)) := by
  refine ⟨by simp, fun j hj => ?_⟩
  have : (vals ds)[j]? = some (val ds[j]) := vals_get ds j hj
  simp [this]
theorem row_at {w : World} {b o m : Nat} {ds A R : List D} (hc : ∀ j (h : j < ds.length), w.cell? ⟨b, o + j, none⟩ = some (val ds[j])) (e : ds = A ++ R) (hl : A.length = m) (q : Nat) (d : D) (hq : R[q]? = some d) : w.cell? ⟨b, o + m + q, none⟩ = some (val d) := by
  subst e
  subst hl
  obtain ⟨hj, rfl⟩ := List.getElem?_eq_some_iff.1 hq
  have h1 := hc (A.length + q) (by simp; omega)
  rw [Nat.add_assoc, h1, List.getElem_append_right (by omega)]
  simp
theorem row_at0 {w : World} {b o m : Nat} {ds A R : List D} (hc : ∀ j (h : j < ds.length), w.cell? ⟨b, o + j, none⟩ = some (val ds[j])) (e : ds = A ++ R) (hl : A.length = m) (d : D) (hq : R[0]? = some d) : w.cell? ⟨b, o + m, none⟩ = some (val d) :=
  row_at hc e hl 0 d hq
end Go.Proofs.YtnlgdkfenipmfaaGreatDoor.Data
namespace Go.Proofs.YtnlgdkfenipmfaaGreatDoor
namespace Data
open Go.RowKit
open Strs Tree Texts
def strs (xs : List ByteArray) : List D := xs.map D.str
theorem strs_vals (xs : List ByteArray) : vals (strs xs) = xs.map Value.string := by simp [vals, strs, val, Function.comp_def]
theorem strs_len (xs : List ByteArray) : (strs xs).length = xs.length := by simp [strs]
theorem strs_erases (xs : List ByteArray) : erases (strs xs) = xs.map P.str := by
  induction xs with
  | nil => rfl
  | cons x xs ih => rw [strs, List.map_cons, erases]; show _ :: erases (strs xs) = _; rw [ih]; rfl
theorem strs_foots (xs : List ByteArray) : foots (strs xs) = [] := by
  induction xs with
  | nil => rfl
  | cons x xs ih => rw [strs, List.map_cons, foots]; show foot (.str x) ++ foots (strs xs) = _; rw [ih]; rfl
theorem strs_fit (xs : List ByteArray) : FitRow 0 (xs.map P.str) := by
  induction xs with
  | nil => exact FitRow.nil 0
  | cons x xs ih => exact FitRow.cons 0 _ [.str x] _ rfl (FitL.cons _ _ _ _ (Fit.str x) FitL.nil) ih
theorem strs_weights (xs : List ByteArray) : weights (xs.map P.str) = lens xs := by
  induction xs with
  | nil => rfl
  | cons x xs ih => rw [List.map_cons, weights, weight, lens, ih]
theorem strs_of : ∀ (n : Nat) (ds : List D), ds.length <= n -> FitRow 0 (erases ds) -> ∃ xs, ds = strs xs := by
  intro n
  induction n with
  | zero => intro ds hl _; exact ⟨[], List.eq_nil_of_length_eq_zero (Nat.le_zero.1 hl)⟩
  | succ n ih =>
    intro ds hl h
    rcases zaw h with rfl | ⟨item, rest, rfl, h1, h2⟩
    · exact ⟨[], rfl⟩
    · obtain ⟨s, es, rfl, h3⟩ := zai h1
      obtain rfl := zal h3
      obtain ⟨xs, rfl⟩ := ih rest (by simp at hl; omega) h2
      exact ⟨s :: xs, rfl⟩
theorem strs_get {ds : List D} (h : FitRow 0 (erases ds)) : ∃ xs, ds = strs xs := strs_of _ ds (zL _) h
theorem strs_goods {w : World} {xs : List ByteArray} : Goods w (strs xs) ↔ ∀ x, x ∈ xs -> x.size <= maxLen := by
  rw [zak]
  constructor
  · intro h x hx
    have := h (.str x) (by simp [strs, hx])
    rw [Good] at this
    exact this
  · intro h d hd
    simp only [strs, List.mem_map] at hd
    obtain ⟨x, hx, rfl⟩ := hd
    rw [Good]
    exact h x hx
theorem zav {lo t : Nat} {w : World} {v : Value} {xs : List ByteArray} (h : Holds lo w (.row t 1 v (strs xs))) : Texts lo w xs v := by
  rw [Holds] at h
  obtain ⟨⟨a, n, cap, rfl, -, h1, h2, h3, h4⟩, h5⟩ := h
  rw [strs_len, Nat.mul_one] at h1
  subst h1
  refine ⟨a, cap, rfl, ⟨h2, h3⟩, fun x hx => ?_, fun hp => ?_⟩
  · have := zaz.1 h5 (.str x) (by simp [strs, hx])
    rw [Holds] at this
    exact this
  · obtain ⟨b, o, rfl, hb, hc⟩ := h4 hp
    refine ⟨b, o, rfl, hb, fun j hj => ?_⟩
    rw [hc j (by rw [strs_len]; exact hj)]
    simp [strs, val]
theorem strs_row {T base : Nat} {w : World} {v : Value} {xs : List ByteArray} (h : w.ownsRow base T 1 v xs.length (xs.map Value.string)) (hx : ∀ x, x ∈ xs -> x.size <= maxLen) : Row base w T 1 v (strs xs) :=
  ⟨⟨xs.length, by decide, by rw [strs_len, Nat.mul_one], by rw [strs_vals]; exact h⟩, ⟨strs_goods.2 hx, by rw [strs_foots]; exact List.nodup_nil, fun b hb => by rw [strs_foots] at hb; cases hb⟩, fun b _ hb => by rw [strs_foots] at hb; cases hb⟩
theorem szS_String (lo left t : Nat) (w : World) (v : Value) (ds : List D) (hl : left <= 1048576) (hf : FitRow 0 (erases ds)) (hh : Holds lo w (.row t 1 v ds)) :
    Calls Tryz.prog 102 #[v, .int .i64 left] w fun r w' => r = .returned (.int .i64 (after left (weight (.row 1 (erases ds))))) /\ Below w.heap.size w w' := by
  obtain ⟨xs, rfl⟩ := strs_get hf
  refine (sz_any (zav hh) hl).mono ?_
  rintro e w' ⟨rfl, rfl⟩
  refine ⟨?_, zB _ _⟩
  rw [strs_erases, weight, strs_weights, List.length_map, Nat.div_one]
theorem toS_String (lo t : Nat) (w : World) (v : Value) (ds : List D) (hw : weight (.row 1 (erases ds)) <= 1048576) (hf : FitRow 0 (erases ds)) (hh : Holds lo w (.row t 1 v ds)) :
    Calls Tryz.prog 108 #[v] w fun r w' => ∃ a n c ds', r = .returned (.slice a n c) /\ erases ds' = erases ds /\ Row w.heap.size w' 9 1 (.slice a n c) ds' /\ Below w.heap.size w w' := by
  obtain ⟨xs, rfl⟩ := strs_get hf
  have hn : xs.length <= 1048576 := by rw [strs_erases, weight, List.length_map, Nat.div_one] at hw; omega
  have ht := zav hh
  have hx := ht.choose_spec.choose_spec.2.2.1
  have H : Calls Tryz.prog 108 #[v] w (Copied xs xs.length w) := by
    obtain ⟨a, cap, rfl, hm, hs, hc⟩ := ht
    by_cases hp : 0 < xs.length
    · obtain ⟨b, off, rfl, hb, hd⟩ := hc hp
      exact to_cons b off cap _ xs w rfl hn hd
    · have : xs = [] := List.eq_nil_of_length_eq_zero (by omega)
      subst this
      exact to_nil a cap w
  refine H.mono ?_
  rintro e w' ⟨rfl, ho, hb⟩
  exact ⟨_, _, _, strs xs, rfl, rfl, strs_row ho hx, hb⟩
theorem eqS_String (lo1 lo2 t1 t2 : Nat) (w : World) (v1 v2 : Value) (ds1 ds2 : List D) (he : erases ds1 = erases ds2) (hf : FitRow 0 (erases ds1)) (h1 : Holds lo1 w (.row t1 1 v1 ds1)) (h2 : Holds lo2 w (.row t2 1 v2 ds2)) :
    Calls Tryz.prog 117 #[v1, v2] w fun r w' => r = .returned (.bool true) /\ Below w.heap.size w w' := by
  obtain ⟨xs, rfl⟩ := strs_get hf
  obtain ⟨ys, rfl⟩ := strs_get (he ▸ hf)
  rw [strs_erases, strs_erases] at he
  have : xs = ys := by
    have inj : ∀ a b : ByteArray, P.str a = P.str b -> a = b := fun a b h => by cases h; rfl
    exact (List.map_inj_right inj).1 he
  subst this
  exact Texts.eq_same (zav h1) (zav h2)
end Data
end Go.Proofs.YtnlgdkfenipmfaaGreatDoor
namespace Go.Proofs.YtnlgdkfenipmfaaGreatDoor.Data
open Go.RowKit
open Strs
mutual
def mass : P -> Nat
  | .int _ => 1
  | .str _ => 1
  | .bool _ => 1
  | .row _ ps => 1 + masses ps
def masses : List P -> Nat
  | [] => 0
  | p :: ps => mass p + masses ps
end
theorem masses_append (a b : List P) : masses (a ++ b) = masses a + masses b := by
  induction a with
  | nil => simp [masses]
  | cons e es ih => simp [masses, ih]; omega
def puts (w : World) (g p : Nat) : List Value -> World
  | [] => w
  | v :: vs => puts (w.setCell ⟨g, p, none⟩ v) g (p + 1) vs
def sets (xs : List Value) (p : Nat) : List Value -> List Value
  | [] => xs
  | v :: vs => sets (xs.set p v) (p + 1) vs
theorem sets_len (vs : List Value) : ∀ (xs : List Value) (p : Nat), (sets xs p vs).length = xs.length := by
  induction vs with
  | nil => intro xs p; rfl
  | cons v vs ih => intro xs p; rw [sets, ih, List.length_set]
theorem sets_low (vs : List Value) : ∀ (xs : List Value) (p q : Nat), q < p -> (sets xs p vs)[q]? = xs[q]? := by
  induction vs with
  | nil => intro xs p q _; rfl
  | cons v vs ih => intro xs p q h; rw [sets, ih _ _ _ (by omega), List.getElem?_set_ne (by omega)]
theorem sets_at (vs : List Value) : ∀ (xs : List Value) (p j : Nat), p + vs.length <= xs.length -> j < vs.length -> (sets xs p vs)[p + j]? = vs[j]? := by
  induction vs with
  | nil => intro xs p j _ h; simp at h
  | cons v vs ih =>
    intro xs p j h hj
    rw [sets]
    cases j with
    | zero => rw [sets_low _ _ _ _ (by omega), Nat.add_zero, List.getElem?_set_self (by simp at h; omega)]; rfl
    | succ j =>
      rw [show p + (j + 1) = p + 1 + j by omega, ih _ _ _ (by simp at h ⊢; omega) (by simpa using hj)]
      rfl
theorem puts_own {base : Nat} {t k g n c : Nat} (vs : List Value) : ∀ (w : World) (xs : List Value) (p : Nat), w.ownsRow base t k (.slice (some ⟨g, 0, none⟩) n c) n xs -> (puts w g p vs).ownsRow base t k (.slice (some ⟨g, 0, none⟩) n c) n (sets xs p vs) := by
  induction vs with
  | nil => intro w xs p h; exact h
  | cons v vs ih => intro w xs p h; exact ih _ _ _ (h.stored p v).1
theorem puts_size {g : Nat} (vs : List Value) : ∀ (w : World) (p : Nat), (puts w g p vs).heap.size = w.heap.size := by
  induction vs with
  | nil => intro w p; rfl
  | cons v vs ih => intro w p; rw [puts, ih]; simp
theorem puts_below {base g : Nat} (hg : base <= g) (vs : List Value) : ∀ (w w1 : World) (p : Nat), Below base w w1 -> Below base w (puts w1 g p vs) := by
  induction vs with
  | nil => intro w w1 p h; exact h
  | cons v vs ih => intro w w1 p h; exact ih _ _ _ (h.setCell hg _)
theorem Own.setLow {base : Nat} {w : World} {ds : List D} (h : Own base w ds) {g : Nat} (hg : g < base) (o : Nat) (v : Value) : Own base (w.setCell ⟨g, o, none⟩ v) ds :=
  h.frame fun b hb => Below.heap_setCell _ _ _ _ (fun e => by have := h.lo b hb; have : b = g := e; omega)
theorem Own.putLow {base : Nat} {ds : List D} {g : Nat} (hg : g < base) (vs : List Value) : ∀ (w : World) (p : Nat), Own base w ds -> Own base (puts w g p vs) ds := by
  induction vs with
  | nil => intro w p h; exact h
  | cons v vs ih => intro w p h; exact ih _ _ (h.setLow hg _ _)
def SomeD (w : World) (t k n : Nat) (ds : List D) (i : Nat) (wr : World) : Prop :=
  w.heap.size < wr.heap.size /\ Below w.heap.size w wr /\ ∃ (xs : List Value) (es : List D), xs.length = n * k /\ wr.ownsRow w.heap.size t k (.slice (some ⟨w.heap.size, 0, none⟩) n n) n xs /\
    es.length = i * k /\ (∀ j (h : j < es.length), xs[j]? = some (val es[j])) /\ erases es = (erases ds).take (i * k) /\ Own (w.heap.size + 1) wr es
theorem someD_step {w wr w2 : World} {t k n i : Nat} {ds A item rest es : List D} (h : SomeD w t k n ds i wr) (hb : Below wr.heap.size wr w2) (ho : Own wr.heap.size w2 es) (he : erases es = erases item) (hd : ds = A ++ (item ++ rest)) (hal : A.length = i * k) (hil : item.length = k) (hlt : i < n) :
    SomeD w t k n ds (i + 1) (puts w2 w.heap.size (i * k) (vals es)) := by
  obtain ⟨hg, hbw, xs, fs, hxl, how, hfl, hfx, hfe, hfo⟩ := h
  have hel : es.length = k := by
    have := congrArg List.length he
    rw [zad, zad] at this
    omega
  have hik : (i + 1) * k <= n * k := Nat.mul_le_mul_right k (by omega)
  rw [Nat.succ_mul] at hik
  refine ⟨by rw [puts_size]; have := hb.size; omega, puts_below (zL _) _ _ _ _ (hbw.trans (hb.mono (by omega))), sets xs (i * k) (vals es), fs ++ es, by rw [sets_len, hxl], puts_own _ _ _ _ (own_keep how hb), by rw [List.length_append, hfl, hel, Nat.succ_mul], fun j hj => ?_, ?_, Own.putLow (Nat.lt_succ_self _) _ _ _ (hfo.snoc hb ho (by omega))⟩
  · rw [List.length_append, hfl, hel] at hj
    by_cases hji : j < i * k
    · rw [sets_low _ _ _ _ hji, hfx j (by omega), List.getElem_append_left (by omega)]
    · have hjj : j = i * k + (j - i * k) := by omega
      have h1 := sets_at (vals es) xs (i * k) (j - i * k) (by rw [vals_len, hel, hxl]; exact hik) (by rw [vals_len]; omega)
      rw [<- hjj] at h1
      rw [h1, vals_get es _ (by omega), List.getElem_append_right (by omega)]
      congr 2
      simp only [hfl]
  · rw [zac, hfe, he, hd, zac, zac, Nat.succ_mul]
    have hA : (erases A).length = i * k := by rw [zad, hal]
    have hI : (erases item).length = k := by rw [zad, hil]
    rw [<- hA, <- hI, List.take_append_of_le_length (zL _), List.take_length, List.take_length_add_append, List.take_append_of_le_length (zL _), List.take_length]
theorem someD_all {w wr : World} {t k n : Nat} {ds : List D} (hk : 0 < k) (hn : ds.length = n * k) (h : SomeD w t k n ds n wr) : ∃ es, erases es = erases ds /\ Row w.heap.size wr t k (.slice (some ⟨w.heap.size, 0, none⟩) n n) es := by
  obtain ⟨hg, hbw, xs, es, hxl, how, hfl, hfx, hfe, hfo⟩ := h
  refine ⟨es, by rw [hfe, <- hn, <- zad, List.take_length], ⟨n, hk, hfl, ?_⟩, hfo.mono (by omega), fun b hb hc => ?_⟩
  · have : xs = vals es := by
      apply List.ext_getElem?
      intro j
      by_cases hj : j < es.length
      · rw [hfx j hj, vals_get es j hj]
      · rw [List.getElem?_eq_none (by omega), List.getElem?_eq_none (by rw [vals_len]; omega)]
    rw [this] at how
    exact how
  · have h1 := hfo.lo b hc
    simp [blk, Value.ownBlock] at hb
    omega
theorem someD_start {w w1 : World} {t k n : Nat} {ds : List D} {xs : List Value} (hown : w1.ownsRow w.heap.size t k (.slice (some ⟨w.heap.size, 0, none⟩) n n) n xs) (hb : Below w.heap.size w w1) : SomeD w t k n ds 0 w1 :=
  ⟨(hown.lt _ rfl).2, hb, xs, [], hown.1, hown, by simp, fun j h => by simp at h, by simp [erases], Own.nil _ _⟩
theorem SomeD.cell {w wr w2 : World} {t k n i : Nat} {ds : List D} (h : SomeD w t k n ds i wr) (hb : Below wr.heap.size wr w2) (hlt : i < n) (r : Nat) (hr : r < k) : ∃ v, w2.cell? ⟨w.heap.size, i * k + r, none⟩ = some v := by
  obtain ⟨hg, hbw, xs, fs, hxl, how, hfl, hfx, hfe, hfo⟩ := h
  have hik : (i + 1) * k <= n * k := Nat.mul_le_mul_right k (by omega)
  rw [Nat.succ_mul] at hik
  rw [(own_keep how hb).cellAt _ (by omega)]
  exact ⟨_, List.getElem?_eq_getElem (by omega)⟩
theorem SomeD.free {w wr w2 : World} {t k n i : Nat} {ds : List D} (h : SomeD w t k n ds i wr) (hb : Below wr.heap.size wr w2) (o : Nat) : w2.frozen? ⟨w.heap.size, o, none⟩ = false := by
  obtain ⟨hg, hbw, xs, fs, hxl, how, hfl, hfx, hfe, hfo⟩ := h
  exact (own_keep how hb).frozenAt o
structure Box (w : World) (ds zs os : List D) (wr : World) : Prop where
  below : Below w.heap.size w wr
  size : w.heap.size + 3 <= wr.heap.size
  a : Cells w.heap.size ds wr
  b : Cells (w.heap.size + 1) zs wr
  c : Cells (w.heap.size + 1 + 1) os wr
  fb : ∀ o, wr.frozen? ⟨w.heap.size + 1, o, none⟩ = false
  fc : ∀ o, wr.frozen? ⟨w.heap.size + 1 + 1, o, none⟩ = false
theorem Box.step {w wr w' : World} {ds zs os : List D} (h : Box w ds zs os wr) (hb : Below wr.heap.size wr w') : Box w ds zs os w' :=
  ⟨h.below.trans (hb.mono (by have := h.size; omega)), Nat.le_trans h.size hb.size, h.a.step hb, h.b.step hb, h.c.step hb,
    fun o => (hb.frozen (p := ⟨_, o, none⟩) (by have := h.size; simp; omega)).trans (h.fb o), fun o => (hb.frozen (p := ⟨_, o, none⟩) (by have := h.size; simp; omega)).trans (h.fc o)⟩
theorem cells_other {B g o : Nat} {ds : List D} {wr : World} (h : Cells B ds wr) (v : Value) (hg : B ≠ g) : Cells B ds (wr.setCell ⟨g, o, none⟩ v) :=
  ⟨by simpa using h.1, fun j hj => (World.cell?_setCell_other _ _ _ _ (by intro e; injection e with e1; exact hg e1.symm)).trans (h.2 j hj)⟩
theorem Cells.set {B : Nat} {ds : List D} {wr : World} (h : Cells B ds wr) (j : Nat) (d : D) (hj : j < ds.length) (hf : wr.frozen? ⟨B, j, none⟩ = false) : Cells B (ds.set j d) (wr.setCell ⟨B, j, none⟩ (val d)) := by
  refine ⟨by simpa using h.1, fun q hq => ?_⟩
  have hq' : q < ds.length := by simpa using hq
  by_cases e : q = j
  · subst e
    have := h.2 q hq'
    rw [List.getElem_set_self]
    go_simp
  · rw [List.getElem_set_ne (by omega)]
    exact (World.cell?_setCell_other _ _ _ _ (by intro e2; injection e2 with _ e3; omega)).trans (h.2 q hq')
theorem Box.set {w wr : World} {ds zs os : List D} (h : Box w ds zs os wr) (j : Nat) (d : D) (hj : j < os.length) : Box w ds zs (os.set j d) (wr.setCell ⟨w.heap.size + 1 + 1, j, none⟩ (val d)) :=
  ⟨h.below.setCell (by show w.heap.size <= w.heap.size + 1 + 1; omega) _, by simpa using h.size, cells_other h.a _ (by omega), cells_other h.b _ (by omega), h.c.set j d hj (h.fc j),
    fun o => by have := h.fb o; go_simp, fun o => by have := h.fc o; go_simp⟩
theorem box_new (w : World) (ds zs os : List D) (t1 t2 t3 : TypeId) : Box w ds zs os (((w.alloc (Obj.cells (vals ds).toArray t1)).alloc (Obj.cells (vals zs).toArray t2)).alloc (Obj.cells (vals os).toArray t3)) := by
  have h1 := (zB w.heap.size w).alloc (zL _) (Obj.cells (vals ds).toArray t1)
  have h2 := (zB (w.alloc (Obj.cells (vals ds).toArray t1)).heap.size (w.alloc (Obj.cells (vals ds).toArray t1))).alloc (zL _) (Obj.cells (vals zs).toArray t2)
  have h3 := (zB ((w.alloc (Obj.cells (vals ds).toArray t1)).alloc (Obj.cells (vals zs).toArray t2)).heap.size ((w.alloc (Obj.cells (vals ds).toArray t1)).alloc (Obj.cells (vals zs).toArray t2))).alloc (zL _) (Obj.cells (vals os).toArray t3)
  have c1 := zab w ds t1
  have c2 := zab (w.alloc (Obj.cells (vals ds).toArray t1)) zs t2
  have c3 := zab ((w.alloc (Obj.cells (vals ds).toArray t1)).alloc (Obj.cells (vals zs).toArray t2)) os t3
  have e1 : (w.alloc (Obj.cells (vals ds).toArray t1)).heap.size = w.heap.size + 1 := by simp
  have e2 : ((w.alloc (Obj.cells (vals ds).toArray t1)).alloc (Obj.cells (vals zs).toArray t2)).heap.size = w.heap.size + 1 + 1 := by simp
  have c2' := c2.step h3
  have c1' := (c1.step h2).step h3
  rw [e1] at c2'
  rw [e2] at c3
  refine ⟨(((zB _ _).alloc (zL _) _).alloc (by simp) _).alloc (by simp; omega) _, by simp, c1', c2', c3, ?_, ?_⟩
  all_goals (intro o; go_simp)
theorem za4 {w : World} {t k : Nat} {v : Value} {ds : List D} (h : Good w (.row t k v ds)) : ∃ a n c, v = .slice a n c := by
  rw [Good] at h
  obtain ⟨⟨n, -, -, ho⟩, -⟩ := h
  obtain ⟨_, ⟨rfl, hn⟩ | ⟨g, cap, cur, rfl, _⟩⟩ := ho
  · exact ⟨none, 0, 0, rfl⟩
  · exact ⟨_, _, _, rfl⟩
end Go.Proofs.YtnlgdkfenipmfaaGreatDoor.Data
