/-
  Data of any type as plain mathematics: what its cells read as, what it weighs, where it lies, when memory holds it for reading or in blocks of its own, and what marking makes of it.
-/
import Derived.Test.YtekeondbbikkpaaGreatBSpecMax
namespace Go.Proofs.YtekeondbbikkpaaGreat.Data
open Go.RowKit
open Strs
inductive P where
  | int (n : Int)
  | str (s : ByteArray)
  | bool (b : Bool)
  | row (k : Nat) (ps : List P)
inductive D where
  | int (n : Int)
  | str (s : ByteArray)
  | bool (b : Bool)
  | row (t k : Nat) (v : Value) (ds : List D)
instance : Inhabited D := ⟨.int 0⟩
instance : Inhabited P := ⟨.int 0⟩
theorem indP {Q : P → Prop} (h1 : ∀ n, Q (.int n)) (h2 : ∀ s, Q (.str s)) (h3 : ∀ b, Q (.bool b)) (h : ∀ k ps, (∀ p, p ∈ ps → Q p) → Q (.row k ps)) : ∀ p, Q p := by
  intro p
  refine P.rec (motive_1 := Q) (motive_2 := fun l => ∀ e, e ∈ l → Q e) h1 h2 h3 h ?_ ?_ p
  · intro e he; cases he
  · intro a l ha hl e he
    cases he with
    | head => exact ha
    | tail _ h => exact hl e h
theorem ind {Q : D → Prop} (h1 : ∀ n, Q (.int n)) (h2 : ∀ s, Q (.str s)) (h3 : ∀ b, Q (.bool b)) (h : ∀ t k v ds, (∀ d, d ∈ ds → Q d) → Q (.row t k v ds)) : ∀ d, Q d := by
  intro d
  refine D.rec (motive_1 := Q) (motive_2 := fun l => ∀ e, e ∈ l → Q e) h1 h2 h3 h ?_ ?_ d
  · intro e he; cases he
  · intro a l ha hl e he
    cases he with
    | head => exact ha
    | tail _ h => exact hl e h
def val : D → Value
  | .int n => .int .i64 n
  | .str s => .string s
  | .bool b => .bool b
  | .row _ _ v _ => v
def vals (ds : List D) : List Value := ds.map val
def agg (ds : List D) : Value := .agg (vals ds).toArray
theorem vals_append (a b : List D) : vals (a ++ b) = vals a ++ vals b := by simp [vals]
theorem vals_len (a : List D) : (vals a).length = a.length := by simp [vals]
theorem vals_get (a : List D) (j : Nat) (h : j < a.length) : (vals a)[j]? = some (val a[j]) := by simp [vals, h]
mutual
def erase : D → P
  | .int n => .int n
  | .str s => .str s
  | .bool b => .bool b
  | .row _ k _ ds => .row k (erases ds)
def erases : List D → List P
  | [] => []
  | d :: ds => erase d :: erases ds
end
theorem erases_map (ds : List D) : erases ds = ds.map erase := by
  induction ds with
  | nil => rfl
  | cons t ts ih => rw [erases, ih]; rfl
theorem erases_append (a b : List D) : erases (a ++ b) = erases a ++ erases b := by simp [erases_map]
theorem erases_len (a : List D) : (erases a).length = a.length := by simp [erases_map]
theorem erases_cons (d : D) (ds : List D) : erases (d :: ds) = erase d :: erases ds := by rw [erases]
theorem erases_split {ds : List D} {a b : List P} (h : erases ds = a ++ b) : ∃ x y, ds = x ++ y ∧ erases x = a ∧ erases y = b := by
  refine ⟨ds.take a.length, ds.drop a.length, (List.take_append_drop _ _).symm, ?_, ?_⟩
  · rw [erases_map] at *
    rw [List.map_take, h]; simp
  · rw [erases_map] at *
    rw [List.map_drop, h]; simp
mutual
def weight : P → Nat
  | .int _ => 0
  | .str s => s.size
  | .bool _ => 0
  | .row k ps => ps.length / k + weights ps
def weights : List P → Nat
  | [] => 0
  | p :: ps => weight p + weights ps
end
theorem weights_append (a b : List P) : weights (a ++ b) = weights a + weights b := by
  induction a with
  | nil => simp [weights]
  | cons e es ih => simp [weights, ih]; omega
mutual
def cnt : P → Nat
  | .int _ => 1
  | .str _ => 1
  | .bool _ => 1
  | .row _ ps => cnts ps
def cnts : List P → Nat
  | [] => 0
  | p :: ps => cnt p + cnts ps
end
theorem cnts_append (a b : List P) : cnts (a ++ b) = cnts a + cnts b := by
  induction a with
  | nil => simp [cnts]
  | cons e es ih => simp [cnts, ih]; omega
def tcnt : P → Nat
  | .row _ ps => cnts ps
  | _ => 0
def tcnts : List P → Nat
  | [] => 0
  | p :: ps => tcnt p + tcnts ps
def blk (v : Value) : List Nat := v.ownBlock.toList
mutual
def foot : D → List Nat
  | .int _ => []
  | .str _ => []
  | .bool _ => []
  | .row _ _ v ds => blk v ++ foots ds
def foots : List D → List Nat
  | [] => []
  | d :: ds => foot d ++ foots ds
end
theorem foots_cons (d : D) (ds : List D) : foots (d :: ds) = foot d ++ foots ds := by rw [foots]
theorem foots_append (a b : List D) : foots (a ++ b) = foots a ++ foots b := by
  induction a with
  | nil => rfl
  | cons t ts ih => rw [List.cons_append, foots, foots, ih, List.append_assoc]
theorem foot_mem {d : D} {ds : List D} (h : d ∈ ds) : ∀ b, b ∈ foot d → b ∈ foots ds := by
  induction ds with
  | nil => cases h
  | cons x xs ih =>
    intro b hb
    rw [foots]
    rcases List.mem_cons.1 h with rfl | h
    · exact List.mem_append_left _ hb
    · exact List.mem_append_right _ (ih h b hb)
theorem foots_mem {ds : List D} {b : Nat} (h : b ∈ foots ds) : ∃ d, d ∈ ds ∧ b ∈ foot d := by
  induction ds with
  | nil => cases h
  | cons x xs ih =>
    rw [foots] at h
    rcases List.mem_append.1 h with h | h
    · exact ⟨x, by simp, h⟩
    · obtain ⟨t, h1, h2⟩ := ih h
      exact ⟨t, by simp [h1], h2⟩
def Kept (lo : Nat) (w w' : World) : Prop := ∀ b o v, lo ≤ b → w.cell? ⟨b, o, none⟩ = some v → w'.cell? ⟨b, o, none⟩ = some v
theorem kept_below {lo : Nat} {w w' : World} (h : Below w.heap.size w w') : Kept lo w w' := fun _ _ _ _ hc => cell_keep h hc
theorem Kept.trans {lo : Nat} {w w' w'' : World} (h : Kept lo w w') (h' : Kept lo w' w'') : Kept lo w w'' := fun b o v hb hc => h' b o v hb (h b o v hb hc)
mutual
def Holds (lo : Nat) (w : World) : D → Prop
  | .int n => (Lit.int .i64 n).wf = true
  | .str s => s.size ≤ maxLen
  | .bool _ => True
  | .row _ k v ds => (∃ a n cap, v = .slice a n cap ∧ 0 < k ∧ ds.length = n * k ∧ n ≤ cap ∧ cap ≤ maxLen ∧ (0 < n → ∃ b o, a = some ⟨b, o, none⟩ ∧ lo ≤ b ∧ ∀ j (h : j < ds.length), w.cell? ⟨b, o + j, none⟩ = some (val ds[j]))) ∧ Holdss lo w ds
def Holdss (lo : Nat) (w : World) : List D → Prop
  | [] => True
  | d :: ds => Holds lo w d ∧ Holdss lo w ds
end
theorem holdss_iff {lo : Nat} {w : World} {ds : List D} : Holdss lo w ds ↔ ∀ d, d ∈ ds → Holds lo w d := by
  induction ds with
  | nil => simp [Holdss]
  | cons t ts ih => rw [Holdss, ih]; simp
theorem Holdss.append {lo : Nat} {w : World} {a b : List D} : Holdss lo w (a ++ b) ↔ Holdss lo w a ∧ Holdss lo w b := by
  rw [holdss_iff, holdss_iff, holdss_iff]
  constructor
  · exact fun h => ⟨fun d hd => h d (by simp [hd]), fun d hd => h d (by simp [hd])⟩
  · rintro ⟨h1, h2⟩ d hd
    rcases List.mem_append.1 hd with h | h
    · exact h1 d h
    · exact h2 d h
theorem Holds.keep {lo hi : Nat} {w w' : World} (hl : lo ≤ hi) (hk : Kept hi w w') : ∀ d, Holds hi w d → Holds lo w' d := by
  refine ind (fun n h => ?_) (fun s h => ?_) (fun b h => ?_) fun t k v ds ih h => ?_
  · rw [Holds] at h ⊢; exact h
  · rw [Holds] at h ⊢; exact h
  · rw [Holds]; trivial
  · rw [Holds] at h ⊢
    obtain ⟨⟨a, n, cap, rfl, h0, h1, h2, h3, h4⟩, h5⟩ := h
    rw [holdss_iff] at h5 ⊢
    refine ⟨⟨a, n, cap, rfl, h0, h1, h2, h3, fun hp => ?_⟩, fun d hd => ih d hd (h5 d hd)⟩
    obtain ⟨b, o, rfl, hb, hc⟩ := h4 hp
    exact ⟨b, o, rfl, Nat.le_trans hl hb, fun j hj => hk _ _ _ hb (hc j hj)⟩
theorem Holdss.keep {lo hi : Nat} {w w' : World} {ds : List D} (h : Holdss hi w ds) (hl : lo ≤ hi) (hk : Kept hi w w') : Holdss lo w' ds := by
  rw [holdss_iff] at h ⊢
  exact fun d hd => Holds.keep hl hk d (h d hd)
theorem Holdss.below {lo : Nat} {w w' : World} {ds : List D} (h : Holdss lo w ds) (hb : Below w.heap.size w w') : Holdss lo w' ds := h.keep (Nat.le_refl _) (kept_below hb)
theorem Holds.below {lo : Nat} {w w' : World} {d : D} (h : Holds lo w d) (hb : Below w.heap.size w w') : Holds lo w' d := Holds.keep (Nat.le_refl _) (kept_below hb) d h
mutual
def Good (w : World) : D → Prop
  | .int n => (Lit.int .i64 n).wf = true
  | .str s => s.size ≤ maxLen
  | .bool _ => True
  | .row t k v ds => (∃ n, 0 < k ∧ ds.length = n * k ∧ w.ownsRow 0 t k v n (vals ds)) ∧ Goods w ds
def Goods (w : World) : List D → Prop
  | [] => True
  | d :: ds => Good w d ∧ Goods w ds
end
theorem goods_iff {w : World} {ds : List D} : Goods w ds ↔ ∀ d, d ∈ ds → Good w d := by
  induction ds with
  | nil => simp [Goods]
  | cons t ts ih => rw [Goods, ih]; simp
theorem Goods.append {w : World} {a b : List D} : Goods w (a ++ b) ↔ Goods w a ∧ Goods w b := by
  rw [goods_iff, goods_iff, goods_iff]
  constructor
  · exact fun h => ⟨fun d hd => h d (by simp [hd]), fun d hd => h d (by simp [hd])⟩
  · rintro ⟨h1, h2⟩ d hd
    rcases List.mem_append.1 hd with h | h
    · exact h1 d h
    · exact h2 d h
theorem own_frame {w w' : World} {base : Nat} {e : TypeId} {size : Nat} {v : Value} {n : Nat} {xs : List Value} (h : w.ownsRow base e size v n xs) (hk : ∀ b, b ∈ blk v → w'.heap[b]? = w.heap[b]?) : w'.ownsRow base e size v n xs := by
  refine ⟨h.1, ?_⟩
  rcases h.2 with hn | ⟨g, cap, cur, rfl, hbg, hgg, rest⟩
  · exact .inl hn
  · refine .inr ⟨g, cap, cur, rfl, hbg, ?_, rest⟩
    rw [hk g (by simp [blk, Value.ownBlock])]
    exact hgg
theorem own_base {w : World} {base base' : Nat} {e : TypeId} {size : Nat} {v : Value} {n : Nat} {xs : List Value} (h : w.ownsRow base e size v n xs) (hk : ∀ b, b ∈ blk v → base' ≤ b) : w.ownsRow base' e size v n xs := by
  refine ⟨h.1, ?_⟩
  rcases h.2 with hn | ⟨g, cap, cur, rfl, hbg, hgg, rest⟩
  · exact .inl hn
  · exact .inr ⟨g, cap, cur, rfl, hk g (by simp [blk, Value.ownBlock]), hgg, rest⟩
theorem own_zero {w : World} {base : Nat} {e : TypeId} {size : Nat} {v : Value} {n : Nat} {xs : List Value} (h : w.ownsRow base e size v n xs) : w.ownsRow 0 e size v n xs := own_base h fun _ _ => Nat.zero_le _
theorem own_blk {w : World} {base : Nat} {e : TypeId} {size : Nat} {v : Value} {n : Nat} {xs : List Value} (h : w.ownsRow base e size v n xs) : ∀ b, b ∈ blk v → base ≤ b ∧ b < w.heap.size := by
  intro b hb
  have : v.ownBlock = some b := by simpa [blk] using hb
  exact h.lt b this
theorem blk_nodup (v : Value) : (blk v).Nodup := by
  unfold blk
  cases v.ownBlock <;> simp
theorem nil_row {w : World} (base : Nat) (e : TypeId) (size : Nat) : w.ownsRow base e size (.slice none 0 0) 0 [] := ⟨by simp, .inl ⟨rfl, rfl⟩⟩
theorem Good.frame {w w' : World} : ∀ d, Good w d → (∀ b, b ∈ foot d → w'.heap[b]? = w.heap[b]?) → Good w' d := by
  refine ind (fun n h _ => ?_) (fun s h _ => ?_) (fun b h _ => ?_) fun t k v ds ih h hk => ?_
  · rw [Good] at h ⊢; exact h
  · rw [Good] at h ⊢; exact h
  · rw [Good]; trivial
  · rw [Good] at h ⊢
    obtain ⟨⟨n, h0, h1, h2⟩, h3⟩ := h
    rw [foot] at hk
    rw [goods_iff] at h3 ⊢
    exact ⟨⟨n, h0, h1, own_frame h2 fun b hb => hk b (by simp [hb])⟩, fun d hd => ih d hd (h3 d hd) fun b hb => hk b (by simp [foot_mem hd b hb])⟩
theorem Goods.frame {w w' : World} {ds : List D} (h : Goods w ds) (hk : ∀ b, b ∈ foots ds → w'.heap[b]? = w.heap[b]?) : Goods w' ds := by
  rw [goods_iff] at h ⊢
  exact fun x hx => Good.frame x (h x hx) fun b hb => hk b (foot_mem hx b hb)
theorem Good.lt {w : World} : ∀ d, Good w d → ∀ b, b ∈ foot d → b < w.heap.size := by
  refine ind (fun n h b hb => ?_) (fun s h b hb => ?_) (fun b h b hb => ?_) fun t k v ds ih h b hb => ?_
  · rw [foot] at hb; cases hb
  · rw [foot] at hb; cases hb
  · rw [foot] at hb; cases hb
  · rw [Good] at h
    obtain ⟨⟨n, h0, h1, h2⟩, h3⟩ := h
    rw [foot] at hb
    rcases List.mem_append.1 hb with hb | hb
    · exact (own_blk h2 b hb).2
    rw [goods_iff] at h3
    obtain ⟨x, hx, hb⟩ := foots_mem hb
    exact ih x hx (h3 x hx) b hb
theorem Goods.lt {w : World} {ds : List D} (h : Goods w ds) : ∀ b, b ∈ foots ds → b < w.heap.size := by
  intro b hb
  obtain ⟨x, hx, hb⟩ := foots_mem hb
  exact Good.lt x (goods_iff.1 h x hx) b hb
theorem Good.holds {w : World} {lo : Nat} : ∀ d, Good w d → (∀ b, b ∈ foot d → lo ≤ b) → Holds lo w d := by
  refine ind (fun n h _ => ?_) (fun s h _ => ?_) (fun b h _ => ?_) fun t k v ds ih h hl => ?_
  · rw [Good] at h; rw [Holds]; exact h
  · rw [Good] at h; rw [Holds]; exact h
  · rw [Holds]; trivial
  · rw [Good] at h
    obtain ⟨⟨n, h0, h1, h2⟩, h3⟩ := h
    rw [foot] at hl
    rw [Holds]
    rw [goods_iff] at h3
    refine ⟨?_, holdss_iff.2 fun d hd => ih d hd (h3 d hd) fun b hb => hl b (by simp [foot_mem hd b hb])⟩
    have h2' := h2
    obtain ⟨_, ⟨rfl, hn⟩ | ⟨g, cap, cur, rfl, hbg, hg, hnc, hcm, _, _⟩⟩ := h2
    · exact ⟨none, 0, 0, rfl, h0, by rw [h1, hn], Nat.le_refl _, by unfold maxLen; omega, fun hp => by omega⟩
    · refine ⟨_, n, cap, rfl, h0, h1, hnc, hcm, fun hp => ⟨g, 0, rfl, hl g (by simp [blk, Value.ownBlock]), fun j hj => ?_⟩⟩
      rw [Nat.zero_add, h2'.cellAt j (by omega)]
      exact vals_get ds j hj
structure Own (base : Nat) (w : World) (ds : List D) : Prop where
  good : Goods w ds
  nd : (foots ds).Nodup
  lo : ∀ b, b ∈ foots ds → base ≤ b
theorem Own.lt {base : Nat} {w : World} {ds : List D} (h : Own base w ds) : ∀ b, b ∈ foots ds → b < w.heap.size := Goods.lt h.good
theorem Own.mono {base base' : Nat} {w : World} {ds : List D} (h : Own base w ds) (hb : base' ≤ base) : Own base' w ds := ⟨h.good, h.nd, fun b k => Nat.le_trans hb (h.lo b k)⟩
theorem Own.frame {base : Nat} {w w' : World} {ds : List D} (h : Own base w ds) (hk : ∀ b, b ∈ foots ds → w'.heap[b]? = w.heap[b]?) : Own base w' ds := ⟨h.good.frame hk, h.nd, h.lo⟩
theorem Own.below {base : Nat} {w w' : World} {ds : List D} (h : Own base w ds) (hb : Below w.heap.size w w') : Own base w' ds := h.frame fun b k => hb.block b (h.lt b k)
theorem Own.holds {base : Nat} {w : World} {ds : List D} (h : Own base w ds) : Holdss base w ds :=
  holdss_iff.2 fun d hd => Good.holds d (goods_iff.1 h.good d hd) fun b hb => h.lo b (foot_mem hd b hb)
theorem Own.nil (base : Nat) (w : World) : Own base w [] := ⟨trivial, List.nodup_nil, (fun _ h => nomatch h)⟩
theorem Own.append {base : Nat} {w : World} {a b : List D} (h : Own base w a) (k : Own base w b) (hd : ∀ x, x ∈ foots a → x ∉ foots b) : Own base w (a ++ b) := by
  refine ⟨Goods.append.2 ⟨h.good, k.good⟩, ?_, fun x hx => ?_⟩
  · rw [foots_append, List.nodup_append]
    exact ⟨h.nd, k.nd, fun x hx y hy e => hd x hx (e ▸ hy)⟩
  · rw [foots_append] at hx
    rcases List.mem_append.1 hx with h1 | h1
    · exact h.lo x h1
    · exact k.lo x h1
theorem Own.snoc {base : Nat} {w w' : World} {a b : List D} (h : Own base w a) (hb : Below w.heap.size w w') (k : Own w.heap.size w' b) (hw : base ≤ w.heap.size) : Own base w' (a ++ b) :=
  (h.below hb).append (k.mono hw) fun x hx hy => by
    have h1 := h.lt x hx
    have h2 := k.lo x hy
    omega
theorem Own.left {base : Nat} {w : World} {a b : List D} (h : Own base w (a ++ b)) : Own base w a := by
  have hn := h.nd
  rw [foots_append, List.nodup_append] at hn
  exact ⟨(Goods.append.1 h.good).1, hn.1, fun x hx => h.lo x (by rw [foots_append]; simp [hx])⟩
theorem Own.right {base : Nat} {w : World} {a b : List D} (h : Own base w (a ++ b)) : Own base w b := by
  have hn := h.nd
  rw [foots_append, List.nodup_append] at hn
  exact ⟨(Goods.append.1 h.good).2, hn.2.1, fun x hx => h.lo x (by rw [foots_append]; simp [hx])⟩
theorem Own.apart {base : Nat} {w : World} {a b : List D} (h : Own base w (a ++ b)) : ∀ x, x ∈ foots a → x ∉ foots b := by
  have hn := h.nd
  rw [foots_append, List.nodup_append] at hn
  exact fun x hx hy => hn.2.2 x hx x hy rfl
theorem own_int {base : Nat} {w : World} {n : Int} (h : (Lit.int .i64 n).wf = true) : Own base w [.int n] := ⟨by rw [Goods, Goods, Good]; exact ⟨h, trivial⟩, by simp [foots, foot], fun b hb => by simp [foots, foot] at hb⟩
theorem own_str {base : Nat} {w : World} {s : ByteArray} (h : s.size ≤ maxLen) : Own base w [.str s] := ⟨by rw [Goods, Goods, Good]; exact ⟨h, trivial⟩, by simp [foots, foot], fun b hb => by simp [foots, foot] at hb⟩
theorem own_bool {base : Nat} {w : World} {x : Bool} : Own base w [.bool x] := ⟨by rw [Goods, Goods, Good]; exact ⟨trivial, trivial⟩, by simp [foots, foot], fun b hb => by simp [foots, foot] at hb⟩
structure Row (base : Nat) (w : World) (t k : Nat) (v : Value) (ds : List D) : Prop where
  own : ∃ n, 0 < k ∧ ds.length = n * k ∧ w.ownsRow base t k v n (vals ds)
  kids : Own base w ds
  apart : ∀ b, b ∈ blk v → b ∉ foots ds
theorem row_iff {base : Nat} {w : World} {t k : Nat} {v : Value} {ds : List D} : Own base w [.row t k v ds] ↔ Row base w t k v ds := by
  constructor
  · rintro ⟨h1, h2, h3⟩
    rw [Goods, Goods, Good] at h1
    obtain ⟨⟨⟨n, h0, h4, h5⟩, h6⟩, -⟩ := h1
    rw [foots, foots, foot, List.append_nil] at h2 h3
    rw [List.nodup_append] at h2
    exact ⟨⟨n, h0, h4, own_base h5 fun b hb => h3 b (by simp [hb])⟩, ⟨h6, h2.2.1, fun b hb => h3 b (by simp [hb])⟩, fun b hb hc => h2.2.2 b hb b hc rfl⟩
  · rintro ⟨⟨n, h0, h4, h5⟩, h6, h7⟩
    refine ⟨?_, ?_, ?_⟩
    · rw [Goods, Goods, Good]
      exact ⟨⟨⟨n, h0, h4, own_zero h5⟩, h6.good⟩, trivial⟩
    · rw [foots, foots, foot, List.append_nil, List.nodup_append]
      exact ⟨blk_nodup _, h6.nd, fun x hx y hy e => h7 x hx (e ▸ hy)⟩
    · rw [foots, foots, foot, List.append_nil]
      intro b hb
      rcases List.mem_append.1 hb with hb | hb
      · exact (own_blk h5 b hb).1
      · exact h6.lo b hb
theorem Row.nil (base : Nat) (w : World) (t k : Nat) (h : 0 < k) : Row base w t k (.slice none 0 0) [] := ⟨⟨0, h, by simp, nil_row _ _ _⟩, Own.nil _ _, fun _ h => nomatch h⟩
theorem Row.below {base : Nat} {w w' : World} {t k : Nat} {v : Value} {ds : List D} (h : Row base w t k v ds) (hb : Below w.heap.size w w') : Row base w' t k v ds := row_iff.1 ((row_iff.2 h).below hb)
theorem Row.mono {base base' : Nat} {w : World} {t k : Nat} {v : Value} {ds : List D} (h : Row base w t k v ds) (hb : base' ≤ base) : Row base' w t k v ds := row_iff.1 ((row_iff.2 h).mono hb)
structure Exc (F : List Nat) (w w' : World) : Prop where
  os : w'.os = w.os
  tape : w'.tape = w.tape
  output : w'.output = w.output
  size : w.heap.size ≤ w'.heap.size
  block : ∀ b, b < w.heap.size → b ∉ F → w'.heap[b]? = w.heap[b]?
theorem Exc.refl (F : List Nat) (w : World) : Exc F w w := ⟨rfl, rfl, rfl, Nat.le_refl _, fun _ _ _ => rfl⟩
theorem Exc.trans {F : List Nat} {a b c : World} (h : Exc F a b) (k : Exc F b c) : Exc F a c :=
  ⟨k.os.trans h.os, k.tape.trans h.tape, k.output.trans h.output, Nat.le_trans h.size k.size, fun x hx hf => (k.block x (Nat.lt_of_lt_of_le hx h.size) hf).trans (h.block x hx hf)⟩
theorem Exc.mono {F F' : List Nat} {a b : World} (h : Exc F a b) (hs : ∀ x, x ∈ F → x ∈ F') : Exc F' a b :=
  ⟨h.os, h.tape, h.output, h.size, fun x hx hf => h.block x hx fun e => hf (hs x e)⟩
theorem Exc.below {F : List Nat} {a b c : World} (h : Exc F a b) (k : Below b.heap.size b c) : Exc F a c :=
  h.trans ⟨k.os, k.tape, k.output, k.size, fun x hx _ => k.block x hx⟩
theorem Exc.set {F : List Nat} {a b : World} (h : Exc F a b) {g o : Nat} (v : Value) (hg : g ∈ F) : Exc F a (b.setCell ⟨g, o, none⟩ v) :=
  h.trans ⟨rfl, rfl, rfl, by simp [World.setCell], fun x _ hf => Below.heap_setCell _ _ _ _ (fun e => hf (by show x ∈ F; rw [show x = g from e]; exact hg))⟩
theorem Exc.low {F : List Nat} {a b : World} {B : Nat} (h : Exc F a b) (hB : B ≤ a.heap.size) (hF : ∀ x, x ∈ F → B ≤ x) : Below B a b :=
  ⟨h.os, h.tape, h.output, h.size, fun x hx => h.block x (by omega) fun e => by have := hF x e; omega⟩
theorem Exc.own {F : List Nat} {a b : World} {base : Nat} {e : TypeId} {size : Nat} {v : Value} {n : Nat} {xs : List Value} (h : Exc F a b) (ho : a.ownsRow base e size v n xs) (hd : ∀ x, x ∈ blk v → x ∉ F) : b.ownsRow base e size v n xs :=
  own_frame ho fun x hx => h.block x (own_blk ho x hx).2 (hd x hx)
theorem Exc.keeps {F : List Nat} {a b : World} {base : Nat} {ds : List D} (h : Exc F a b) (ho : Own base a ds) (hd : ∀ x, x ∈ foots ds → x ∉ F) : Own base b ds :=
  ho.frame fun x hx => h.block x (ho.lt x hx) (hd x hx)
mutual
def marked (k : Nat) : D → D
  | .int _ => .int (k : Int)
  | .str _ => .str (Mark.mark (k : Int))
  | .bool _ => .bool ((k : Int) % 3 == 0)
  | .row t n v ds => .row t n v (markeds k ds)
def markeds (k : Nat) : List D → List D
  | [] => []
  | d :: ds => marked k d :: markeds (k + cnt (erase d)) ds
end
theorem markeds_cons (k : Nat) (d : D) (ds : List D) : markeds k (d :: ds) = marked k d :: markeds (k + cnt (erase d)) ds := by rw [markeds]
theorem cnts_cons (p : P) (ps : List P) : cnts (p :: ps) = cnt p + cnts ps := by rw [cnts]
theorem markeds_append (k : Nat) (a b : List D) : markeds k (a ++ b) = markeds k a ++ markeds (k + cnts (erases a)) b := by
  induction a generalizing k with
  | nil => simp [markeds, cnts, erases]
  | cons t ts ih => rw [List.cons_append, markeds, markeds, ih, erases, cnts, List.cons_append, Nat.add_assoc]
theorem markeds_len (k : Nat) (a : List D) : (markeds k a).length = a.length := by
  induction a generalizing k with
  | nil => rfl
  | cons t ts ih => rw [markeds, List.length_cons, ih]; rfl
theorem foot_marked : ∀ d : D, ∀ k, foot (marked k d) = foot d := by
  refine ind (fun n k => ?_) (fun s k => ?_) (fun b k => ?_) fun t n v ds ih k => ?_
  · rw [marked, foot, foot]
  · rw [marked, foot, foot]
  · rw [marked, foot, foot]
  · rw [marked, foot, foot]
    have h : ∀ (l : List D), (∀ e, e ∈ l → ∀ k, foot (marked k e) = foot e) → ∀ k, foots (markeds k l) = foots l := by
      intro l
      induction l with
      | nil => intro _ _; rfl
      | cons a l ih2 =>
        intro hl k
        rw [markeds, foots, foots, hl a (by simp) k, ih2 (fun e he => hl e (by simp [he]))]
    rw [h ds ih]
theorem foots_markeds (l : List D) : ∀ k, foots (markeds k l) = foots l := by
  induction l with
  | nil => intro _; rfl
  | cons a l ih2 =>
    intro k
    rw [markeds, foots, foots, foot_marked a k, ih2]
def tmarked (k : Nat) : D → D
  | .row t n v ds => .row t n v (markeds k ds)
  | d => d
def tmarkeds (k : Nat) : List D → List D
  | [] => []
  | d :: ds => tmarked k d :: tmarkeds (k + tcnt (erase d)) ds
theorem tmarked_val (k : Nat) (d : D) : val (tmarked k d) = val d := by cases d <;> rfl
theorem tmarkeds_vals (k : Nat) (ds : List D) : vals (tmarkeds k ds) = vals ds := by
  induction ds generalizing k with
  | nil => rfl
  | cons d ds ih => rw [tmarkeds, vals, List.map_cons, tmarked_val]; show _ :: vals _ = _; rw [ih]; rfl
theorem foots_tmarkeds (k : Nat) (ds : List D) : foots (tmarkeds k ds) = foots ds := by
  induction ds generalizing k with
  | nil => rfl
  | cons d ds ih =>
    rw [tmarkeds, foots, foots, ih]
    congr 1
    cases d <;> try rfl
    rw [tmarked, foot, foot, foots_markeds]
end Go.Proofs.YtekeondbbikkpaaGreat.Data
