/-
  Marking texts and trees that lie in blocks of their own: what changes, block by block.
  Marking and holding trees that lie in blocks of their own.
  laws.markExprS: it marks a row of trees and touches nothing else.
  laws.heldExprS: a marked row of trees is held.
  laws.markExpr and laws.heldExpr.
-/
import Derived.Test.YtbflpocbjdccgaaGreatDoorBMax
import Derived.Test.YtbflpocbjdccgaaGreatDoorBPlaced
import Derived.Test.YtbflpocbjdccgaaGreatDoorBParStat
import Derived.Test.YtbflpocbjdccgaaGreatDoorBParSends
namespace Go.Proofs.YtbflpocbjdccgaaGreatDoor.Placed
open Go.RowKit
open Strs Tree

/-- Nothing of before changes but these blocks. -/
structure Exc (F : List Nat) (w w' : World) : Prop where
  os : w'.os = w.os
  tape : w'.tape = w.tape
  output : w'.output = w.output
  size : w.heap.size ≤ w'.heap.size
  block : ∀ b, b < w.heap.size → b ∉ F → w'.heap[b]? = w.heap[b]?
theorem Exc.refl (F : List Nat) (w : World) : Exc F w w := ⟨rfl, rfl, rfl, Nat.le_refl _, fun _ _ _ => rfl⟩
theorem Exc.trans {F : List Nat} {a b c : World} (h : Exc F a b) (k : Exc F b c) : Exc F a c :=
  ⟨k.os.trans h.os, k.tape.trans h.tape, k.output.trans h.output, Nat.le_trans h.size k.size, fun x hx hf => (k.block x (Nat.lt_of_lt_of_le hx h.size) hf).trans (h.block x hx hf)⟩
theorem Exc.mono {F F' : List Nat} {a b : World} (h : Exc F a b) (hs : ∀ x, x ∈ F → x ∈ F') : Exc F' a b :=
  ⟨h.os, h.tape, h.output, h.size, fun x hx hf => h.block x hx fun e => hf (hs x e)⟩
theorem Exc.below {F : List Nat} {a b c : World} (h : Exc F a b) (k : Below b.heap.size b c) : Exc F a c :=
  h.trans ⟨k.os, k.tape, k.output, k.size, fun x hx _ => k.block x hx⟩
theorem Exc.set {F : List Nat} {a b : World} (h : Exc F a b) {g o : Nat} (v : Value) (hg : g ∈ F) : Exc F a (b.setCell ⟨g, o, none⟩ v) :=
  h.trans ⟨rfl, rfl, rfl, by simp [World.setCell], fun x _ hf => Below.heap_setCell _ _ _ _ (fun e => hf (by show x ∈ F; rw [show x = g from e]; exact hg))⟩
theorem Exc.low {F : List Nat} {a b : World} {B : Nat} (h : Exc F a b) (hB : B ≤ a.heap.size) (hF : ∀ x, x ∈ F → B ≤ x) : Below B a b :=
  ⟨h.os, h.tape, h.output, h.size, fun x hx => h.block x (by omega) fun e => by have := hF x e; omega⟩
theorem Exc.own {F : List Nat} {a b : World} {base : Nat} {e : TypeId} {size : Nat} {v : Value} {n : Nat} {xs : List Value} (h : Exc F a b) (ho : a.ownsRow base e size v n xs) (hd : ∀ x, x ∈ blk v → x ∉ F) : b.ownsRow base e size v n xs :=
  own_frame ho fun x hx => h.block x (own_blk ho x hx).2 (hd x hx)
theorem Exc.goods {F : List Nat} {a b : World} {ts : List T} (h : Exc F a b) (ho : Goods a ts) (hd : ∀ x, x ∈ foots ts → x ∉ F) : Goods b ts :=
  ho.frame fun x hx => h.block x (ho.lt x hx) (hd x hx)

set_option maxHeartbeats 1000000 in
theorem mark_x (g cap n base k : Nat) (K : Int) (xs : List ByteArray) (w : World) (hn : xs.length = n) (hK : K = k) (hk : 0 < k) (hkn : k + n ≤ 4611686018427387904)
    (hown : w.ownsRow base 9 1 (.slice (some ⟨g, 0, none⟩) n cap) n (xs.map Value.string)) :
    Calls Tryz.prog 18 #[.slice (some ⟨g, 0, none⟩) n cap, .int .i64 K] w fun e w' =>
      e = .returned (.int .i64 ((k + n : Nat) : Int)) ∧ w'.ownsRow base 9 1 (.slice (some ⟨g, 0, none⟩) n cap) n ((marks k n).map Value.string) ∧ Exc [g] w w' := by
  obtain ⟨hbg, hgl⟩ := hown.lt g rfl
  subst hK
  have HN := Lib.hid hn; clear hn
  go_enter Tryz.func18, Tryz.ntmps18
  go_wp2_with fail
  go_loopw [1, 5] (fun q j wr => ∃ i : Nat, i ≤ n ∧ j = .int .i64 i ∧ q = .int .i64 ((k + i : Nat) : Int) ∧ wr.ownsRow base 9 1 (.slice (some ⟨g, 0, none⟩) n cap) n ((marks k i ++ xs.drop i).map Value.string) ∧ Exc [g] w wr) (fun _ j _ => n - (intOf j).toNat)
  case atStart => exact ⟨0, by omega, rfl, rfl, by simpa [marks] using hown, Exc.refl _ _⟩
  case round =>
    obtain ⟨i, hi, rfl, rfl, ho, hbw⟩ := hrel
    by_cases hlt : i < n
    · have HO := Lib.hid ho; clear ho
      have hpos : (0 : Int) < ((k + i : Nat) : Int) := by omega
      have hsm : ((k + i : Nat) : Int) ≤ 4611686018427387904 := by omega
      generalize hq : k + i = q at *
      have HQ := Lib.hid hq; clear hq
      go_wp2_with fail
      refine (Mark.mark_any (q : Int) wr hpos (by omega)).mono ?_
      rintro e w1 ⟨rfl, hb1⟩
      have HO1 := Lib.hid (own_keep HO.out hb1)
      have hlen : (marks k i ++ xs.drop i).length = n := by have := HN.out; have := marks_len k i; simp; omega
      have hcell : ∃ v, w1.cell? ⟨g, i, none⟩ = some v := by
        rw [HO1.out.cellAt _ (by omega)]
        exact ⟨_, List.getElem?_eq_getElem (by rw [List.length_map, hlen]; exact hlt)⟩
      obtain ⟨v, hcell⟩ := hcell
      have hfr : w1.frozen? ⟨g, i, none⟩ = false := HO1.out.frozenAt _
      have HB : Hid (Exc [g] w w1) := hbw.below hb1
      have HM : Hid ((marks k i ++ xs.drop i).set i (Mark.mark (q : Int)) = marks k (i + 1) ++ xs.drop (i + 1)) := by rw [← HQ.out]; exact marks_set k i xs (by rw [HN.out]; exact hlt)
      clear hlen hb1 HO hbw
      generalize Mark.mark (q : Int) = mk at *
      go_wp2_with fail
      go_roundw
      case rel =>
        have HO2 := (HO1.out.stored i (.string mk)).1
        rw [← List.map_set, HM.out] at HO2
        exact ⟨i + 1, by omega, by go_num, by rw [← Nat.add_assoc, HQ.out]; go_num, HO2, HB.out.set _ (by simp)⟩
      case measure => simp [intOf]; omega
    · have hin : i = n := by omega
      subst hin
      go_wp2_with fail
      go_ret
      exact ⟨rfl, by rw [List.drop_of_length_le (by rw [HN.out]; exact Nat.le_refl _), List.append_nil] at ho; exact ho, hbw⟩
set_option maxHeartbeats 1000000 in
theorem mark_none (a : Option Addr) (c : Nat) (K : Int) (w : World) :
    Calls Tryz.prog 18 #[.slice a 0 c, .int .i64 K] w fun e w' => e = .returned (.int .i64 K) ∧ Below w.heap.size w w' := by
  go_enter Tryz.func18, Tryz.ntmps18
  go_wp2_with fail
  refine wp_loop_rounds 1 ?_
  rw [rounds_succ]
  go_wp2_with fail
  go_ret
  exact ⟨rfl, Below.refl _ _⟩
set_option maxHeartbeats 1000000 in
theorem held_none (a : Option Addr) (c : Nat) (K : Int) (w : World) :
    Calls Tryz.prog 20 #[.slice a 0 c, .int .i64 K] w fun e w' => e = .returned (.int .i64 K) ∧ Below w.heap.size w w' := by
  go_enter Tryz.func20, Tryz.ntmps20
  go_wp2_with fail
  refine wp_loop_rounds 1 ?_
  rw [rounds_succ]
  go_wp2_with fail
  go_ret
  exact ⟨rfl, Below.refl _ _⟩
/-- A row of texts is marked. -/
theorem mark_names {base k : Nat} {xs : List ByteArray} {v : Value} {w : World} (hown : w.ownsRow base 9 1 v xs.length (xs.map Value.string)) (hk : 0 < k) (hkn : k + xs.length ≤ 4611686018427387904) :
    Calls Tryz.prog 18 #[v, .int .i64 (k : Int)] w fun e w' =>
      e = .returned (.int .i64 ((k + xs.length : Nat) : Int)) ∧ w'.ownsRow base 9 1 v xs.length ((marks k xs.length).map Value.string) ∧ Exc (blk v) w w' := by
  have hown' := hown
  obtain ⟨-, ⟨rfl, hn⟩ | ⟨g, cap, cur, rfl, -⟩⟩ := hown
  · refine (mark_none none 0 k w).mono ?_
    rintro e w' ⟨rfl, hb⟩
    refine ⟨by rw [hn]; rfl, ?_, (Exc.refl _ _).below hb⟩
    rw [hn]
    exact nil_row _ _ _
  · refine (mark_x g cap xs.length base k k xs w rfl rfl hk hkn hown').mono ?_
    rintro e w' ⟨h1, h2, h3⟩
    exact ⟨h1, h2, h3.mono fun x hx => by simpa [blk, Value.ownBlock] using hx⟩
/-- A row of marked texts is held. -/
theorem held_names {base k n : Nat} {v : Value} {w : World} (hown : w.ownsRow base 9 1 v n ((marks k n).map Value.string)) (hk : 0 < k) (hkn : k + n ≤ 4611686018427387904) :
    Calls Tryz.prog 20 #[v, .int .i64 (k : Int)] w fun e w' => e = .returned (.int .i64 ((k + n : Nat) : Int)) ∧ Below w.heap.size w w' := by
  have hown' := hown
  obtain ⟨-, ⟨rfl, hn⟩ | ⟨g, cap, cur, rfl, -⟩⟩ := hown
  · rw [hn]
    exact held_none none 0 k w
  · refine held_row g 0 cap n k k w rfl hk hkn fun j hj => ?_
    rw [Nat.zero_add, hown'.cellAt j (by omega), ← marks_at k n j hj]
    have hl := marks_len k n
    simp [List.getD, hl, hj]
end Go.Proofs.YtbflpocbjdccgaaGreatDoor.Placed

namespace Go.Proofs.YtbflpocbjdccgaaGreatDoor.Placed
open Go.RowKit
open Strs Tree
open Go.Proofs.YtbflpocbjdccgaaGreatDoor.ParI (Row)

mutual
/-- How many marks a node of a row takes. -/
def cnt : T → Nat
  | .mk _ _ _ ns _ _ ks => 3 + ns.length + cnts ks
def cnts : List T → Nat
  | [] => 0
  | t :: ts => cnt t + cnts ts
end
mutual
/-- The marked node of a row. -/
def marked (k : Nat) : T → T
  | .mk _ _ _ ns vn vk ks => .mk (k : Int) (Mark.mark ((k + 1 : Nat) : Int)) ((k + 2 : Nat) : Int) (marks (k + 3) ns.length) vn vk (markeds (k + 3 + ns.length) ks)
def markeds (k : Nat) : List T → List T
  | [] => []
  | t :: ts => marked k t :: markeds (k + cnt t) ts
end
theorem cnts_append (a b : List T) : cnts (a ++ b) = cnts a + cnts b := by
  induction a with
  | nil => simp [cnts]
  | cons t ts ih => rw [List.cons_append, cnts, cnts, ih]; omega
theorem markeds_append (k : Nat) (a b : List T) : markeds k (a ++ b) = markeds k a ++ markeds (k + cnts a) b := by
  induction a generalizing k with
  | nil => simp [markeds, cnts]
  | cons t ts ih => rw [List.cons_append, markeds, markeds, ih, cnts, List.cons_append, Nat.add_assoc]
theorem markeds_len (k : Nat) (a : List T) : (markeds k a).length = a.length := by
  induction a generalizing k with
  | nil => rfl
  | cons t ts ih => rw [markeds, List.length_cons, ih]; rfl
theorem foots_marked : ∀ t : T, ∀ k, foot (marked k t) = foot t := by
  refine ind fun kd tx nm ns vn vk ks ih => ?_
  intro k
  rw [marked, foot, foot]
  have h : ∀ (l : List T), (∀ e, e ∈ l → ∀ k, foot (marked k e) = foot e) → ∀ k, foots (markeds k l) = foots l := by
    intro l
    induction l with
    | nil => intro _ _; rfl
    | cons a l ih2 =>
      intro hl k
      rw [markeds, foots, foots, hl a (by simp) k, ih2 (fun e he => hl e (by simp [he]))]
  rw [h ks ih]
theorem foots_markeds (l : List T) : ∀ k, foots (markeds k l) = foots l := by
  induction l with
  | nil => intro _; rfl
  | cons a l ih2 =>
    intro k
    rw [markeds, foots, foots, foots_marked a k, ih2]
theorem cells_get (A B : List T) (t : T) (j : Nat) (hj : j < 5) : (row (A ++ t :: B))[A.length * 5 + j]? = (cells t)[j]? := by
  rw [row_append, row_cons, List.getElem?_append_right (by rw [row_len]; omega), row_len, Nat.add_sub_cancel_left, List.getElem?_append_left (by simp [cells]; exact hj)]
theorem cells_set (A B : List T) (t t' : T) (j : Nat) (u : Value) (hj : j < 5) (h : cells t' = (cells t).set j u) : (row (A ++ t :: B)).set (A.length * 5 + j) u = row (A ++ t' :: B) := by
  rw [row_append, row_append, row_cons, row_cons, List.set_append_right _ _ (by rw [row_len]; omega), row_len, Nat.add_sub_cancel_left, List.set_append_left _ _ (by simp [cells]; exact hj), h]
theorem foots_mid (A B : List T) (t : T) : foots (A ++ t :: B) = foots A ++ (foot t ++ foots B) := by rw [foots_append, foots]
theorem mid_len (A B : List T) (t t' : T) : (A ++ t :: B).length = (A ++ t' :: B).length := by simp
/-- One cell of a node in a row changes. -/
theorem row_store {base : Nat} {w : World} {A B : List T} {t : T} (t' : T) {g c n j : Nat} {u : Value} (h : Row base w (A ++ t :: B) (.slice (some ⟨g, 0, none⟩) n c)) (hn : (A ++ t :: B).length = n) (hj : j < 5) (hc : cells t' = (cells t).set j u) (hf : foot t' = foot t) (hg : Good w t') :
    Row base (w.setCell ⟨g, A.length * 5 + j, none⟩ u) (A ++ t' :: B) (.slice (some ⟨g, 0, none⟩) n c) := by
  obtain ⟨h1, h2, h3⟩ := h
  have hfe : foots (A ++ t' :: B) = foots (A ++ t :: B) := by rw [foots_mid, foots_mid, hf]
  have hap : ∀ b, b ∈ foots (A ++ t :: B) → b ≠ g := fun b hb e => by
    subst e
    exact h3 b (by simp [blk, Value.ownBlock]) hb
  have hfr : ∀ b, b ≠ g → (w.setCell ⟨g, A.length * 5 + j, none⟩ u).heap[b]? = w.heap[b]? := fun b hb => Below.heap_setCell _ _ _ _ (fun e => hb e)
  refine ⟨?_, ⟨?_, by rw [hfe]; exact h2.nd, by rw [hfe]; exact h2.lo⟩, fun b hb => by rw [hfe]; exact h3 b hb⟩
  · subst hn
    have h4 := (h1.stored (A.length * 5 + j) u).1
    rw [cells_set A B t t' j u hj hc, mid_len A B t t'] at h4
    rw [mid_len A B t t']
    exact h4
  · rw [goods_iff]
    intro x hx
    have h5 := goods_iff.1 h2.good
    rcases List.mem_append.1 hx with hx | hx
    · exact Good.frame x (h5 x (by simp [hx])) fun b hb => hfr b (hap b (foot_mem (by simp [hx]) b hb))
    rcases List.mem_cons.1 hx with rfl | hx
    · exact Good.frame x hg fun b hb => hfr b (hap b (by rw [← hfe]; exact foot_mem (by simp) b hb))
    · exact Good.frame x (h5 x (by simp [hx])) fun b hb => hfr b (hap b (foot_mem (by simp [hx]) b hb))
/-- What a node in a row leads to changes. -/
theorem row_touch {base : Nat} {w w' : World} {A B : List T} {t : T} (t' : T) {v : Value} {F : List Nat} (h : Row base w (A ++ t :: B) v) (hc : cells t' = cells t) (hf : foot t' = foot t) (hg : Good w' t') (hx : Exc F w w') (hF : ∀ b, b ∈ F → b ∈ foot t) :
    Row base w' (A ++ t' :: B) v := by
  obtain ⟨h1, h2, h3⟩ := h
  have hfe : foots (A ++ t' :: B) = foots (A ++ t :: B) := by rw [foots_mid, foots_mid, hf]
  have hnd := h2.nd
  rw [foots_mid, List.nodup_append] at hnd
  have hnd2 := hnd.2.1
  rw [List.nodup_append] at hnd2
  have h5 := goods_iff.1 h2.good
  have hbl := Goods.lt h2.good
  refine ⟨?_, ⟨?_, by rw [hfe]; exact h2.nd, by rw [hfe]; exact h2.lo⟩, fun b hb => by rw [hfe]; exact h3 b hb⟩
  · have h4 := hx.own h1 fun b hb hb2 => h3 b hb (by rw [foots_mid]; simp [hF b hb2])
    rw [← mid_len A B t t']
    have e : row (A ++ t' :: B) = row (A ++ t :: B) := by rw [row_append, row_append, row_cons, row_cons, hc]
    rw [e]
    exact h4
  · rw [goods_iff]
    intro x hxm
    rcases List.mem_append.1 hxm with hm | hm
    · exact Good.frame x (h5 x (by simp [hm])) fun b hb => hx.block b (hbl b (foot_mem (by simp [hm]) b hb)) fun e => hnd.2.2 b (foot_mem hm b hb) b (by simp [hF b e]) rfl
    rcases List.mem_cons.1 hm with rfl | hm
    · exact hg
    · exact Good.frame x (h5 x (by simp [hm])) fun b hb => hx.block b (hbl b (foot_mem (by simp [hm]) b hb)) fun e => hnd2.2.2 b (hF b e) b (foot_mem hm b hb) rfl
theorem row_below {base : Nat} {w w' : World} {ts : List T} {v : Value} (h : Row base w ts v) (hb : Below w.heap.size w w') : Row base w' ts v := h.below hb
/-- The node in a row, by itself. -/
theorem row_own {base : Nat} {w : World} {A B : List T} {t : T} {v : Value} (h : Row base w (A ++ t :: B) v) : Own base w t := by
  have h2 := h.kids
  have hnd := h2.nd
  rw [foots_mid, List.nodup_append] at hnd
  have hnd2 := hnd.2.1
  rw [List.nodup_append] at hnd2
  exact ⟨goods_iff.1 h2.good t (by simp), hnd2.1, fun b hb => h2.lo b (by rw [foots_mid]; simp [hb])⟩
/-- A node's kids are marked as a row. -/
def MarkOk (ts : List T) : Prop := ∀ (base k : Nat) (v : Value) (w : World), Row base w ts v → 0 < k → k + cnts ts ≤ 4611686018427387904 → Calls Tryz.prog 19 #[v, .int .i64 (k : Int)] w fun e w' => e = .returned (.int .i64 ((k + cnts ts : Nat) : Int)) ∧ Row base w' (markeds k ts) v ∧ Exc (blk v ++ foots ts) w w'
end Go.Proofs.YtbflpocbjdccgaaGreatDoor.Placed

namespace Go.Proofs.YtbflpocbjdccgaaGreatDoor.Placed
open Go.RowKit
open Strs Tree
open Go.Proofs.YtbflpocbjdccgaaGreatDoor.ParI (Row good_forms)

set_option maxHeartbeats 1000000 in
theorem mark_kids_none (a : Option Addr) (c : Nat) (K : Int) (w : World) :
    Calls Tryz.prog 19 #[.slice a 0 c, .int .i64 K] w fun e w' => e = .returned (.int .i64 K) ∧ Below w.heap.size w w' := by
  go_enter Tryz.func19, Tryz.ntmps19
  go_wp2_with fail
  refine wp_loop_rounds 1 ?_
  rw [rounds_succ]
  go_wp2_with fail
  go_ret
  exact ⟨rfl, Below.refl _ _⟩

theorem wf_mid (n : Nat) (h : n ≤ 4611686018427387904) : (Lit.int .i64 (n : Nat)).wf = true := by
  have e1 : IntKind.min .i64 = -9223372036854775808 := by decide
  have e2 : IntKind.max .i64 = 9223372036854775807 := by decide
  rw [Lit.wf_int_iff, e1, e2]
  omega
theorem mark_small (n : Int) : (Mark.mark n).size ≤ maxLen := by
  have h := Num.decN_len n.natAbs
  have e : (Mark.mark n).size = (Num.decN n.natAbs).length + 1 := by
    show ((109 :: Num.decN n.natAbs).toArray).size = _
    simp
  rw [e]
  unfold maxLen
  omega
theorem marks_small (k n : Nat) : ∀ x, x ∈ marks k n → x.size ≤ maxLen := by
  induction n with
  | zero => intro x hx; cases hx
  | succ n ih =>
    intro x hx
    rw [marks] at hx
    rcases List.mem_append.1 hx with h | h
    · exact ih x h
    · rw [List.mem_singleton.1 h]
      exact mark_small _
theorem good_names {w w' : World} {k n : Int} {s : ByteArray} {ns ns' : List ByteArray} {vn vk : Value} {ks : List T} (h : Good w (.mk k s n ns vn vk ks)) (hnd : (foot (.mk k s n ns vn vk ks)).Nodup) (hx : Exc (blk vn) w w') (hs : ∀ x, x ∈ ns' → x.size ≤ maxLen) (hl : ns'.length = ns.length) (ho : w'.ownsRow 0 9 1 vn ns.length (ns'.map Value.string)) :
    Good w' (.mk k s n ns' vn vk ks) := by
  rw [Good] at h ⊢
  obtain ⟨h1, h2, h3, h4, h5, h6, h7⟩ := h
  rw [foot, List.nodup_append] at hnd
  rw [hl]
  exact ⟨h1, h2, h3, hs, ho, hx.own h6 (fun b hb hc => hnd.2.2 b hc b (by simp [hb]) rfl), hx.goods h7 (fun b hb hc => hnd.2.2 b hc b (by simp [hb]) rfl)⟩
theorem good_kids {base : Nat} {w w' : World} {k n : Int} {s : ByteArray} {ns : List ByteArray} {vn vk : Value} {ks ks' : List T} (h : Good w (.mk k s n ns vn vk ks)) (hnd : (foot (.mk k s n ns vn vk ks)).Nodup) (hx : Exc (blk vk ++ foots ks) w w') (hr : Row base w' ks' vk) : Good w' (.mk k s n ns vn vk ks') := by
  rw [Good] at h ⊢
  obtain ⟨h1, h2, h3, h4, h5, h6, h7⟩ := h
  rw [foot, List.nodup_append] at hnd
  exact ⟨h1, h2, h3, h4, hx.own h5 (fun b hb hc => hnd.2.2 b hb b hc rfl), own_zero hr.own, hr.kids.good⟩
/-- The cell of a node in a row. -/
theorem row_cell {base : Nat} {w : World} {A B : List T} {t : T} {g c n : Nat} (h : Row base w (A ++ t :: B) (.slice (some ⟨g, 0, none⟩) n c)) (j : Nat) (hj : j < 5) : w.cell? ⟨g, A.length * 5 + j, none⟩ = (cells t)[j]? ∧ w.frozen? ⟨g, A.length * 5 + j, none⟩ = false := by
  have hl : A.length * 5 + j < (A ++ t :: B).length * 5 := by simp; omega
  have h1 := h.own
  have hn : n = (A ++ t :: B).length := by
    obtain ⟨-, ⟨hv, -⟩ | ⟨g', cap, cur, hv, -⟩⟩ := h1
    · cases hv
    · cases hv; rfl
  subst hn
  refine ⟨?_, h1.frozenAt _⟩
  rw [h1.cellAt _ hl, cells_get A B t j hj]

set_option maxRecDepth 10000 in
set_option maxHeartbeats 8000000 in
theorem mark_kids {ts : List T} (ih : ∀ t, t ∈ ts → MarkOk t.kids) : MarkOk ts := by
  intro base k v w hrow hk hkn
  have hcase := ParI.own_cases hrow.own
  rcases hcase with ⟨hv, hn0⟩ | ⟨g, c, hv⟩
  · subst hv
    have hts : ts = [] := List.eq_nil_of_length_eq_zero hn0
    subst hts
    refine (mark_kids_none none 0 k w).mono ?_
    rintro e w' ⟨rfl, hb⟩
    exact ⟨rfl, Row.nil _ _, (Exc.refl _ _).below hb⟩
  subst hv
  have hroom : ts.length ≤ maxLen := by
    obtain ⟨-, ⟨hv, -⟩ | ⟨g', cap, cur, hv, -, -, h1, h2, -⟩⟩ := hrow.own
    · cases hv
    · exact Nat.le_trans h1 h2
  unfold maxLen at hroom
  have HROW := Lib.hid hrow
  have IH := Lib.hid ih
  clear ih hrow
  generalize hn : ts.length = n at *
  have HN := Lib.hid hn; clear hn
  go_enter Tryz.func19, Tryz.ntmps19
  go_wp2_with fail
  go_loopw [1, 5] (fun q j wr => ∃ D R : List T, ts = D ++ R ∧ j = .int .i64 (D.length : Int) ∧ q = .int .i64 ((k + cnts D : Nat) : Int) ∧ Row base wr (markeds k D ++ R) (.slice (some ⟨g, 0, none⟩) n c) ∧ Exc (blk (.slice (some ⟨g, 0, none⟩) n c) ++ foots ts) w wr) (fun _ j _ => n - (intOf j).toNat)
  case atStart => exact ⟨[], ts, rfl, rfl, rfl, HROW.out, Exc.refl _ _⟩
  case round =>
    clear HROW
    obtain ⟨D, R, hts, rfl, rfl, hrow, hexc⟩ := hrel
    have HTS := Lib.hid hts
    have HROW := Lib.hid hrow
    have HEXC := Lib.hid hexc
    clear hts hrow hexc
    generalize hi : D.length = i at *
    have HI := Lib.hid hi; clear hi
    generalize hq : k + cnts D = q at *
    have HQ := Lib.hid hq; clear hq
    cases R with
    | nil =>
      have hin : i = n := by rw [← HI.out, ← HN.out, HTS.out, List.append_nil]
      have hqq : q = k + cnts ts := by rw [← HQ.out, HTS.out, List.append_nil]
      have hlt : ¬ ((i : Int) < (n : Int)) := by omega
      have HQQ := Lib.hid hqq; clear hqq
      clear hin
      go_wp2_with fail
      go_ret
      refine ⟨by rw [HQQ.out]; rfl, ?_, HEXC.out⟩
      have h1 := HROW.out
      rw [List.append_nil] at h1
      rw [HTS.out, List.append_nil]
      exact h1
    | cons t B =>
      have hlt : (i : Int) < (n : Int) := by
        have h1 := HN.out
        rw [HTS.out] at h1
        simp at h1
        have := HI.out
        omega
      have hqb : q + cnt t ≤ 4611686018427387904 := by
        have h1 := hkn
        rw [HTS.out, cnts_append, cnts] at h1
        have := HQ.out
        omega
      have hqp : 0 < q := by have := HQ.out; omega
      have hal : (markeds k D).length = i := by rw [markeds_len, HI.out]
      have hlen : (markeds k D ++ t :: B).length = n := by
        rw [List.length_append, hal, ← HN.out, HTS.out, List.length_append, HI.out]
      have HAL := Lib.hid hal
      have HLEN := Lib.hid hlen
      have hot := row_own HROW.out
      have KIH := Lib.hid (IH.out t (by rw [HTS.out]; simp))
      obtain ⟨va, vc, vb, vd, hf1, hf2⟩ := good_forms hot.good
      obtain ⟨uk, ut, un, uns, uvn, uvk, uks⟩ := t
      simp only [T.vn, T.vk, T.names, T.kids] at hf1 hf2 KIH
      subst hf1 hf2
      rw [cnt] at hqb
      obtain ⟨c0, z0⟩ := row_cell HROW.out 0 (by decide)
      rw [hal] at c0 z0
      replace c0 : wr.cell? ⟨g, i * 5, none⟩ = some (.int .i64 uk) := c0
      replace z0 : wr.frozen? ⟨g, i * 5, none⟩ = false := z0
      clear hal hlen
      have hgd := good_iff.1 hot.good
      have hgt : ∀ w', Good w' (.mk uk ut un uns (.slice va uns.length vc) (.slice vb uks.length vd) uks) → Good w' (.mk (q : Int) ut un uns (.slice va uns.length vc) (.slice vb uks.length vd) uks) := fun w' h => by
        rw [Good] at h ⊢
        exact ⟨wf_mid q (by omega), h.2⟩
      have hr1 := row_store (.mk (q : Int) ut un uns (.slice va uns.length vc) (.slice vb uks.length vd) uks) HROW.out HLEN.out (j := 0) (u := .int .i64 (q : Int)) (by decide) rfl rfl (hgt _ hot.good)
      rw [HAL.out] at hr1
      replace hr1 : Row base (wr.setCell ⟨g, i * 5, none⟩ (.int .i64 (q : Int))) (markeds k D ++ T.mk (q : Int) ut un uns (.slice va uns.length vc) (.slice vb uks.length vd) uks :: B) (.slice (some ⟨g, 0, none⟩) n c) := hr1
      have HR1 := Lib.hid hr1
      have hgf : g ∈ blk (.slice (some ⟨g, 0, none⟩) n c) ++ foots ts := by simp [blk, Value.ownBlock]
      have HX1 : Hid (Exc (blk (.slice (some ⟨g, 0, none⟩) n c) ++ foots ts) w (wr.setCell ⟨g, i * 5, none⟩ (.int .i64 (q : Int)))) := Lib.hid (HEXC.out.set _ hgf)
      clear hr1 hot hgd hgt HROW HEXC
      go_wp2_with fail
      refine (Mark.mark_any ((q : Int) + 1) _ (by omega) (by omega)).mono ?_
      rintro e w2 ⟨rfl, hb2⟩
      have HR2 := Lib.hid (HR1.out.below hb2)
      have HX2 := Lib.hid (HX1.out.below hb2)
      obtain ⟨c1, z1⟩ := row_cell HR2.out 1 (by decide)
      obtain ⟨c2, z2⟩ := row_cell HR2.out 2 (by decide)
      obtain ⟨c3, z3⟩ := row_cell HR2.out 3 (by decide)
      rw [HAL.out] at c1 z1 c2 z2 c3 z3
      replace c1 : w2.cell? ⟨g, i * 5 + 1, none⟩ = some (.string ut) := c1
      replace c2 : w2.cell? ⟨g, i * 5 + 2, none⟩ = some (.int .i64 un) := c2
      replace c3 : w2.cell? ⟨g, i * 5 + 3, none⟩ = some (.slice va uns.length vc) := c3
      clear hb2 HR1 HX1 c0 z0 z3
      have hms : (Mark.mark ((q : Int) + 1)).size ≤ maxLen := mark_small _
      generalize hmk : Mark.mark ((q : Int) + 1) = mk at *
      have HMK := Lib.hid hmk; clear hmk
      have hg2 : Good w2 (T.mk (q : Int) mk un uns (.slice va uns.length vc) (.slice vb uks.length vd) uks) := by
        have h := (row_own HR2.out).good
        rw [Good] at h ⊢
        exact ⟨h.1, h.2.1, hms, h.2.2.2⟩
      have hr2 := row_store (T.mk (q : Int) mk un uns (.slice va uns.length vc) (.slice vb uks.length vd) uks) HR2.out (by rw [mid_len _ _ _ (T.mk (q : Int) ut un uns (.slice va uns.length vc) (.slice vb uks.length vd) uks)] at *; exact HLEN.out) (j := 1) (u := .string mk) (by decide) rfl rfl hg2
      rw [HAL.out] at hr2
      have hlen2 : (markeds k D ++ (T.mk (q : Int) mk un uns (.slice va uns.length vc) (.slice vb uks.length vd) uks) :: B).length = n := by
        have := HLEN.out
        simpa using this
      have hg3 : Good (w2.setCell ⟨g, i * 5 + 1, none⟩ (.string mk)) (T.mk (q : Int) mk ((q : Int) + 1 + 1) uns (.slice va uns.length vc) (.slice vb uks.length vd) uks) := by
        have h := (row_own hr2).good
        rw [Good] at h ⊢
        exact ⟨h.1, wf_mid (q + 2) (by omega), h.2.2⟩
      have hr3 := row_store (T.mk (q : Int) mk ((q : Int) + 1 + 1) uns (.slice va uns.length vc) (.slice vb uks.length vd) uks) hr2 hlen2 (j := 2) (u := .int .i64 ((q : Int) + 1 + 1)) (by decide) rfl rfl hg3
      rw [HAL.out] at hr3
      obtain ⟨w3, hw3⟩ : ∃ w3, w3 = (w2.setCell ⟨g, i * 5 + 1, none⟩ (.string mk)).setCell ⟨g, i * 5 + 2, none⟩ (.int .i64 ((q : Int) + 1 + 1)) := ⟨_, rfl⟩
      have HX3 : Hid (Exc (blk (.slice (some ⟨g, 0, none⟩) n c) ++ foots ts) w w3) := Lib.hid (by rw [hw3]; exact (HX2.out.set _ hgf).set _ hgf)
      rw [← hw3] at hr3
      have hot3 := row_own hr3
      have KN : Hid (Calls Tryz.prog 18 #[.slice va uns.length vc, .int .i64 ((q : Int) + 1 + 1 + 1)] w3 fun e w' => e = .returned (.int .i64 ((q + 3 + uns.length : Nat) : Int)) ∧ w'.ownsRow 0 9 1 (.slice va uns.length vc) uns.length ((marks (q + 3) uns.length).map Value.string) ∧ Exc (blk (.slice va uns.length vc)) w3 w') := Lib.hid (by
        have h := mark_names (k := q + 3) (good_iff.1 hot3.good).names (by omega) (by show q + 3 + uns.length ≤ _; omega)
        rw [show ((q + 3 : Nat) : Int) = (q : Int) + 1 + 1 + 1 by omega] at h
        exact h)
      have HR3 := Lib.hid hr3
      have HW3 := Lib.hid hw3
      clear hg2 hr2 hlen2 hg3 hr3 hot3 hw3 HX2 HR2
      go_upto_region 10 with fail
      rw [← HW3.out]
      obtain ⟨c3', -⟩ := row_cell HR3.out 3 (by decide)
      rw [HAL.out] at c3'
      replace c3' : w3.cell? ⟨g, i * 5 + 3, none⟩ = some (.slice va uns.length vc) := c3'
      clear c1 z1 c2 z2 c3 HW3
      go_wp2_with fail
      refine KN.out.mono ?_
      rintro e w4 ⟨rfl, hn4, hx4⟩
      have hot3 := row_own HR3.out
      have hg4 := good_names hot3.good hot3.nd hx4 (marks_small (q + 3) uns.length) (marks_len _ _) hn4
      have hr4 := row_touch (T.mk (q : Int) mk ((q : Int) + 1 + 1) (marks (q + 3) uns.length) (.slice va uns.length vc) (.slice vb uks.length vd) uks) HR3.out rfl rfl hg4 hx4 (fun b hb => by rw [foot]; simp [hb])
      have hfs : ∀ b, b ∈ foot (T.mk uk ut un uns (.slice va uns.length vc) (.slice vb uks.length vd) uks) → b ∈ (blk (.slice (some ⟨g, 0, none⟩) n c) ++ foots ts) := fun b hb => by
        rw [HTS.out, foots_mid]
        simp [hb]
      have HFS := Lib.hid hfs
      have HX4 := Lib.hid (HX3.out.trans (hx4.mono fun b hb => hfs b (by rw [foot]; simp [hb])))
      obtain ⟨c4, -⟩ := row_cell hr4 4 (by decide)
      rw [HAL.out] at c4
      replace c4 : w4.cell? ⟨g, i * 5 + 4, none⟩ = some (.slice vb uks.length vd) := c4
      generalize hm : q + 3 + uns.length = m at *
      have HM := Lib.hid hm; clear hm
      obtain ⟨hk1, hk2, hk3⟩ := (row_own hr4).kids
      have KK := Lib.hid (KIH.out base m (.slice vb uks.length vd) w4 ⟨hk1, hk2, hk3⟩ (by have := HM.out; omega) (by have := HM.out; omega))
      have HR4 := Lib.hid hr4
      clear hn4 hx4 hot3 hg4 hr4 hfs hk1 hk2 hk3 KN KIH HR3 HX3 c3'
      go_wp2_with fail
      refine KK.out.mono ?_
      rintro e w5 ⟨rfl, hr5, hx5⟩
      have hot4 := row_own HR4.out
      have hg5 := good_kids hot4.good hot4.nd hx5 hr5
      have hr6 := row_touch (T.mk (q : Int) mk ((q : Int) + 1 + 1) (marks (q + 3) uns.length) (.slice va uns.length vc) (.slice vb uks.length vd) (markeds m uks)) HR4.out rfl (by rw [foot, foot, foots_markeds]) hg5 hx5 (fun b hb => by rw [foot]; rw [List.mem_append] at hb ⊢; exact .inr (List.mem_append.2 hb))
      have HX5 := Lib.hid (HX4.out.trans (hx5.mono fun b hb => HFS.out b (by rw [foot]; rw [List.mem_append] at hb ⊢; exact .inr (List.mem_append.2 hb))))
      have he : marked q (T.mk uk ut un uns (.slice va uns.length vc) (.slice vb uks.length vd) uks) = (T.mk (q : Int) mk ((q : Int) + 1 + 1) (marks (q + 3) uns.length) (.slice va uns.length vc) (.slice vb uks.length vd) (markeds m uks)) := by
        rw [marked, ← HMK.out, HM.out]
        rfl
      have hr7 : Row base w5 (markeds k (D ++ [(T.mk uk ut un uns (.slice va uns.length vc) (.slice vb uks.length vd) uks)]) ++ B) (.slice (some ⟨g, 0, none⟩) n c) := by
        rw [markeds_append, HQ.out, markeds, markeds, he, List.append_assoc]
        exact hr6
      have HR7 := Lib.hid hr7
      have HE : Hid (m + cnts uks = k + cnts (D ++ [(T.mk uk ut un uns (.slice va uns.length vc) (.slice vb uks.length vd) uks)])) := Lib.hid (by
        rw [cnts_append, cnts, cnts, cnt]
        have := HQ.out
        have := HM.out
        omega)
      clear hr5 hx5 hot4 hg5 hr6 he hr7 KK HR4 HX4 c4
      go_wp2_with fail
      go_roundw
      case rel =>
        refine ⟨D ++ [(T.mk uk ut un uns (.slice va uns.length vc) (.slice vb uks.length vd) uks)], B, by rw [HTS.out]; simp, ?_, by rw [← HE.out]; rfl, HR7.out, HX5.out⟩
        rw [List.length_append, HI.out]
        rfl
      case measure => simp [intOf]; omega
theorem mark_any : ∀ t : T, MarkOk t.kids := ind fun _ _ _ _ _ _ _ ih => mark_kids ih
theorem mark_row_any (ts : List T) : MarkOk ts := mark_kids fun t _ => mark_any t
end Go.Proofs.YtbflpocbjdccgaaGreatDoor.Placed

namespace Go.Proofs.YtbflpocbjdccgaaGreatDoor.Placed
open Go.RowKit
open Strs Tree
open Go.Proofs.YtbflpocbjdccgaaGreatDoor.ParI (Row good_forms)

set_option maxHeartbeats 1000000 in
theorem held_kids_none (a : Option Addr) (c : Nat) (K : Int) (w : World) :
    Calls Tryz.prog 21 #[.slice a 0 c, .int .i64 K] w fun e w' => e = .returned (.int .i64 K) ∧ Below w.heap.size w w' := by
  go_enter Tryz.func21, Tryz.ntmps21
  go_wp2_with fail
  refine wp_loop_rounds 1 ?_
  rw [rounds_succ]
  go_wp2_with fail
  go_ret
  exact ⟨rfl, Below.refl _ _⟩
/-- A marked row is held. -/
def HeldOk (ts : List T) : Prop := ∀ (base k : Nat) (v : Value) (w : World), Row base w (markeds k ts) v → 0 < k → k + cnts ts ≤ 4611686018427387904 → Calls Tryz.prog 21 #[v, .int .i64 (k : Int)] w fun e w' => e = .returned (.int .i64 ((k + cnts ts : Nat) : Int)) ∧ Below w.heap.size w w'

set_option maxRecDepth 10000 in
set_option maxHeartbeats 8000000 in
theorem held_kids {ts : List T} (ih : ∀ t, t ∈ ts → HeldOk t.kids) : HeldOk ts := by
  intro base k v w hrow hk hkn
  have hcase := ParI.own_cases hrow.own
  rw [markeds_len] at hcase
  rcases hcase with ⟨hv, hn0⟩ | ⟨g, c, hv⟩
  · subst hv
    have hts : ts = [] := List.eq_nil_of_length_eq_zero hn0
    subst hts
    exact held_kids_none none 0 k w
  subst hv
  have hroom : ts.length ≤ maxLen := by
    obtain ⟨-, ⟨hv, -⟩ | ⟨g', cap, cur, hv, -, -, h1, h2, -⟩⟩ := hrow.own
    · cases hv
    · rw [markeds_len] at h1
      exact Nat.le_trans h1 h2
  unfold maxLen at hroom
  have HROW := Lib.hid hrow
  have IH := Lib.hid ih
  clear ih hrow
  generalize hn : ts.length = n at *
  have HN := Lib.hid hn; clear hn
  go_enter Tryz.func21, Tryz.ntmps21
  go_wp2_with fail
  go_loopw [1, 5] (fun q j wr => ∃ D R : List T, ts = D ++ R ∧ j = .int .i64 (D.length : Int) ∧ q = .int .i64 ((k + cnts D : Nat) : Int) ∧ Below w.heap.size w wr) (fun _ j _ => n - (intOf j).toNat)
  case atStart => exact ⟨[], ts, rfl, rfl, rfl, Below.refl _ _⟩
  case round =>
    obtain ⟨D, R, hts, rfl, rfl, hbw⟩ := hrel
    have HTS := Lib.hid hts
    have HBW := Lib.hid hbw
    clear hts hbw
    generalize hi : D.length = i at *
    have HI := Lib.hid hi; clear hi
    generalize hq : k + cnts D = q at *
    have HQ := Lib.hid hq; clear hq
    cases R with
    | nil =>
      have hin : i = n := by rw [← HI.out, ← HN.out, HTS.out, List.append_nil]
      have hqq : q = k + cnts ts := by rw [← HQ.out, HTS.out, List.append_nil]
      have hlt : ¬ ((i : Int) < (n : Int)) := by omega
      have HQQ := Lib.hid hqq; clear hqq
      clear hin
      go_wp2_with fail
      go_ret
      exact ⟨by rw [HQQ.out]; rfl, HBW.out⟩
    | cons t B =>
      have hlt : (i : Int) < (n : Int) := by
        have h1 := HN.out
        rw [HTS.out] at h1
        simp at h1
        have := HI.out
        omega
      have hqb : q + cnt t ≤ 4611686018427387904 := by
        have h1 := hkn
        rw [HTS.out, cnts_append, cnts] at h1
        have := HQ.out
        omega
      have hqp : 0 < q := by have := HQ.out; omega
      have hal : (markeds k D).length = i := by rw [markeds_len, HI.out]
      have HAL := Lib.hid hal
      have KIH := Lib.hid (IH.out t (by rw [HTS.out]; simp))
      have hrt : markeds k ts = markeds k D ++ marked q t :: markeds (q + cnt t) B := by
        rw [HTS.out, markeds_append, markeds, HQ.out]
      have hrow0 := HROW.out
      rw [hrt] at hrow0
      obtain ⟨va, vc, vb, vd, hf1, hf2⟩ := good_forms (row_own hrow0).good
      obtain ⟨uk, ut, un, uns, uvn, uvk, uks⟩ := t
      rw [marked] at hrow0 hf1 hf2
      simp only [T.vn, T.vk, T.names, T.kids, marks_len, markeds_len] at hf1 hf2 KIH
      subst hf1 hf2
      rw [cnt] at hqb
      have hrw := hrow0.below HBW.out
      have HRW := Lib.hid hrow0
      obtain ⟨c0, -⟩ := row_cell hrw 0 (by decide)
      obtain ⟨c1, -⟩ := row_cell hrw 1 (by decide)
      rw [hal] at c0 c1
      replace c0 : wr.cell? ⟨g, i * 5, none⟩ = some (.int .i64 (q : Int)) := c0
      replace c1 : wr.cell? ⟨g, i * 5 + 1, none⟩ = some (.string (Mark.mark ((q + 1 : Nat) : Int))) := c1
      rw [show ((q + 1 : Nat) : Int) = (q : Int) + 1 by omega] at c1
      have hpos : (0 : Int) < (q : Int) + 1 := by omega
      have hbw := HBW.out
      clear hal hrt hrow0 hrw HROW
      generalize hmk : Mark.mark ((q : Int) + 1) = mk at *
      have HMK := Lib.hid hmk; clear hmk
      go_wp2_with fail
      go_region_held3 (fun w' => w'.cell? ⟨g, i * 5 + 1, none⟩ = some (.string mk) ∧ Below w.heap.size w w')
        (first | exact ⟨c1, hbw.drew⟩ | exact ⟨cell_keep hb1 (show wr.drew.cell? _ = _ from c1), hbw.drew.trans (hb1.mono hbw.size)⟩ | go_keep)
        (first | (go_at_call 45; refine (Mark.mark_any ((q : Int) + 1) _ hpos (by omega)).mono ?_; rintro e w1 ⟨rfl, hb1⟩; rw [HMK.out]))
      all_goals
        have hb6 := hbw.drew.trans (hb1.mono hbw.size)
        have HB6 := Lib.hid hb6
        have hrw := HRW.out.below hb6
        have hgd := good_iff.1 (row_own hrw).good
        obtain ⟨c2, -⟩ := row_cell hrw 2 (by decide)
        obtain ⟨c3, -⟩ := row_cell hrw 3 (by decide)
        rw [HAL.out] at c2 c3
        replace c2 : w1.cell? ⟨g, i * 5 + 2, none⟩ = some (.int .i64 ((q + 2 : Nat) : Int)) := c2
        replace c3 : w1.cell? ⟨g, i * 5 + 3, none⟩ = some (.slice va uns.length vc) := c3
        rw [show ((q + 2 : Nat) : Int) = (q : Int) + 1 + 1 by omega] at c2
        have KN : Hid (Calls Tryz.prog 20 #[.slice va uns.length vc, .int .i64 ((q : Int) + 1 + 1 + 1)] w1 fun e w' => e = .returned (.int .i64 ((q + 3 + uns.length : Nat) : Int)) ∧ Below w1.heap.size w1 w') := Lib.hid (by
          have h0 := hgd.names
          simp only [T.names, T.vn, marks_len] at h0
          have h := held_names (k := q + 3) h0 (by omega) (by omega)
          rw [show ((q + 3 : Nat) : Int) = (q : Int) + 1 + 1 + 1 by omega] at h
          exact h)
        clear hb1 hb6 hrw hgd c0 c1 hbw HBW
        go_wp2_with fail
        refine KN.out.mono ?_
        rintro e w4 ⟨rfl, hb4⟩
        have hb7 := HB6.out.trans (hb4.mono HB6.out.size)
        have hrw := HRW.out.below hb7
        have HB7 := Lib.hid hb7
        obtain ⟨c4, -⟩ := row_cell hrw 4 (by decide)
        rw [HAL.out] at c4
        replace c4 : w4.cell? ⟨g, i * 5 + 4, none⟩ = some (.slice vb uks.length vd) := c4
        obtain ⟨hk1, hk2, hk3⟩ := (row_own hrw).kids
        have hmm : 0 < q + 3 + uns.length := by omega
        generalize hm : q + 3 + uns.length = m at *
        have HM := Lib.hid hm; clear hm
        have KK := Lib.hid (KIH.out base m (.slice vb uks.length vd) w4 ⟨hk1, hk2, hk3⟩ (by omega) (by have := HM.out; omega))
        have hm0 : ¬ ((m : Int) < 0) := by omega
        clear hb4 hb7 hrw hk1 hk2 hk3 KN HB6 c2 c3
        go_wp2_with fail
        refine KK.out.mono ?_
        rintro e w5 ⟨rfl, hb5⟩
        have HB5 := Lib.hid (HB7.out.trans (hb5.mono HB7.out.size))
        have HE : Hid (m + cnts uks = k + cnts (D ++ [T.mk uk ut un uns (.slice va uns.length vc) (.slice vb uks.length vd) uks])) := Lib.hid (by
          rw [cnts_append, cnts, cnts, cnt]
          have := HQ.out
          have := HM.out
          omega)
        generalize hz : m + cnts uks = z at *
        have HZ := Lib.hid hz; clear hz
        have hz0 : ¬ ((z : Int) < 0) := by omega
        clear hb5 KK HB7 c4
        go_wp2_with fail
        go_roundw
        case rel =>
          refine ⟨D ++ [T.mk uk ut un uns (.slice va uns.length vc) (.slice vb uks.length vd) uks], B, by rw [HTS.out]; simp, ?_, by rw [← HE.out], HB5.out⟩
          rw [List.length_append, HI.out]
          rfl
        case measure => simp [intOf]; omega
theorem held_any : ∀ t : T, HeldOk t.kids := ind fun _ _ _ _ _ _ _ ih => held_kids ih
theorem held_row_any (ts : List T) : HeldOk ts := held_kids fun t _ => held_any t
end Go.Proofs.YtbflpocbjdccgaaGreatDoor.Placed

namespace Go.Proofs.YtbflpocbjdccgaaGreatDoor.Placed
open Go.RowKit
open Strs Tree
open Go.Proofs.YtbflpocbjdccgaaGreatDoor.ParI (Row good_forms)

def topMark (k : Nat) : T → T
  | .mk kd tx nm ns vn vk ks => .mk kd tx nm (marks k ns.length) vn vk (markeds (k + ns.length) ks)
def topCnt : T → Nat
  | .mk _ _ _ ns _ _ ks => ns.length + cnts ks
theorem top_agg (k : Nat) (t : T) : agg (topMark k t) = agg t := by cases t; rfl
theorem top_foot (k : Nat) (t : T) : foot (topMark k t) = foot t := by cases t; rw [topMark, foot, foot, foots_markeds]
theorem cnts_weight : ∀ t : T, topCnt t ≤ 3 * weight (toE t) := by
  refine ind fun kd tx nm ns vn vk ks ih => ?_
  have h : ∀ l : List T, (∀ e, e ∈ l → topCnt e ≤ 3 * weight (toE e)) → cnts l ≤ 3 * (l.length + weights (toEs l)) := by
    intro l
    induction l with
    | nil => intro _; simp [cnts]
    | cons a l ih2 =>
      intro hl
      have h1 := hl a (by simp)
      have h2 := ih2 fun e he => hl e (by simp [he])
      have h3 : cnt a = 3 + topCnt a := by cases a; rw [cnt, topCnt]; omega
      rw [cnts, toEs, weights, List.length_cons, h3]
      omega
  have h1 := h ks ih
  rw [topCnt, toE, weight, toEs_len]
  omega

set_option maxRecDepth 10000 in
set_option maxHeartbeats 8000000 in
theorem mark_top {base k : Nat} {t : T} {w : World} (ho : Own base w t) (hk : 0 < k) (hkn : k + topCnt t ≤ 4611686018427387904) :
    Calls Tryz.prog 7 #[agg t, .int .i64 (k : Int)] w fun e w' => e = .returned (.int .i64 ((k + topCnt t : Nat) : Int)) ∧ Own base w' (topMark k t) ∧ Exc (foot t) w w' := by
  obtain ⟨va, vc, vb, vd, hf1, hf2⟩ := good_forms ho.good
  obtain ⟨uk, ut, un, uns, uvn, uvk, uks⟩ := t
  simp only [T.vn, T.vk, T.names, T.kids] at hf1 hf2
  subst hf1 hf2
  rw [topCnt] at hkn
  unfold agg
  simp only [T.kind, T.text, T.num, T.vn, T.vk]
  have hba : Below w.heap.size w (w.alloc (.cells #[.int .i64 uk, .string ut, .int .i64 un, .slice va uns.length vc, .slice vb uks.length vd] 25)) := (Below.refl _ _).alloc (Nat.le_refl _) _
  have ho1 := ho.below hba
  have hnames := (good_iff.1 ho1.good).names
  simp only [T.names, T.vn] at hnames
  have KN := Lib.hid (mark_names (k := k) hnames hk (by omega))
  have c4 : (w.alloc (.cells #[.int .i64 uk, .string ut, .int .i64 un, .slice va uns.length vc, .slice vb uks.length vd] 25)).cell? ⟨w.heap.size, 4, none⟩ = some (.slice vb uks.length vd) := by go_simp
  have HC4 := Lib.hid c4
  have HO1 := Lib.hid ho1
  have HBA := Lib.hid hba
  have HLT : Hid (∀ b, b ∈ foot (T.mk uk ut un uns (.slice va uns.length vc) (.slice vb uks.length vd) uks) → b ≠ w.heap.size) := Lib.hid (fun b hb => by
    have := ho.lt b hb
    omega)
  clear ho hba ho1 c4 hnames
  go_enter Tryz.func7, Tryz.ntmps7
  go_wp2_with fail
  refine KN.out.mono ?_
  rintro e w2 ⟨rfl, hn2, hx2⟩
  have hg2 := good_names HO1.out.good HO1.out.nd hx2 (marks_small k uns.length) (marks_len _ _) hn2
  have ho2 : Own base w2 (T.mk uk ut un (marks k uns.length) (.slice va uns.length vc) (.slice vb uks.length vd) uks) := ⟨hg2, by rw [foot]; have := HO1.out.nd; rw [foot] at this; exact this, fun b hb => HO1.out.lo b (by rw [foot] at hb ⊢; exact hb)⟩
  have hws : (w.alloc (.cells #[.int .i64 uk, .string ut, .int .i64 un, .slice va uns.length vc, .slice vb uks.length vd] 25)).heap.size = w.heap.size + 1 := by simp
  have c4 : w2.cell? ⟨w.heap.size, 4, none⟩ = some (.slice vb uks.length vd) := (World.cell?_of_block (a := ⟨w.heap.size, 4, none⟩) (hx2.block w.heap.size (by rw [hws]; omega) (fun e => HLT.out _ (by rw [foot]; exact List.mem_append_left _ e) rfl))).trans HC4.out
  have HX2 := Lib.hid (hx2.mono (F' := foot (T.mk uk ut un uns (.slice va uns.length vc) (.slice vb uks.length vd) uks)) fun b hb => by rw [foot]; exact List.mem_append_left _ hb)
  obtain ⟨hk1, hk2, hk3⟩ := ho2.kids
  generalize hm : k + uns.length = m at *
  have HM := Lib.hid hm; clear hm
  have KK := Lib.hid (mark_row_any uks base m (.slice vb uks.length vd) w2 ⟨hk1, hk2, hk3⟩ (by have := HM.out; omega) (by have := HM.out; omega))
  have HO2 := Lib.hid ho2
  clear hn2 hx2 hg2 ho2 hk1 hk2 hk3 KN HC4 hws
  go_wp2_with fail
  refine KK.out.mono ?_
  rintro e w3 ⟨rfl, hr3, hx3⟩
  have hg3 := good_kids HO2.out.good HO2.out.nd hx3 hr3
  have ho3 : Own base w3 (topMark k (T.mk uk ut un uns (.slice va uns.length vc) (.slice vb uks.length vd) uks)) := by
    refine ⟨?_, by rw [top_foot]; exact HO1.out.nd, by rw [top_foot]; exact HO1.out.lo⟩
    rw [topMark, HM.out]
    exact hg3
  have HO3 := Lib.hid ho3
  have HX3 := Lib.hid (((Exc.refl (foot (T.mk uk ut un uns (.slice va uns.length vc) (.slice vb uks.length vd) uks)) w).below HBA.out).trans (HX2.out.trans (hx3.mono fun b hb => by rw [foot]; rw [List.mem_append] at hb ⊢; exact .inr (List.mem_append.2 hb))))
  have HE : Hid (m + cnts uks = k + topCnt (T.mk uk ut un uns (.slice va uns.length vc) (.slice vb uks.length vd) uks)) := Lib.hid (by
    rw [topCnt]
    have := HM.out
    omega)
  clear hr3 hx3 hg3 ho3 KK
  go_wp2_with fail
  go_ret
  exact ⟨by rw [← HE.out]; rfl, HO3.out, HX3.out⟩

set_option maxRecDepth 10000 in
set_option maxHeartbeats 8000000 in
theorem held_top {base k : Nat} {t : T} {w : World} (ho : Own base w (topMark k t)) (hk : 0 < k) (hkn : k + topCnt t ≤ 4611686018427387904) :
    Calls Tryz.prog 8 #[agg t, .int .i64 (k : Int)] w fun e w' => e = .returned (.int .i64 ((k + topCnt t : Nat) : Int)) ∧ Below w.heap.size w w' := by
  obtain ⟨va, vc, vb, vd, hf1, hf2⟩ := good_forms ho.good
  obtain ⟨uk, ut, un, uns, uvn, uvk, uks⟩ := t
  rw [topMark] at hf1 hf2 ho
  simp only [T.vn, T.vk, T.names, T.kids, marks_len, markeds_len] at hf1 hf2
  subst hf1 hf2
  rw [topCnt] at hkn
  unfold agg
  simp only [T.kind, T.text, T.num, T.vn, T.vk]
  have hba : Below w.heap.size w (w.alloc (.cells #[.int .i64 uk, .string ut, .int .i64 un, .slice va uns.length vc, .slice vb uks.length vd] 25)) := (Below.refl _ _).alloc (Nat.le_refl _) _
  have ho1 := ho.below hba
  have hnames := (good_iff.1 ho1.good).names
  simp only [T.names, T.vn, marks_len] at hnames
  have KN := Lib.hid (held_names (k := k) hnames hk (by omega))
  have c4 : (w.alloc (.cells #[.int .i64 uk, .string ut, .int .i64 un, .slice va uns.length vc, .slice vb uks.length vd] 25)).cell? ⟨w.heap.size, 4, none⟩ = some (.slice vb uks.length vd) := by go_simp
  have HC4 := Lib.hid c4
  have HO1 := Lib.hid ho1
  have HBA := Lib.hid hba
  clear ho hba ho1 c4 hnames
  go_enter Tryz.func8, Tryz.ntmps8
  go_wp2_with fail
  refine KN.out.mono ?_
  rintro e w2 ⟨rfl, hb2⟩
  have c4 := cell_keep hb2 HC4.out
  have hb3 := HBA.out.trans (hb2.mono HBA.out.size)
  have HB3 := Lib.hid hb3
  obtain ⟨hk1, hk2, hk3⟩ := (HO1.out.below hb2).kids
  have hmp : 0 < k + uns.length := by omega
  generalize hm : k + uns.length = m at *
  have HM := Lib.hid hm; clear hm
  have KK := Lib.hid (held_row_any uks base m (.slice vb uks.length vd) w2 ⟨hk1, hk2, hk3⟩ hmp (by have := HM.out; omega))
  have hm0 : ¬ ((m : Int) < 0) := by omega
  clear hb2 hb3 hk1 hk2 hk3 KN HC4
  go_wp2_with fail
  refine KK.out.mono ?_
  rintro e w3 ⟨rfl, hb3⟩
  have HB4 := Lib.hid (HB3.out.trans (hb3.mono HB3.out.size))
  have HE : Hid (m + cnts uks = k + topCnt (T.mk uk ut un uns (.slice va uns.length vc) (.slice vb uks.length vd) uks)) := Lib.hid (by
    rw [topCnt]
    have := HM.out
    omega)
  generalize hz : m + cnts uks = z at *
  have HZ := Lib.hid hz; clear hz
  have hz0 : ¬ ((z : Int) < 0) := by omega
  clear hb3 KK c4
  go_wp2_with fail
  go_ret
  exact ⟨by rw [← HE.out]; rfl, HB4.out⟩
end Go.Proofs.YtbflpocbjdccgaaGreatDoor.Placed
