/-
  Rows of trees, five cells each: out of what reads as trees, and back.
  The model's parser: a message sent to a tree; a block.
  The model's parser: a row of trees of the call's own that grows, while each of its trees lies apart from the row; what a reader hands back.
  The model's parser: statements.
-/
import Derived.Test.YtbflpocbjdccgaaGreatDoorBParseNames
import Derived.Laws.AppendOwnNone
import Derived.Maps.AppendAt
namespace Go.Proofs.YtbflpocbjdccgaaGreatDoor.Parser
open Go.RowKit
open Strs Tree Gram

/-- A tree and its two slices. -/
abbrev Item := E × Value × Value
def cells5 (x : Item) : List Value := [.int .i64 x.1.kind, .string x.1.text, .int .i64 x.1.num, x.2.1, x.2.2]
def row5 (L : List Item) : List Value := L.flatMap cells5
def trees (L : List Item) : List E := L.map (·.1)
theorem row5_append (a b : List Item) : row5 (a ++ b) = row5 a ++ row5 b := by simp [row5]
theorem trees_append (a b : List Item) : trees (a ++ b) = trees a ++ trees b := by simp [trees]
theorem row5_len (L : List Item) : (row5 L).length = L.length * 5 := by
  induction L with
  | nil => rfl
  | cons x L ih =>
    have : row5 (x :: L) = cells5 x ++ row5 L := rfl
    rw [this, List.length_append, ih]
    simp [cells5]; omega
def All (lo : Nat) (w : World) (L : List Item) : Prop := ∀ x, x ∈ L → NodeAt lo w x.1 x.2.1 x.2.2
theorem All.append {lo : Nat} {w : World} {a b : List Item} (h : All lo w a) (k : All lo w b) : All lo w (a ++ b) := fun x hx => by
  rcases List.mem_append.1 hx with h1 | h1
  · exact h x h1
  · exact k x h1
theorem All.keep {lo : Nat} {w w' : World} {a : List Item} (h : All lo w a) (k : Kept lo w w') : All lo w' a := fun x hx => NodeAt.keep (Nat.le_refl _) k _ _ _ (h x hx)

/-- The cells of a row of trees are those of some list of trees and slices. -/
theorem of_row {lo : Nat} {w : World} {b : Nat} : ∀ (ks : List E) (o : Nat), Row lo w b ks o → ∃ L, trees L = ks ∧ All lo w L ∧ ∀ j u, (row5 L)[j]? = some u → w.cell? ⟨b, o + j, none⟩ = some u := by
  intro ks
  induction ks with
  | nil => intro o _; exact ⟨[], rfl, (fun _ h => nomatch h), fun j u h => by simp [row5] at h⟩
  | cons e es ih =>
    intro o h
    rw [Row] at h
    obtain ⟨⟨vn, vk, c0, c1, c2, c3, c4, hn⟩, hr⟩ := h
    obtain ⟨L, h1, h2, h3⟩ := ih _ hr
    refine ⟨(e, vn, vk) :: L, by simp [trees] at h1 ⊢; exact h1, ?_, ?_⟩
    · intro x hx
      rcases List.mem_cons.1 hx with rfl | hx
      · exact hn
      · exact h2 x hx
    · intro j u hj
      have he : row5 ((e, vn, vk) :: L) = cells5 (e, vn, vk) ++ row5 L := rfl
      rw [he] at hj
      match j, hj with
      | 0, hj => simp [cells5] at hj; subst hj; exact c0
      | 1, hj => simp [cells5] at hj; subst hj; exact c1
      | 2, hj => simp [cells5] at hj; subst hj; exact c2
      | 3, hj => simp [cells5] at hj; subst hj; exact c3
      | 4, hj => simp [cells5] at hj; subst hj; exact c4
      | j + 5, hj =>
        simp [cells5] at hj
        have := h3 j u hj
        rw [show o + (j + 5) = o + 5 + j by omega]
        exact this
theorem to_row {lo : Nat} {w : World} {b : Nat} : ∀ (L : List Item) (o : Nat), All lo w L → (∀ j u, (row5 L)[j]? = some u → w.cell? ⟨b, o + j, none⟩ = some u) → Row lo w b (trees L) o := by
  intro L
  induction L with
  | nil => intro o _ _; exact trivial
  | cons x L ih =>
    intro o h1 h2
    have he : row5 (x :: L) = cells5 x ++ row5 L := rfl
    rw [he] at h2
    show Row lo w b (x.1 :: trees L) o
    rw [Row]
    refine ⟨⟨x.2.1, x.2.2, h2 0 _ rfl, h2 1 _ rfl, h2 2 _ rfl, h2 3 _ rfl, h2 4 _ rfl, h1 x (by simp)⟩, ih _ (fun y hy => h1 y (by simp [hy])) fun j u hj => ?_⟩
    have := h2 (j + 5) u (by simp [cells5]; exact hj)
    rw [show o + 5 + j = o + (j + 5) by omega]
    exact this

/-- The slice value v reads as these trees: nil if there are none, or it leads to their row. -/
def Kids5 (lo : Nat) (w : World) (L : List Item) (v : Value) : Prop :=
  All lo w L ∧ ((v = .slice none 0 0 ∧ L = []) ∨ ∃ b o c, v = .slice (some ⟨b, o, none⟩) L.length c ∧ L.length ≤ c ∧ c ≤ maxLen ∧ lo ≤ b ∧ ∀ j u, (row5 L)[j]? = some u → w.cell? ⟨b, o + j, none⟩ = some u)
theorem Kids5.nil (lo : Nat) (w : World) : Kids5 lo w [] (.slice none 0 0) := ⟨(fun _ h => nomatch h), .inl ⟨rfl, rfl⟩⟩
theorem Kids5.keep {lo : Nat} {w w' : World} {L : List Item} {v : Value} (h : Kids5 lo w L v) (k : Kept lo w w') : Kids5 lo w' L v := by
  refine ⟨h.1.keep k, ?_⟩
  rcases h.2 with h1 | ⟨b, o, c, e, m1, m2, hb, hc⟩
  · exact .inl h1
  · exact .inr ⟨b, o, c, e, m1, m2, hb, fun j u hj => k b _ _ hb (hc j u hj)⟩
theorem Kids5.mono {lo hi : Nat} {w : World} {L : List Item} {v : Value} (h : Kids5 hi w L v) (hl : lo ≤ hi) : Kids5 lo w L v := by
  refine ⟨fun x hx => NodeAt.keep hl (fun _ _ _ _ hc => hc) _ _ _ (h.1 x hx), ?_⟩
  rcases h.2 with h1 | ⟨b, o, c, e, m1, m2, hb, hc⟩
  · exact .inl h1
  · exact .inr ⟨b, o, c, e, m1, m2, Nat.le_trans hl hb, hc⟩
theorem Kids5.kids {lo : Nat} {w : World} {L : List Item} {v : Value} (h : Kids5 lo w L v) : KidsAt lo w (trees L) v := by
  have hl : (trees L).length = L.length := by simp [trees]
  rcases h.2 with ⟨rfl, rfl⟩ | ⟨b, o, c, rfl, m1, m2, hb, hc⟩
  · exact ⟨none, 0, rfl, ⟨Nat.le_refl _, Nat.zero_le _⟩, fun h => absurd h (by simp [trees])⟩
  · exact ⟨_, c, by rw [hl], ⟨by omega, m2⟩, fun _ => ⟨b, o, rfl, hb, to_row L o h.1 hc⟩⟩
/-- A row of the call's own, of trees. -/
theorem own_kids {lo : Nat} {w : World} {base : Nat} {L : List Item} {v : Value} (h : w.ownsRow base 25 5 v L.length (row5 L)) (hlo : lo ≤ base) (ha : All lo w L) : Kids5 lo w L v := by
  refine ⟨ha, ?_⟩
  have h' := h
  obtain ⟨_, ⟨rfl, hn⟩ | ⟨g, cap, cur, rfl, hbg, hg, hnc, hcm, _, _⟩⟩ := h
  · exact .inl ⟨rfl, List.eq_nil_of_length_eq_zero hn⟩
  · refine .inr ⟨g, 0, cap, rfl, hnc, hcm, by omega, fun j u hj => ?_⟩
    have hjl : j < L.length * 5 := by
      have := (List.getElem?_eq_some_iff.1 hj).1
      rw [row5_len] at this
      exact this
    rw [Nat.zero_add, h'.cellAt j hjl]
    exact hj
/-- What reads as trees leads to some row of them, or there are none. -/
theorem kids_items {lo : Nat} {w : World} {ks : List E} {v : Value} (h : KidsAt lo w ks v) (h0 : 0 < ks.length) : ∃ L, trees L = ks ∧ Kids5 lo w L v := by
  obtain ⟨a, cap, rfl, hm, hc⟩ := h
  obtain ⟨b, o, rfl, hb, hr⟩ := hc h0
  obtain ⟨L, h1, h2, h3⟩ := of_row ks o hr
  have hl : ks.length = L.length := by rw [← h1]; simp [trees]
  exact ⟨L, h1, h2, .inr ⟨b, o, cap, by rw [hl], by omega, hm.2, hb, h3⟩⟩
theorem one_cell5 (x : Item) (h : ∀ u : Value, u = x.2.1 ∨ u = x.2.2 → u.oneCell' = true) : ∀ u : Value, u ∈ cells5 x → u.oneCell' = true := by
  intro u hu
  simp [cells5] at hu
  rcases hu with rfl | rfl | rfl | h1 | h1
  · rfl
  · rfl
  · rfl
  · exact h u (.inl h1)
  · exact h u (.inr h1)
theorem node_one {lo : Nat} {w : World} {x : Item} (h : NodeAt lo w x.1 x.2.1 x.2.2) : ∀ u : Value, u ∈ cells5 x → u.oneCell' = true := by
  refine one_cell5 x fun u hu => ?_
  rw [node_iff] at h
  obtain ⟨-, -, -, ⟨_, _, e1, _⟩, ⟨_, _, e2, _⟩⟩ := h
  rcases hu with rfl | rfl
  · rw [e1]; rfl
  · rw [e2]; rfl
theorem node_forms {lo : Nat} {w : World} {e : E} {vn vk : Value} (h : NodeAt lo w e vn vk) : ∃ a n c a' n' c', vn = .slice a n c ∧ vk = .slice a' n' c' := by
  rw [node_iff] at h
  obtain ⟨-, -, -, ⟨_, _, e1, _⟩, ⟨_, _, e2, _⟩⟩ := h
  exact ⟨_, _, _, _, _, _, e1, e2⟩
theorem all_one {lo : Nat} {w : World} {L : List Item} (h : All lo w L) : ∀ u : Value, u ∈ row5 L → u.oneCell' = true := by
  intro u hu
  obtain ⟨x, hx, hu⟩ := List.mem_flatMap.1 hu
  exact node_one (h x hx) u hu
/-- One tree's cells at the head of a new block. -/
theorem five_cells (w : World) (x : Item) (t : TypeId) : ∀ (j : Nat) (u : Value), (cells5 x)[j]? = some u → (w.alloc (.cells #[.int .i64 x.1.kind, .string x.1.text, .int .i64 x.1.num, x.2.1, x.2.2] t)).cell? ((⟨w.heap.size, 0, none⟩ : Addr).add j) = some u := by
  intro j u hj
  match j, hj with
  | 0, hj => simp [cells5] at hj; subst hj; simp [Addr.add]
  | 1, hj => simp [cells5] at hj; subst hj; simp [Addr.add]
  | 2, hj => simp [cells5] at hj; subst hj; simp [Addr.add]
  | 3, hj => simp [cells5] at hj; subst hj; simp [Addr.add]
  | 4, hj => simp [cells5] at hj; subst hj; simp [Addr.add]
end Go.Proofs.YtbflpocbjdccgaaGreatDoor.Parser

namespace Go.Proofs.YtbflpocbjdccgaaGreatDoor.Parser
open Go.RowKit
open Strs Tree Gram

theorem infoE : (Tryz.prog.info? 25).map (fun i => (i.zero, i.size, i.bytes)) = some (some (.agg #[.int .i64 0, .string ByteArray.empty, .int .i64 0, .slice none 0 0, .slice none 0 0]), 5, 80) := by kernel_rfl
theorem texts_none (lo : Nat) (w : World) : Texts lo w [] (.slice none 0 0) := ⟨none, 0, rfl, ⟨Nat.le_refl _, Nat.zero_le _⟩, (fun _ h => nomatch h), fun h => absurd h (by simp)⟩
/-- A node of kind 6 with these kids. -/
theorem send_reads {lo : Nat} {w : World} {s : ByteArray} {L : List Item} {vk : Value} (h : Kids5 lo w L vk) (hs : s.size ≤ maxLen) : Reads lo w (.mk 6 s 0 [] (trees L)) (.agg #[.int .i64 6, .string s, .int .i64 0, .slice none 0 0, vk]) :=
  ⟨_, _, rfl, node_iff.2 ⟨by rfl, by rfl, hs, texts_none _ _, h.kids⟩⟩

theorem add_plain (b o k : Nat) : (⟨b, o, none⟩ : Addr).add k = ⟨b, o + k, none⟩ := by unfold Addr.add; split <;> simp_all
/-- A literal of one tree behind two other new blocks. -/
theorem lit_own (w : World) (a b : Obj) (e : E) (vn vk : Value) : (((w.alloc a).alloc b).alloc (.cells #[.int .i64 e.kind, .string e.text, .int .i64 e.num, vn, vk] 25)).ownsRow (w.heap.size + 1 + 1) 25 5 (.slice (some ⟨w.heap.size + 1 + 1, 0, none⟩) 1 1) 1 (row5 [(e, vn, vk)]) := by
  have e1 : ((w.alloc a).alloc b).heap.size = w.heap.size + 1 + 1 := by simp
  have := World.ownsRow_lit (base := w.heap.size + 1 + 1) (e := 25) (size := 5) ((w.alloc a).alloc b) #[.int .i64 e.kind, .string e.text, .int .i64 e.num, vn, vk] 1 (by rw [e1]; exact Nat.le_refl _) (by unfold maxLen; omega) rfl
  rw [e1] at this
  exact this
theorem three_below (w : World) (a b c : Obj) : Below w.heap.size w (((w.alloc a).alloc b).alloc c) := (((Below.refl _ _).alloc (Nat.le_refl _) a).alloc (by simp) b).alloc (by simp; omega) _

set_option maxRecDepth 10000 in
set_option maxHeartbeats 4000000 in
theorem send_raw {lo : Nat} {w : World} {e : E} {vn vk va : Value} {L : List Item} {s : ByteArray} (hn : NodeAt lo w e vn vk) (hk : Kids5 lo w L va) (hl : L.length ≤ 900) :
    Calls Tryz.prog 27 #[.agg #[.int .i64 e.kind, .string e.text, .int .i64 e.num, vn, vk], .string s, va] w fun r w' => ∃ vk', r = .returned (.agg #[.int .i64 6, .string s, .int .i64 0, .slice none 0 0, vk']) ∧ w'.ownsRow (w.heap.size + 1 + 1) 25 5 vk' (L.length + 1) (row5 ((e, vn, vk) :: L)) ∧ Below w.heap.size w w' := by
  obtain ⟨i0, hi, hz0, hz1, hz2⟩ := info_parts infoE
  have HK := Lib.hid hk
  have HN := Lib.hid hn
  have h1 := node_one (x := (e, vn, vk)) hn
  have HONE := Lib.hid h1
  rcases hk.2 with ⟨rfl, rfl⟩ | ⟨b, o, c, rfl, m1, m2, hb, hc⟩
  · clear hk h1 hn
    go_enter Tryz.func27, Tryz.ntmps27
    go_wp2_with fail
    refine bodyPost_ret (v := .agg #[.int .i64 6, .string s, .int .i64 0, .slice none 0 0, .slice (some ⟨w.heap.size + 1 + 1, 0, none⟩) 1 1]) (by simp [results, Tryz.results27, go_sem, *]) rfl ⟨_, rfl, ?_, three_below _ _ _ _⟩
    exact lit_own w _ _ e vn vk
  · have HC := Lib.hid hc
    have HL := Lib.hid (row5_len L)
    clear hk h1 hn hc
    go_enter Tryz.func27, Tryz.ntmps27
    go_wp2_with (at_builtin; go_must (refine wpList_append_own _ rfl _ _ 23 rfl (w.heap.size + 1 + 1) 25 i0 (.agg #[.int .i64 0, .string ByteArray.empty, .int .i64 0, .slice none 0 0, .slice none 0 0]) 5 80 Tryz.underlying23 hi hz0 hz1 hz2 rfl (by decide) _ 1 (row5 [(e, vn, vk)]) rfl (lit_own w _ _ e vn vk) ⟨b, o, none⟩ L.length c (row5 L) rfl HL.out ?c1 ?c2 ?c3 ?c4 ?c5 ?_))
    case c1 =>
      intro j u hj
      rw [add_plain]
      exact cell_keep (three_below _ _ _ _) (HC.out j u hj)
    case c2 => exact all_one HK.out.1
    case c3 => unfold maxLen; omega
    case c4 => omega
    case c5 => simp
    intro v' w4 hown hgr _
    have hz : Zero (w.heap.size + 1) w4 := by
      have h0 := zero_new (w.alloc (.cells #[.int .i64 e.kind, .string e.text, .int .i64 e.num, vn, vk] 25)) 25
      have e1 : (w.alloc (.cells #[.int .i64 e.kind, .string e.text, .int .i64 e.num, vn, vk] 25)).heap.size = w.heap.size + 1 := by simp
      rw [e1] at h0
      exact (h0.step ((Below.refl _ _).alloc (Nat.le_refl _) _)).same hgr.size (hgr.block _ (by simp) (by simp [Value.ownBlock]))
    have HB : Hid (Below w.heap.size w w4) := Lib.hid ((three_below _ _ _ _).grown hgr (by simp; omega) (by simp [Value.ownBlock]; omega))
    obtain ⟨ra, rc, rfl⟩ := Kit.row_form hown
    have HOWN := Lib.hid hown
    clear hown hgr
    obtain ⟨hsz, z0, z1, z2, z3, z4, fz⟩ := hz
    go_wp2_with fail
    refine bodyPost_ret (v := .agg #[.int .i64 6, .string s, .int .i64 0, .slice none 0 0, .slice ra (1 + L.length) rc]) (by simp [results, Tryz.results27, go_sem, *]) rfl ⟨_, rfl, ?_, ?_⟩
    · have ho2 := own_put5 HOWN.out (B := w.heap.size + 1) (by omega) (.int .i64 6) (.string s) (.int .i64 0) (.slice none 0 0) (.slice ra (1 + L.length) rc)
      rw [← row5_append, Nat.add_comm 1 L.length] at ho2
      rw [Nat.add_comm 1 L.length]
      exact ho2
    · exact put5_below HB.out (B := w.heap.size + 1) (by omega) _ _ _ _ _
theorem send_any {lo : Nat} {w : World} {e : E} {v va : Value} {L : List Item} {s : ByteArray} (h : Reads lo w e v) (hk : Kids5 lo w L va) (hl : L.length ≤ 900) (hs : s.size ≤ maxLen) (hlo : lo ≤ w.heap.size) :
    Calls Tryz.prog 27 #[v, .string s, va] w fun r w' => ∃ v', r = .returned v' ∧ Reads lo w' (eSend e s (trees L)) v' ∧ Below w.heap.size w w' := by
  obtain ⟨vn, vk, rfl, hn⟩ := h
  refine (send_raw hn hk hl).mono ?_
  rintro r w' ⟨vk', rfl, ho, hb⟩
  refine ⟨_, rfl, send_reads (L := (e, vn, vk) :: L) (own_kids ho (by omega) fun x hx => ?_) hs, hb⟩
  rcases List.mem_cons.1 hx with rfl | hx
  · exact hn.below hb
  · exact (hk.1 x hx).below hb

theorem infoX : (Tryz.prog.info? 9).map (fun i => (i.zero, i.size, i.bytes)) = some (some (.string ByteArray.empty), 1, 16) := by kernel_rfl
theorem strs_cells {w : World} {b o : Nat} {xs : List ByteArray} (h : ∀ j (h : j < xs.length), w.cell? ⟨b, o + j, none⟩ = some (.string xs[j])) : ∀ (j : Nat) (u : Value), (xs.map Value.string)[j]? = some u → w.cell? ((⟨b, o, none⟩ : Addr).add j) = some u := by
  intro j u hj
  have hl := (List.getElem?_eq_some_iff.1 hj).1
  have hv := (List.getElem?_eq_some_iff.1 hj).2
  rw [List.length_map] at hl
  rw [List.getElem_map] at hv
  rw [add_plain, h j hl, hv]
theorem strs_one (xs : List ByteArray) : ∀ u : Value, u ∈ xs.map Value.string → u.oneCell' = true := by
  intro u hu
  obtain ⟨x, _, rfl⟩ := List.mem_map.1 hu
  rfl

set_option maxRecDepth 10000 in
set_option maxHeartbeats 4000000 in
theorem block_any {lo : Nat} {w : World} {ps ts : List ByteArray} {ks : List E} {vp vt vk : Value} (hp : TextsN lo w ps vp) (ht : TextsN lo w ts vt) (hk : KidsAt lo w ks vk) (hpl : ps.length ≤ 800) (htl : ts.length ≤ 800) (hlo : lo ≤ w.heap.size) :
    Calls Tryz.prog 123 #[vp, vt, vk] w fun r w' => ∃ v', r = .returned v' ∧ Reads lo w' (eBlock ps ts ks) v' ∧ Below w.heap.size w w' := by
  obtain ⟨i0, hi, hz0, hz1, hz2⟩ := info_parts infoX
  have HP := Lib.hid hp
  have HT := Lib.hid ht
  have HK := Lib.hid hk
  obtain ⟨-, pb, po, pc, rfl, pm1, pm2, -, pd⟩ := hp
  obtain ⟨-, tb, to, tc, rfl, tm1, tm2, -, td⟩ := ht
  obtain ⟨ka, kc, rfl, km, -⟩ := hk
  have PD := Lib.hid pd
  have TD := Lib.hid td
  clear pd td
  have hlit : ((w.alloc (.cells #[.int .i64 0, .string ⟨#[]⟩, .int .i64 0, .slice none 0 0, .slice none 0 0] 25)).alloc (.cells #[] 9)).ownsRow (w.heap.size + 1) 9 1 (.slice (some ⟨w.heap.size + 1, 0, none⟩) 0 0) 0 ([].map Value.string) := by
    have e1 : (w.alloc (.cells #[.int .i64 0, .string ⟨#[]⟩, .int .i64 0, .slice none 0 0, .slice none 0 0] 25)).heap.size = w.heap.size + 1 := by simp
    have := World.ownsRow_lit (base := w.heap.size + 1) (e := 9) (size := 1) (w.alloc (.cells #[.int .i64 0, .string ⟨#[]⟩, .int .i64 0, .slice none 0 0, .slice none 0 0] 25)) #[] 0 (by rw [e1]; exact Nat.le_refl _) (Nat.zero_le _) rfl
    rw [e1] at this
    exact this
  have hb0 : Below w.heap.size w ((w.alloc (.cells #[.int .i64 0, .string ⟨#[]⟩, .int .i64 0, .slice none 0 0, .slice none 0 0] 25)).alloc (.cells #[] 9)) := ((Below.refl _ _).alloc (Nat.le_refl _) _).alloc (by simp) _
  have hz0' : Zero w.heap.size ((w.alloc (.cells #[.int .i64 0, .string ⟨#[]⟩, .int .i64 0, .slice none 0 0, .slice none 0 0] 25)).alloc (.cells #[] 9)) := (zero_new w _).step ((Below.refl _ _).alloc (Nat.le_refl _) _)
  have HLIT := Lib.hid hlit
  have HB0 := Lib.hid hb0
  have HZ0 := Lib.hid hz0'
  clear hlit hb0 hz0'
  go_enter Tryz.func123, Tryz.ntmps123
  go_wp2_with (at_builtin; go_must (refine wpList_append_own _ rfl _ _ 22 rfl (w.heap.size + 1) 9 i0 (.string ByteArray.empty) 1 16 Tryz.underlying22 hi hz0 hz1 hz2 rfl (by decide) _ _ _ rfl HLIT.out ⟨pb, po, none⟩ ps.length pc (ps.map Value.string) rfl ?c0 ?c1 ?c2 ?c3 ?c4 ?c5 ?_))
  case c0 => simp
  case c1 => exact strs_cells fun j hj => cell_keep HB0.out (PD.out j hj)
  case c2 => exact strs_one _
  case c3 => unfold maxLen; omega
  case c4 => omega
  case c5 => simp
  intro v1 w1 hown hgr _
  have HO1 : Hid (w1.ownsRow (w.heap.size + 1) 9 1 v1 ps.length (ps.map Value.string)) := Lib.hid (by simpa using hown)
  have hb1 : Below (w.heap.size + 1) ((w.alloc (.cells #[.int .i64 0, .string ⟨#[]⟩, .int .i64 0, .slice none 0 0, .slice none 0 0] 25)).alloc (.cells #[] 9)) w1 := (Below.refl _ _).grown hgr (by simp) (fun k hk => (HLIT.out.lt k hk).1)
  have HB1 := Lib.hid (HB0.out.trans (hb1.mono (by omega)))
  have HZ1 := Lib.hid (HZ0.out.low hb1 (by omega))
  have hs1 : w.heap.size + 1 ≤ w1.heap.size := by have := HZ1.out.size; omega
  clear hown hgr hb1
  go_wp2_with (at_builtin; go_must (refine wpList_append_own _ rfl _ _ 22 rfl (w.heap.size + 1) 9 i0 (.string ByteArray.empty) 1 16 Tryz.underlying22 hi hz0 hz1 hz2 rfl (by decide) _ _ _ rfl HO1.out ⟨tb, to, none⟩ ts.length tc (ts.map Value.string) rfl ?c0 ?c1 ?c2 ?c3 ?c4 ?c5 ?_))
  case c0 => simp
  case c1 => exact strs_cells fun j hj => cell_keep HB1.out (TD.out j hj)
  case c2 => exact strs_one _
  case c3 => unfold maxLen; omega
  case c4 => omega
  case c5 => exact hs1
  intro v2 w2 hown hgr _
  have hb2 : Below (w.heap.size + 1) w1 w2 := (Below.refl _ _).grown hgr hs1 (fun k hk => (HO1.out.lt k hk).1)
  have HB2 := Lib.hid (HB1.out.trans (hb2.mono (by omega)))
  obtain ⟨hsz, z0, z1, z2, z3, z4, fz⟩ := HZ1.out.low hb2 (by omega)
  obtain ⟨ra, rc, rfl⟩ := Kit.row_form hown
  have HO2 : Hid (w2.ownsRow (w.heap.size + 1) 9 1 (.slice ra (ps.length + ts.length) rc) (ps ++ ts).length ((ps ++ ts).map Value.string)) := Lib.hid (by simpa using hown)
  clear hown hgr hb2
  go_wp2_with fail
  have hbf := put5_below HB2.out (B := w.heap.size) (Nat.le_refl _) (.int .i64 8) (.string ⟨#[]⟩) (.int .i64 ps.length) (.slice ra (ps.length + ts.length) rc) (.slice ka ks.length kc)
  have hof := own_put5 HO2.out (B := w.heap.size) (by omega) (.int .i64 8) (.string ⟨#[]⟩) (.int .i64 ps.length) (.slice ra (ps.length + ts.length) rc) (.slice ka ks.length kc)
  refine bodyPost_ret (v := .agg #[.int .i64 8, .string ⟨#[]⟩, .int .i64 ps.length, .slice ra (ps.length + ts.length) rc, .slice ka ks.length kc]) (by simp [results, Tryz.results123, go_sem, *]) rfl ⟨_, rfl, ⟨_, _, rfl, node_iff.2 ⟨by rfl, ?_, Nat.zero_le _, ?_, ?_⟩⟩, hbf⟩
  · show (Lit.int .i64 (ps.length : Int)).wf = true
    go_wf
  · refine texts_own hof (by omega) fun x hx => ?_
    rcases List.mem_append.1 hx with h1 | h1
    · exact HP.out.1 x h1
    · exact HT.out.1 x h1
  · exact HK.out.below hbf
end Go.Proofs.YtbflpocbjdccgaaGreatDoor.Parser

namespace Go.Proofs.YtbflpocbjdccgaaGreatDoor.Parser
open Go.RowKit
open Strs Tree Gram

/-- The item was laid between two sizes of memory, block g lies not there, and what it leads to has not turned since. -/
def Apart (lo : Nat) (wr : World) (g : Option Nat) (x : Item) : Prop :=
  ∃ l0 w0, lo ≤ l0 ∧ NodeAt l0 w0 x.1 x.2.1 x.2.2 ∧ Kept l0 w0 wr ∧ w0.heap.size ≤ wr.heap.size ∧ ∀ k, g = some k → k < l0 ∨ w0.heap.size ≤ k
structure Out (base : Nat) (wr : World) (L : List Item) (v : Value) : Prop where
  own : wr.ownsRow base 25 5 v L.length (row5 L)
  nn : v ≠ .slice none 0 0
  apart : ∀ x, x ∈ L → Apart base wr v.ownBlock x
theorem Out.all {base : Nat} {wr : World} {L : List Item} {v : Value} (h : Out base wr L v) : All base wr L := fun x hx => by
  obtain ⟨l0, w0, h1, h2, h3, -, -⟩ := h.apart x hx
  exact NodeAt.keep h1 h3 _ _ _ h2
theorem Out.kids {base : Nat} {wr : World} {L : List Item} {v : Value} (h : Out base wr L v) : Kids5 base wr L v := own_kids h.own (Nat.le_refl _) h.all
theorem Out.form {base : Nat} {wr : World} {L : List Item} {v : Value} (h : Out base wr L v) : ∃ a c, v = .slice a L.length c := Kit.row_form h.own
theorem Out.turn {P : Cst} {base : Nat} {wr w' : World} {L : List Item} {v : Value} (h : Out base wr L v) (ht : Turn P wr w') (hp : P.pb < base) : Out base w' L v := by
  refine ⟨own_turn h.own ht hp, h.nn, fun x hx => ?_⟩
  obtain ⟨l0, w0, h1, h2, h3, h4, h5⟩ := h.apart x hx
  exact ⟨l0, w0, h1, h2, h3.trans (ht.kept.mono (by omega)), Nat.le_trans h4 ht.size, h5⟩
theorem Out.below {base : Nat} {wr w' : World} {L : List Item} {v : Value} (h : Out base wr L v) (hb : Below wr.heap.size wr w') : Out base w' L v := by
  refine ⟨own_keep h.own hb, h.nn, fun x hx => ?_⟩
  obtain ⟨l0, w0, h1, h2, h3, h4, h5⟩ := h.apart x hx
  exact ⟨l0, w0, h1, h2, h3.trans (kept_below hb), Nat.le_trans h4 hb.size, h5⟩
theorem Out.new (w : World) : Out w.heap.size (w.alloc (.cells #[] 25)) [] (.slice (some ⟨w.heap.size, 0, none⟩) 0 0) :=
  ⟨World.ownsRow_lit w #[] 0 (Nat.le_refl _) (Nat.zero_le _) rfl, by simp, (fun _ h => nomatch h)⟩
/-- A tree is appended that lies in newer blocks than the row. -/
theorem Out.app {base l1 : Nat} {wr w' : World} {L : List Item} {v v' : Value} {x : Item} {o : Obj} (h : Out base wr L v) (hx : NodeAt l1 wr x.1 x.2.1 x.2.2) (hl : base ≤ l1) (hg : ∀ k, v.ownBlock = some k → k < l1)
    (hown : w'.ownsRow base 25 5 v' (L.length + 1) (row5 L ++ row5 [x])) (hgr : (wr.alloc o).grownBy w' v.ownBlock) (hat : v'.ownBlock = v.ownBlock ∨ v'.ownBlock = some (wr.heap.size + 1)) (hnn : v' ≠ .slice none 0 0) : Out base w' (L ++ [x]) v' := by
  have hs : wr.heap.size ≤ w'.heap.size := by have := hgr.size; simp at this; omega
  have hcell : ∀ b p u, wr.cell? ⟨b, p, none⟩ = some u → some b ≠ v.ownBlock → w'.cell? ⟨b, p, none⟩ = some u := fun b p u hc hne => by
    have hb : Below wr.heap.size wr (wr.alloc o) := (Below.refl _ _).alloc (Nat.le_refl _) _
    exact hgr.cell (cell_keep hb hc) hne
  have hsz : (wr.alloc o).heap.size = wr.heap.size + 1 := by simp
  refine ⟨by rw [row5_append, List.length_append]; exact hown, hnn, fun y hy => ?_⟩
  rcases List.mem_append.1 hy with hy | hy
  · obtain ⟨l0, w0, h1, h2, h3, h4, h5⟩ := h.apart y hy
    refine ⟨l0, w0, h1, h2, fun b p u hb hc => ?_, Nat.le_trans h4 hs, fun k hk => ?_⟩
    · refine hcell b p u (h3 b p u hb hc) fun e => ?_
      have hlt := cell_lt hc
      rcases h5 b e.symm with h6 | h6
      · omega
      · simp at hlt; omega
    · rcases hat with e | e
      · rw [e] at hk; exact h5 k hk
      · rw [e] at hk
        injection hk with hk
        exact .inr (by omega)
  · rw [List.mem_singleton.1 hy]
    refine ⟨l1, wr, hl, hx, fun b p u hb hc => hcell b p u hc fun e => ?_, hs, fun k hk => ?_⟩
    · have := hg b e.symm; omega
    · rcases hat with e | e
      · rw [e] at hk; exact .inl (hg k hk)
      · rw [e] at hk
        injection hk with hk
        exact .inr (by omega)

/-- What was read, unless something was wrong. -/
def Got {α : Type} (b : Bool) (x : α) : Option α := if b = true then none else some x
theorem got_old {P : Cst} {α : Type} {g : Option (α × R)} {b : Bool} {t : α} {q : Nat} (h : g = Got b (t, rest P q)) : (∀ t' r1, g = some (t', r1) → t = t' ∧ rest P q = r1 ∧ b = false) ∧ (g = none → b = true) := by
  subst h
  cases b with
  | true => exact ⟨(fun _ _ e => nomatch e), fun _ => rfl⟩
  | false => exact ⟨fun t' r1 e => by (cases e; exact ⟨rfl, rfl, rfl⟩), fun e => nomatch e⟩
theorem old_got {P : Cst} {α : Type} {g : Option (α × R)} {b : Bool} {t : α} {q : Nat} (h1 : ∀ t' r1, g = some (t', r1) → t = t' ∧ rest P q = r1 ∧ b = false) (h2 : g = none → b = true) : g = Got b (t, rest P q) := by
  cases g with
  | none => rw [h2 rfl]; rfl
  | some y =>
    obtain ⟨t', r1⟩ := y
    obtain ⟨rfl, rfl, rfl⟩ := h1 _ _ rfl
    rfl
/-- What a reader of an expression hands back. -/
def Back (P : Cst) (w : World) (g : Option (E × R)) (e : Ending) (w' : World) : Prop :=
  ∃ v t q b, e = .returned v ∧ Reads w.heap.size w' t v ∧ PS P q b w' ∧ Turn P w w' ∧ g = Got b (t, rest P q)
/-- What a reader of an expression and of whether it sends hands back. -/
def Back2 (P : Cst) (w : World) (g : Option (E × Bool × R)) (e : Ending) (w' : World) : Prop :=
  ∃ v t s q b, e = .returned (.tuple #[v, .bool s]) ∧ Reads w.heap.size w' t v ∧ PS P q b w' ∧ Turn P w w' ∧ g = Got b (t, s, rest P q)
/-- The reader of expressions reads what the grammar reads, of fewer than n tokens. -/
def XC (n : Nat) : Prop := ∀ (P : Cst) (p : Nat) (w : World), PS P p false w → (rest P p).length < n → Calls Tryz.prog 10 #[.pointer (some ⟨P.pb, 0, none⟩)] w (Back P w (expr n (rest P p)))
/-- How much the parser has yet to read; nothing, if something was wrong. -/
def left (pb N : Nat) (w : World) : Nat := match w.cell? ⟨pb, 2, none⟩ with | some (.bool true) => 0 | _ => 1 + (N - plc pb w)
theorem PS.left_bad {P : Cst} {p : Nat} {w : World} (h : PS P p true w) (N : Nat) : left P.pb N w = 0 := by
  unfold left
  rw [h.c2]
theorem PS.left_go {P : Cst} {p : Nat} {w : World} (h : PS P p false w) (N : Nat) : left P.pb N w = 1 + (N - p) := by
  unfold left
  rw [h.c2, h.plc]
/-- A literal of one tree. -/
theorem lit_one {lo : Nat} {w : World} {t : E} {xn xk : Value} (h : NodeAt lo w t xn xk) (hlo : lo ≤ w.heap.size) : Kids5 lo (w.alloc (.cells #[.int .i64 t.kind, .string t.text, .int .i64 t.num, xn, xk] 25)) [(t, xn, xk)] (.slice (some ⟨w.heap.size, 0, none⟩) 1 1) := by
  have hb : Below w.heap.size w (w.alloc (.cells #[.int .i64 t.kind, .string t.text, .int .i64 t.num, xn, xk] 25)) := (Below.refl _ _).alloc (Nat.le_refl _) _
  have hown := World.ownsRow_lit (base := w.heap.size) (e := 25) (size := 5) w #[.int .i64 t.kind, .string t.text, .int .i64 t.num, xn, xk] 1 (Nat.le_refl _) (by unfold maxLen; omega) rfl
  refine own_kids (base := w.heap.size) hown hlo fun x hx => ?_
  rw [List.mem_singleton.1 hx]
  exact h.below hb
/-- A node that has this one kid, no text and no names. -/
theorem node_one_kid {lo : Nat} {w : World} {k : Int} {x : Item} {v : Value} (hk : (Lit.int .i64 k).wf = true) (h : Kids5 lo w [x] v) : NodeAt lo w (.mk k none_ 0 [] [x.1]) (.slice none 0 0) v :=
  node_iff.2 ⟨hk, by rfl, Nat.zero_le _, texts_none _ _, h.kids⟩
theorem five_cells2 (w : World) (o : Obj) (x : Item) (t : TypeId) : ∀ (j : Nat) (u : Value), (cells5 x)[j]? = some u → ((w.alloc o).alloc (.cells #[.int .i64 x.1.kind, .string x.1.text, .int .i64 x.1.num, x.2.1, x.2.2] t)).cell? ((⟨w.heap.size + 1, 0, none⟩ : Addr).add j) = some u := by
  have h := five_cells (w.alloc o) x t
  have e : (w.alloc o).heap.size = w.heap.size + 1 := by simp
  rw [e] at h
  exact h
theorem Turn.refl_alloc (P : Cst) (w : World) (o : Obj) : Turn P w (w.alloc o) := (Turn.refl P w).low ((Below.refl _ _).alloc (Nat.le_refl _) _)
end Go.Proofs.YtbflpocbjdccgaaGreatDoor.Parser

namespace Go.Proofs.YtbflpocbjdccgaaGreatDoor.Parser
open Go.RowKit
open Strs Tree Gram

/-- What the reader of statements hands back. -/
def StBack (P : Cst) (w : World) (g : Option (List E × R)) (e : Ending) (w' : World) : Prop :=
  ∃ v L q b, e = .returned v ∧ Kids5 w.heap.size w' L v ∧ PS P q b w' ∧ Turn P w w' ∧ g = Got b (trees L, rest P q)

theorem begins_some {r : R} (h : begins r = true) : 0 < r.length := by
  cases r with
  | nil => cases h
  | cons t r => simp
theorem st_stop {ex : X} {body : List E} {r : R} (h : begins r = false) : stLoop ex body r = some (body, r) := by rw [stLoop, h]; rfl
theorem st_hat0 {ex : X} {body : List E} {r : R} (h : begins r = true) (h2 : mk cHat r = true) (h3 : ex r.tail = none) : stLoop ex body r = none := by
  rw [stLoop, if_pos h, if_pos h2, h3]
theorem st_hat1 {ex : X} {body : List E} {r : R} {e : E} {r1 : R} (h : begins r = true) (h2 : mk cHat r = true) (h3 : ex r.tail = some (e, r1)) : stLoop ex body r = some (body ++ [.mk 9 none_ 0 [] [e]], if mk cDot r1 then r1.tail else r1) := by
  rw [stLoop, if_pos h, if_pos h2, h3]
theorem st_none {ex : X} {body : List E} {r : R} (h : begins r = true) (h2 : mk cHat r = false) (h3 : ex r = none) : stLoop ex body r = none := by
  rw [stLoop, if_pos h, if_neg (by rw [h2]; simp), h3]
theorem st_end {ex : X} {body : List E} {r : R} {e : E} {r1 : R} (h : begins r = true) (h2 : mk cHat r = false) (h3 : ex r = some (e, r1)) (h4 : mk cDot r1 = false) : stLoop ex body r = some (body ++ [e], r1) := by
  rw [stLoop, if_pos h, if_neg (by rw [h2]; simp), h3]
  simp only
  rw [if_neg (by rw [h4]; simp)]
theorem st_more {ex : X} (hx : Short ex) {body : List E} {r : R} {e : E} {r1 : R} (h : begins r = true) (h2 : mk cHat r = false) (h3 : ex r = some (e, r1)) (h4 : mk cDot r1 = true) : stLoop ex body r = stLoop ex (body ++ [e]) r1.tail := by
  have hlt : r1.tail.length < r.length := Nat.lt_of_le_of_lt (tail_le r1) (hx _ _ _ h3)
  rw [stLoop, if_pos h, if_neg (by rw [h2]; simp), h3]
  simp only
  rw [if_pos h4, dif_pos hlt]
theorem isB_dot (r : R) : isB 7 ⟨#[46]⟩ r = mk cDot r := isB_mk cDot (by decide) r
theorem isB_hat (r : R) : isB 7 ⟨#[94]⟩ r = mk cHat r := isB_mk cHat (by decide) r
theorem own_lt {base : Nat} {wr : World} {L : List Item} {v : Value} (h : Out base wr L v) : ∀ k, v.ownBlock = some k → k < wr.heap.size := fun k hk => (h.own.lt k hk).2

/-- What is known behind a returned tree. -/
theorem hat_back {P : Cst} {ex : X} {L : List Item} {q q4 : Nat} {b4 : Bool} {t : E} {x : Item} {G : Option (List E × R)} (hG : G = stLoop ex (trees L) (rest P q)) (h1 : begins (rest P q) = true) (h2 : mk cHat (rest P q) = true)
    (hy : ∀ t' r1, ex (rest P (q + 1)) = some (t', r1) → t = t' ∧ rest P q4 = r1 ∧ b4 = false) (hn : ex (rest P (q + 1)) = none → b4 = true) (hx : x.1 = .mk 9 none_ 0 [] [t]) (q5 : Nat) (h5 : q5 = if mk cDot (rest P q4) = true then q4 + 1 else q4) :
    (∀ body r1, G = some (body, r1) → trees (L ++ [x]) = body ∧ rest P q5 = r1 ∧ b4 = false) ∧ (G = none → b4 = true) := by
  cases he : ex (rest P (q + 1)) with
  | none =>
    rw [st_hat0 h1 h2 (by rw [rest_tail]; exact he)] at hG
    refine ⟨fun body r1 e => ?_, fun _ => hn he⟩
    rw [hG] at e
    cases e
  | some y =>
    obtain ⟨t', r1⟩ := y
    rw [st_hat1 h1 h2 (by rw [rest_tail]; exact he)] at hG
    obtain ⟨rfl, hr, hb⟩ := hy _ _ he
    refine ⟨fun body r2 e => ?_, fun e => ?_⟩
    · rw [hG] at e
      simp only [Option.some.injEq, Prod.mk.injEq] at e
      refine ⟨?_, ?_, hb⟩
      · rw [trees_append, ← e.1]
        simp [trees, hx]
      · rw [← e.2, ← hr, h5]
        split
        · rw [rest_tail]
        · rfl
    · rw [hG] at e; cases e

/-- What is known behind a statement. -/
theorem more_back {P : Cst} {ex : X} (hex : Short ex) {L : List Item} {q q4 : Nat} {b4 : Bool} {t : E} {G : Option (List E × R)} (hG : G = stLoop ex (trees L) (rest P q)) (h1 : begins (rest P q) = true) (h2 : mk cHat (rest P q) = false)
    (hy : ∀ t' r1, ex (rest P q) = some (t', r1) → t = t' ∧ rest P q4 = r1 ∧ b4 = false) (hn : ex (rest P q) = none → b4 = true) :
    (b4 = true → G = none) ∧ (b4 = false → q < q4 ∧ (mk cDot (rest P q4) = false → G = some (trees L ++ [t], rest P q4)) ∧ (mk cDot (rest P q4) = true → G = stLoop ex (trees L ++ [t]) (rest P (q4 + 1)))) := by
  cases he : ex (rest P q) with
  | none => exact ⟨fun _ => hG.trans (st_none h1 h2 he), fun e => by (rw [hn he] at e; cases e)⟩
  | some y =>
    obtain ⟨t', r1⟩ := y
    obtain ⟨rfl, hr, hb⟩ := hy _ _ he
    subst hr
    refine ⟨fun e => by (rw [hb] at e; cases e), fun _ => ⟨?_, fun hd => hG.trans (st_end h1 h2 he hd), fun hd => ?_⟩⟩
    · have := hex _ _ _ he
      rw [rest_len, rest_len] at this
      omega
    · rw [← rest_tail]
      exact hG.trans (st_more hex h1 h2 he hd)

set_option maxHeartbeats 4000000 in
theorem st_bad {P : Cst} {p : Nat} {w : World} (h : PS P p true w) :
    Calls Tryz.prog 122 #[.pointer (some ⟨P.pb, 0, none⟩)] w (StBack P w none) := by
  have H1 := Lib.hid (h.below ((Below.refl _ _).alloc (Nat.le_refl _) (.cells #[] 25)))
  have hc2 := H1.out.c2
  have HT := Lib.hid (Turn.refl_alloc P w (.cells #[] 25))
  have HO := Lib.hid (Out.new w)
  clear h
  generalize hpb : P.pb = pb at *
  clear hpb
  go_enter Tryz.func122, Tryz.ntmps122
  go_wp2_with fail
  refine wp_loop_rounds 1 ?_
  rw [rounds_succ]
  go_wp2_with fail
  go_ret
  exact ⟨_, [], p, true, rfl, HO.out.kids, H1.out, HT.out, rfl⟩

set_option maxRecDepth 10000 in
set_option maxHeartbeats 8000000 in
theorem st_any {n : Nat} (hx : XC n) {P : Cst} {p : Nat} {w : World} (h : PS P p false w) (hn : (rest P p).length < n) :
    Calls Tryz.prog 122 #[.pointer (some ⟨P.pb, 0, none⟩)] w (StBack P w (stLoop (expr n) [] (rest P p))) := by
  obtain ⟨i0, hi, hz0, hz1, hz2⟩ := info_parts infoE
  have KB := fun (w1 : World) (q : Nat) (h1 : PS P q false w1) => Lib.hid (begins_any h1)
  have KT1 := fun (w1 : World) (q : Nat) (b : Bool) (c : ByteArray) (h1 : PS P q b w1) (hb : isB 7 c (rest P q) = true) => Lib.hid (take_yes h1 hb)
  have KT0 := fun (w1 : World) (q : Nat) (b : Bool) (c : ByteArray) (h1 : PS P q b w1) (hb : isB 7 c (rest P q) = false) => Lib.hid (take_no h1 hb)
  have KX := fun (w1 : World) (q : Nat) (h1 : PS P q false w1) (hl : (rest P q).length < n) => Lib.hid (hx P q w1 h1 hl)
  have H1 := Lib.hid (h.below ((Below.refl _ _).alloc (Nat.le_refl _) (.cells #[] 25)))
  have HT := Lib.hid (Turn.refl_alloc P w (.cells #[] 25))
  have HO := Lib.hid (Out.new w)
  have HLO := Lib.hid h.lo
  have hpbl := h.size
  have h8 := h.fit.len
  have hpl := h.le
  have HN := Lib.hid hn
  clear h hn hx
  generalize hpb : P.pb = pb at *
  generalize hNN : P.toks.length = N at *
  have HPB := Lib.hid hpb; clear hpb
  have HNN := Lib.hid hNN; clear hNN
  generalize hG : stLoop (expr n) [] (rest P p) = G
  have HG := Lib.hid hG; clear hG
  go_enter Tryz.func122, Tryz.ntmps122
  go_wp2_with fail
  go_loopw [3] (fun v wr => ∃ (L : List Item) (q : Nat) (b : Bool), L.length ≤ N ∧ PS P q b wr ∧ Turn P w wr ∧ Out w.heap.size wr L v ∧ (b = false → p ≤ q ∧ L.length ≤ q ∧ G = stLoop (expr n) (trees L) (rest P q)) ∧ (b = true → G = none)) (fun _ wr => left pb N wr)
  case atStart => exact ⟨[], p, false, Nat.zero_le _, H1.out, HT.out, HO.out, fun _ => ⟨Nat.le_refl _, Nat.zero_le _, HG.out.symm⟩, fun h => nomatch h⟩
  case round =>
    obtain ⟨L, q, b, hLN, hps, htr, hout, hgood, hbad⟩ := hrel
    have HPS := Lib.hid hps
    have HTR := Lib.hid htr
    have HOUT := Lib.hid hout
    have c2 := hps.c2
    rw [HPB.out] at c2
    obtain ⟨ra, rc, rfl⟩ := hout.form
    have hgw : w.heap.size ≤ wr.heap.size := htr.size
    clear hps htr hout
    cases b with
    | true =>
      have HB := Lib.hid (hbad rfl); clear hbad hgood
      go_wp2_with fail
      go_ret
      exact ⟨_, L, q, true, rfl, HOUT.out.kids, HPS.out, HTR.out, HB.out⟩
    | false =>
      obtain ⟨hpq, hLq, hgo⟩ := hgood rfl
      have HGO := Lib.hid hgo; clear hgo hbad hgood
      have HQL : Hid ((rest P q).length ≤ (rest P p).length) := Lib.hid (by rw [rest_len, rest_len]; omega)
      have K := KB wr q HPS.out
      have hlf := Lib.hid (show left pb N wr = 1 + (N - q) by rw [← HPB.out]; exact HPS.out.left_go N)
      cases hbg : begins (rest P q) with
      | false =>
        rw [hbg] at K
        have HG2 : Hid (G = some (trees L, rest P q)) := Lib.hid (HGO.out.trans (st_stop hbg))
        clear hbg
        go_wp2_with fail
        refine K.out.mono ?_
        rintro e w2 ⟨rfl, h2, ht2⟩
        have H2 := Lib.hid h2
        have HT2 := Lib.hid ht2
        clear h2 ht2
        go_wp2_with fail
        go_ret
        exact ⟨_, L, q, false, rfl, (HOUT.out.turn HT2.out (by rw [HPB.out]; exact hpbl)).kids, H2.out, HTR.out.trans HT2.out, HG2.out⟩
      | true =>
        rw [hbg] at K
        have HBG := Lib.hid hbg
        have hqN : q < N := by
          have h1 := begins_some hbg
          rw [rest_len, HNN.out] at h1
          omega
        clear hbg
        go_wp2_with fail
        refine K.out.mono ?_
        rintro e w2 ⟨rfl, h2, ht2⟩
        have H2 := Lib.hid h2
        have HT2 := Lib.hid ht2
        have HO2 := Lib.hid (HOUT.out.turn ht2 (by rw [HPB.out]; exact hpbl))
        clear h2 ht2 K
        go_wp2_with fail
        cases hhat : isB 7 ⟨#[94]⟩ (rest P q) with
        | true =>
          refine (KT1 _ _ _ _ H2.out hhat).out.mono ?_
          rintro e w3 ⟨rfl, h3, ht3⟩
          have hq1 : (rest P (q + 1)).length < n := by
            have h1 := HN.out
            have h2 := HQL.out
            rw [rest_len] at h1 h2 ⊢
            rw [rest_len] at h2
            omega
          have KE := KX w3 (q + 1) h3 hq1
          have HHAT := Lib.hid (hhat.symm.trans (isB_hat _)).symm
          have HO3 := Lib.hid (HO2.out.turn ht3 (by rw [HPB.out]; exact hpbl))
          have HT3 := Lib.hid (HTR.out.trans (HT2.out.trans ht3))
          have hg3 : w.heap.size ≤ w3.heap.size := HT3.out.size
          clear h3 ht3 hhat hq1
          go_wp2_with fail
          refine KE.out.mono ?_
          rintro e w4 ⟨v4, t, q4, b4, rfl, hr4, h4, ht4, hgot⟩
          obtain ⟨hy4, hn4⟩ := got_old hgot
          clear hgot
          obtain ⟨xn, xk, rfl, hnode⟩ := hr4
          have HK4 := Lib.hid (lit_one hnode ht4.size)
          have hba : Below w4.heap.size w4 (w4.alloc (.cells #[.int .i64 t.kind, .string t.text, .int .i64 t.num, xn, xk] 25)) := (Below.refl _ _).alloc (Nat.le_refl _) _
          have HPS4 := Lib.hid (h4.below hba)
          have HT4 := Lib.hid ((HT3.out.trans ht4).below hba)
          have HO4 := Lib.hid ((HO3.out.turn ht4 (by rw [HPB.out]; exact hpbl)).below hba)
          have HY4 := Lib.hid (And.intro hy4 hn4)
          have HBL4 := Lib.hid (own_lt HO3.out)
          have hg4 : w.heap.size ≤ w4.heap.size := Nat.le_trans hg3 ht4.size
          have hw4 : (w4.alloc (.cells #[.int .i64 t.kind, .string t.text, .int .i64 t.num, xn, xk] 25)).heap.size = w4.heap.size + 1 := by simp
          clear h4 ht4 hy4 hn4 hnode hba KE
          go_wp2_with (at_builtin; go_must (refine wpList_append_own_at _ rfl _ _ 23 rfl w.heap.size 25 i0 (.agg #[.int .i64 0, .string ByteArray.empty, .int .i64 0, .slice none 0 0, .slice none 0 0]) 5 80 Tryz.underlying23 hi hz0 hz1 hz2 rfl (by decide) _ L.length (row5 L) rfl (HO4.out.below ((Below.refl _ _).alloc (Nat.le_refl _) _)).own ⟨w4.heap.size + 1, 0, none⟩ 1 1 (row5 [(.mk 9 none_ 0 [] [t], .slice none 0 0, .slice (some ⟨w4.heap.size, 0, none⟩) 1 1)]) rfl rfl ?c1 ?c2 ?c3 ?c4 ?c5 ?_))
          case c1 => exact five_cells2 w4 _ (.mk 9 none_ 0 [] [t], .slice none 0 0, .slice (some ⟨w4.heap.size, 0, none⟩) 1 1) _
          case c2 => exact all_one (L := [(.mk 9 none_ 0 [] [t], .slice none 0 0, .slice (some ⟨w4.heap.size, 0, none⟩) 1 1)]) (fun y hy => by rw [List.mem_singleton.1 hy]; exact node_one_kid (by rfl) HK4.out)
          case c3 => unfold maxLen; omega
          case c4 => omega
          case c5 => simp; omega
          intro v5 w5 hown hgr hnn hat
          have HO5 : Hid (Out w.heap.size w5 (L ++ [(.mk 9 none_ 0 [] [t], .slice none 0 0, .slice (some ⟨w4.heap.size, 0, none⟩) 1 1)]) v5) := Lib.hid (HO4.out.app (l1 := w3.heap.size) (node_one_kid (by rfl) HK4.out) hg3 HBL4.out hown hgr (by rw [hw4]; exact hat) hnn)
          have hlow := app_low (base := w.heap.size) (by rw [hw4]; omega) HO4.out.own hgr
          have HPS5 := Lib.hid (HPS4.out.low hlow HLO.out)
          have HT5 := Lib.hid (HT4.out.low hlow)
          clear hown hgr hnn hat hlow
          have HBACK := Lib.hid (fun q5 h5 => hat_back (L := L) (x := (.mk 9 none_ 0 [] [t], .slice none 0 0, .slice (some ⟨w4.heap.size, 0, none⟩) 1 1)) HGO.out HBG.out HHAT.out HY4.out.1 HY4.out.2 rfl q5 h5)
          go_wp2_with fail
          cases hdot : isB 7 ⟨#[46]⟩ (rest P q4) with
          | true =>
            refine (KT1 _ _ _ _ HPS5.out hdot).out.mono ?_
            rintro e w6 ⟨rfl, h6, ht6⟩
            have H6 := Lib.hid h6
            have HT6 := Lib.hid ht6
            have HB6 := Lib.hid (HBACK.out (q4 + 1) (by rw [← isB_dot, hdot]; rfl))
            clear h6 ht6 hdot
            go_wp2_with fail
            go_ret
            exact ⟨_, _, q4 + 1, b4, rfl, (HO5.out.turn HT6.out (by rw [HPB.out]; exact hpbl)).kids, H6.out, HT5.out.trans HT6.out, old_got HB6.out.1 HB6.out.2⟩
          | false =>
            refine (KT0 _ _ _ _ HPS5.out hdot).out.mono ?_
            rintro e w6 ⟨rfl, h6, ht6⟩
            have H6 := Lib.hid h6
            have HT6 := Lib.hid ht6
            have HB6 := Lib.hid (HBACK.out q4 (by rw [← isB_dot, hdot]; rfl))
            clear h6 ht6 hdot
            go_wp2_with fail
            go_ret
            exact ⟨_, _, q4, b4, rfl, (HO5.out.turn HT6.out (by rw [HPB.out]; exact hpbl)).kids, H6.out, HT5.out.trans HT6.out, old_got HB6.out.1 HB6.out.2⟩
        | false =>
          refine (KT0 _ _ _ _ H2.out hhat).out.mono ?_
          rintro e w3 ⟨rfl, h3, ht3⟩
          have hq1 : (rest P q).length < n := Nat.lt_of_le_of_lt HQL.out HN.out
          have KE := KX w3 q h3 hq1
          have HHAT := Lib.hid (hhat.symm.trans (isB_hat _)).symm
          have HO3 := Lib.hid (HO2.out.turn ht3 (by rw [HPB.out]; exact hpbl))
          have HT3 := Lib.hid (HTR.out.trans (HT2.out.trans ht3))
          have hg3 : w.heap.size ≤ w3.heap.size := HT3.out.size
          clear h3 ht3 hhat hq1
          go_wp2_with fail
          refine KE.out.mono ?_
          rintro e w4 ⟨v4, t, q4, b4, rfl, hr4, h4, ht4, hgot⟩
          obtain ⟨hy4, hn4⟩ := got_old hgot
          clear hgot
          obtain ⟨xn, xk, rfl, hnode⟩ := hr4
          have HNODE := Lib.hid hnode
          have HPS4 := Lib.hid h4
          have HT4 := Lib.hid (HT3.out.trans ht4)
          have HO4 := Lib.hid (HO3.out.turn ht4 (by rw [HPB.out]; exact hpbl))
          have HMB := Lib.hid (more_back (expr_short n) HGO.out HBG.out HHAT.out hy4 hn4)
          have HBL4 := Lib.hid (own_lt HO3.out)
          have hg4 : w.heap.size ≤ w4.heap.size := Nat.le_trans hg3 ht4.size
          have HONE := Lib.hid (node_one (x := (t, xn, xk)) hnode)
          clear h4 ht4 hy4 hn4 hnode KE
          go_wp2_with (at_builtin; go_must (refine wpList_append_own_at _ rfl _ _ 23 rfl w.heap.size 25 i0 (.agg #[.int .i64 0, .string ByteArray.empty, .int .i64 0, .slice none 0 0, .slice none 0 0]) 5 80 Tryz.underlying23 hi hz0 hz1 hz2 rfl (by decide) _ L.length (row5 L) rfl (HO4.out.below ((Below.refl _ _).alloc (Nat.le_refl _) _)).own ⟨w4.heap.size, 0, none⟩ 1 1 (row5 [(t, xn, xk)]) rfl rfl ?c1 ?c2 ?c3 ?c4 ?c5 ?_))
          case c1 => exact five_cells w4 (t, xn, xk) _
          case c2 => exact all_one (w := w4) (L := [(t, xn, xk)]) (fun y hy => by rw [List.mem_singleton.1 hy]; exact HNODE.out)
          case c3 => unfold maxLen; omega
          case c4 => omega
          case c5 => simp; omega
          intro v5 w5 hown hgr hnn hat
          have HO5 : Hid (Out w.heap.size w5 (L ++ [(t, xn, xk)]) v5) := Lib.hid (HO4.out.app (l1 := w3.heap.size) HNODE.out hg3 HBL4.out hown hgr hat hnn)
          have hlow := app_low (base := w.heap.size) hg4 HO4.out.own hgr
          have HPS5 := Lib.hid (HPS4.out.low hlow HLO.out)
          have HT5 := Lib.hid (HT4.out.low hlow)
          clear hown hgr hnn hat hlow
          go_wp2_with fail
          cases hdot : isB 7 ⟨#[46]⟩ (rest P q4) with
          | true =>
            refine (KT1 _ _ _ _ HPS5.out hdot).out.mono ?_
            rintro e w6 ⟨rfl, h6, ht6⟩
            have H6 := Lib.hid h6
            have HT6 := Lib.hid ht6
            have HDOT := Lib.hid (hdot.symm.trans (isB_dot _)).symm
            have hq4 : q4 < N := by rw [← HNN.out]; exact isB_lt hdot
            clear h6 ht6 hdot
            go_wp2_with fail
            go_roundw
            case rel =>
              refine ⟨L ++ [(t, xn, xk)], q4 + 1, b4, by simp; omega, H6.out, HT5.out.trans HT6.out, HO5.out.turn HT6.out (by rw [HPB.out]; exact hpbl), fun e => ?_, HMB.out.1⟩
              obtain ⟨h1, -, h3⟩ := HMB.out.2 e
              exact ⟨by omega, by simp; omega, by rw [trees_append]; exact h3 HDOT.out⟩
            case measure =>
              rw [hlf.out]
              cases b4 with
              | true =>
                have := H6.out.left_bad N
                rw [HPB.out] at this
                omega
              | false =>
                have h1 := H6.out.left_go N
                rw [HPB.out] at h1
                have h2 := (HMB.out.2 rfl).1
                omega
          | false =>
            refine (KT0 _ _ _ _ HPS5.out hdot).out.mono ?_
            rintro e w6 ⟨rfl, h6, ht6⟩
            have H6 := Lib.hid h6
            have HT6 := Lib.hid ht6
            have HDOT := Lib.hid (hdot.symm.trans (isB_dot _)).symm
            clear h6 ht6 hdot
            go_wp2_with fail
            go_ret
            refine ⟨_, _, q4, b4, rfl, (HO5.out.turn HT6.out (by rw [HPB.out]; exact hpbl)).kids, H6.out, HT5.out.trans HT6.out, old_got (fun body r1 e => ?_) fun e => ?_⟩
            · cases b4 with
              | true => rw [HMB.out.1 rfl] at e; cases e
              | false =>
                rw [(HMB.out.2 rfl).2.1 HDOT.out] at e
                cases e
                exact ⟨by rw [trees_append]; rfl, rfl, rfl⟩
            · cases b4 with
              | true => rfl
              | false => rw [(HMB.out.2 rfl).2.1 HDOT.out] at e; cases e
end Go.Proofs.YtbflpocbjdccgaaGreatDoor.Parser
