/-
  DrawKit DrawTree
-/
import Derived.Test.YtbigfeblomfflaaGreatDoorB36
import Derived.Test.YtbigfeblomfflaaGreatDoorB0
namespace Go.Proofs.YtbigfeblomfflaaGreatDoor
namespace DrawTree
open Go.RowKit
open Strs Tree Cur Draw Soft
open Go.Proofs.YtbigfeblomfflaaGreatDoor.Parser
theorem kept_gr {g lo : Nat} {w w' : World} (h : w.grownBy w' (some g)) (hl : g < lo) : Kept lo w w' := fun b o v hb hc => grown_cell h (by omega) hc
theorem keptF_gr {g lo : Nat} {w w' : World} (h : w.grownBy w' (some g)) (hl : g < lo) : KeptF lo w w' :=
  ⟨kept_gr h hl, fun b o hb ⟨_, _, hc⟩ hf => (World.frozen?_of_block (a := ⟨b, o, none⟩) (h.block b (Cur.cell_lt hc) (fun e => by injection e with e; omega))).trans hf⟩
theorem keptF_put5 (w : World) {B lo : Nat} (h : B < lo) (a b c d e : Value) : KeptF lo w (put5 w B a b c d e) :=
  ((((keptF_set w ⟨B, 0, none⟩ a h).trans (keptF_set _ ⟨B, 1, none⟩ b h)).trans (keptF_set _ ⟨B, 2, none⟩ c h)).trans (keptF_set _ ⟨B, 3, none⟩ d h)).trans (keptF_set _ ⟨B, 4, none⟩ e h)
theorem keptF_id (lo : Nat) (w : World) : KeptF lo w w := ⟨fun _ _ _ _ hc => hc, fun _ _ _ _ hf => hf⟩
def NS (lo : Nat) (w : World) (e : E) (vn vk : Value) : Prop := NodeAt lo w e vn vk /\ Soft lo w e vk
theorem NS.keep {lo hi : Nat} {w w' : World} {e : E} {vn vk : Value} (hl : lo <= hi) (hk : KeptF hi w w') (h : NS hi w e vn vk) : NS lo w' e vn vk := ⟨NodeAt.keep hl hk.1 _ _ _ h.1, Soft.keep hl hk _ _ h.2⟩
theorem NS.below {lo : Nat} {w w' : World} {e : E} {vn vk : Value} (h : NS lo w e vn vk) (hb : Below w.heap.size w w') : NS lo w' e vn vk := h.keep (zL _) (keptF_below hb)
theorem to_softrow {lo : Nat} {w : World} {b : Nat} : ∀ (L : List Parser.Item) (o : Nat), (∀ x, x ∈ L -> Soft lo w x.1 x.2.2) -> (∀ j u, (row5 L)[j]? = some u -> w.cell? ⟨b, o + j, none⟩ = some u) -> SoftRow lo w b (trees L) o := by
  intro L
  induction L with
  | nil => intro o _ _; exact trivial
  | cons x L ih =>
    intro o h1 h2
    have he : row5 (x :: L) = cells5 x ++ row5 L := rfl
    rw [he] at h2
    show SoftRow lo w b (x.1 :: trees L) o
    rw [SoftRow]
    refine ⟨⟨x.2.2, h2 4 _ rfl, h1 x (by simp)⟩, ih _ (fun y hy => h1 y (by simp [hy])) fun j u hj => ?_⟩
    have := h2 (j + 5) u (by simp [cells5]; exact hj)
    rw [show o + 5 + j = o + (j + 5) by omega]
    exact this
theorem own_soft {lo base : Nat} {w : World} {L : List Parser.Item} {v : Value} (h : w.ownsRow base 27 5 v L.length (row5 L)) (hlo : lo <= base) (ha : ∀ x, x ∈ L -> Soft lo w x.1 x.2.2) : SoftKids lo w (trees L) v := by
  have hl : (trees L).length = L.length := by simp [trees]
  have h' := h
  obtain ⟨_, ⟨rfl, hn⟩ | ⟨g, cap, cur, rfl, hbg, hg, hnc, hcm, _, _⟩⟩ := h
  · exact ⟨none, 0, by rw [hl, hn], fun h0 => by omega⟩
  · refine ⟨_, cap, by rw [hl], fun _ => ⟨g, 0, rfl, by omega, fun o => ?_, to_softrow L 0 ha fun j u hj => ?_⟩⟩
    · simp [World.frozen?, hg]
    · have hjl : j < L.length * 5 := by
        have := (List.getElem?_eq_some_iff.1 hj).1
        rw [row5_len] at this
        exact this
      rw [Nat.zero_add, h'.cellAt j hjl]
      exact hj
theorem soft_none (lo : Nat) (w : World) (k : Int) (t : ByteArray) (n : Int) (ns : List ByteArray) : Soft lo w (.mk k t n ns []) (.slice none 0 0) := soft_iff.2 ⟨none, 0, rfl, fun h => absurd h (by simp [E.kids])⟩
theorem soft_other {lo : Nat} {w : World} {k k' : Int} {t t' : ByteArray} {n n' : Int} {ns ns' : List ByteArray} {ks : List E} {vk : Value} (h : Soft lo w (.mk k t n ns ks) vk) : Soft lo w (.mk k' t' n' ns' ks) vk := by
  have h1 := soft_iff.1 h
  exact soft_iff.2 h1
def Apart (lo : Nat) (wr : World) (g : Option Nat) (x : Parser.Item) : Prop :=
  ∃ l0 w0, lo <= l0 /\ NS l0 w0 x.1 x.2.1 x.2.2 /\ KeptF l0 w0 wr /\ w0.heap.size <= wr.heap.size /\ ∀ k, g = some k -> k < l0 \/ w0.heap.size <= k
structure Out (base : Nat) (wr : World) (L : List Parser.Item) (v : Value) : Prop where
  own : wr.ownsRow base 27 5 v L.length (row5 L)
  nn : v ≠ .slice none 0 0
  apart : ∀ x, x ∈ L -> Apart base wr v.ownBlock x
theorem Out.all {base : Nat} {wr : World} {L : List Parser.Item} {v : Value} (h : Out base wr L v) : ∀ x, x ∈ L -> NS base wr x.1 x.2.1 x.2.2 := fun x hx => by
  obtain ⟨l0, w0, h1, h2, h3, -, -⟩ := h.apart x hx
  exact NS.keep h1 h3 h2
theorem Out.kids {base : Nat} {wr : World} {L : List Parser.Item} {v : Value} (h : Out base wr L v) : Kids5 base wr L v := own_kids h.own (zL _) fun x hx => (h.all x hx).1
theorem Out.soft {base : Nat} {wr : World} {L : List Parser.Item} {v : Value} (h : Out base wr L v) : SoftKids base wr (trees L) v := own_soft h.own (zL _) fun x hx => (h.all x hx).2
theorem Out.form {base : Nat} {wr : World} {L : List Parser.Item} {v : Value} (h : Out base wr L v) : ∃ a c, v = .slice a L.length c := Kit.zax h.own
theorem Out.below {base : Nat} {wr w' : World} {L : List Parser.Item} {v : Value} (h : Out base wr L v) (hb : Below wr.heap.size wr w') : Out base w' L v := by
  refine ⟨own_keep h.own hb, h.nn, fun x hx => ?_⟩
  obtain ⟨l0, w0, h1, h2, h3, h4, h5⟩ := h.apart x hx
  exact ⟨l0, w0, h1, h2, h3.trans (keptF_below hb), Nat.le_trans h4 hb.size, h5⟩
theorem Out.new (w : World) : Out w.heap.size (w.alloc (.cells #[] 27)) [] (.slice (some ⟨w.heap.size, 0, none⟩) 0 0) :=
  ⟨World.ownsRow_lit w #[] 0 (zL _) (Nat.zero_le _) rfl, by simp, (fun _ h => nomatch h)⟩
theorem Out.app {base l1 : Nat} {wr w' : World} {L : List Parser.Item} {v v' : Value} {x : Parser.Item} {o : Obj} (h : Out base wr L v) (hx : NS l1 wr x.1 x.2.1 x.2.2) (hl : base <= l1) (hg : ∀ k, v.ownBlock = some k -> k < l1)
    (hown : w'.ownsRow base 27 5 v' (L.length + 1) (row5 L ++ row5 [x])) (hgr : (wr.alloc o).grownBy w' v.ownBlock) (hat : v'.ownBlock = v.ownBlock \/ v'.ownBlock = some (wr.heap.size + 1)) (hnn : v' ≠ .slice none 0 0) : Out base w' (L ++ [x]) v' := by
  have hs : wr.heap.size <= w'.heap.size := by have := hgr.size; simp at this; omega
  have hsz : (wr.alloc o).heap.size = wr.heap.size + 1 := by simp
  have hblk : ∀ b, b < wr.heap.size -> some b ≠ v.ownBlock -> w'.heap[b]? = wr.heap[b]? := fun b hb hne => by
    rw [hgr.block b (by rw [hsz]; omega) hne]
    exact ((zB wr.heap.size wr).alloc (zL _) o).block b hb
  have hk : ∀ {l0 : Nat} {w0 : World}, KeptF l0 w0 wr -> w0.heap.size <= wr.heap.size -> (∀ k, v.ownBlock = some k -> k < l0 \/ w0.heap.size <= k) -> KeptF l0 w0 w' := by
    intro l0 w0 h3 h4 h5
    have hne : ∀ b p u, l0 <= b -> w0.cell? ⟨b, p, none⟩ = some u -> some b ≠ v.ownBlock := fun b p u hb hc e => by
      have hlt := Cur.cell_lt hc
      rcases h5 b e.symm with h6 | h6
      · omega
      · simp at hlt; omega
    refine ⟨fun b p u hb hc => ?_, fun b p hb ⟨p', u, hc⟩ hf => ?_⟩
    · have h7 := h3.1 b p u hb hc
      rw [World.cell?_of_block (w := wr) (a := ⟨b, p, none⟩) (hblk b (Cur.cell_lt h7) (hne b p u hb hc))]
      exact h7
    · have h7 := h3.1 b p' u hb hc
      exact (World.frozen?_of_block (w := wr) (a := ⟨b, p, none⟩) (hblk b (Cur.cell_lt h7) (hne b p' u hb hc))).trans (h3.2 b p hb ⟨p', u, hc⟩ hf)
  refine ⟨by rw [row5_append, List.length_append]; exact hown, hnn, fun y hy => ?_⟩
  rcases List.mem_append.1 hy with hy | hy
  · obtain ⟨l0, w0, h1, h2, h3, h4, h5⟩ := h.apart y hy
    refine ⟨l0, w0, h1, h2, hk h3 h4 h5, Nat.le_trans h4 hs, fun k hk => ?_⟩
    rcases hat with e | e
    · rw [e] at hk; exact h5 k hk
    · rw [e] at hk
      injection hk with hk
      exact .inr (by omega)
  · rw [List.mem_singleton.1 hy]
    refine ⟨l1, wr, hl, hx, hk (keptF_id _ _) (zL _) (fun k hk => .inl (hg k hk)), hs, fun k hk => ?_⟩
    rcases hat with e | e
    · rw [e] at hk; exact .inl (hg k hk)
    · rw [e] at hk
      injection hk with hk
      exact .inr (by omega)
theorem own_gr {g base : Nat} {w w' : World} {e : TypeId} {size n : Nat} {v : Value} {xs : List Value} (h : w.ownsRow base e size v n xs) (hg : w.grownBy w' (some g)) (hl : g < base) : w'.ownsRow base e size v n xs := by
  refine h.kept hg ?_
  cases hv : v.ownBlock with
  | none => exact .inl rfl
  | some k => exact .inr (by have := (h.lt k hv).1; intro e; injection e with e; omega)
theorem out_gr {g base : Nat} {w w' : World} {L : List Parser.Item} {v : Value} (h : Out base w L v) (hg : w.grownBy w' (some g)) (hl : g < base) : Out base w' L v := by
  refine ⟨own_gr h.own hg hl, h.nn, fun x hx => ?_⟩
  obtain ⟨l0, w0, h1, h2, h3, h4, h5⟩ := h.apart x hx
  exact ⟨l0, w0, h1, h2, h3.trans (keptF_gr hg (by omega)), Nat.le_trans h4 hg.size, h5⟩
theorem zam {g B : Nat} {w w' : World} (h : Zero B w) (hg : w.grownBy w' (some g)) (hB : B ≠ g) : Zero B w' := h.same hg.size (hg.block B h.size (by simpa using hB))
theorem gr_low {g : Nat} {u w w' : World} (h : u.grownBy w (some g)) (k : Below u.heap.size w w') : u.grownBy w' (some g) :=
  ⟨k.os.trans h.os, k.tape.trans h.tape, k.output.trans h.output, Nat.le_trans h.size k.size, fun i hi hn => (k.block i hi).trans (h.block i hi hn)⟩
theorem zav {g : Nat} {u w w' : World} (h : u.grownBy w (some g)) (k : Below w.heap.size w w') : u.grownBy w' (some g) := gr_low h (k.mono h.size)
theorem cur_same {g : Nat} {a : Option Addr} {len cap : Nat} {w w' : World} (h : Cur w g a len cap) (hb : w'.heap[g]? = w.heap[g]?) : Cur w' g a len cap := by
  obtain ⟨i, x, hi, hm, h0, h1, h2, hf⟩ := h
  have hc : ∀ o, w'.cell? ⟨g, o, none⟩ = w.cell? ⟨g, o, none⟩ := fun o => World.cell?_of_block (a := ⟨g, o, none⟩) hb
  have hz : ∀ o, w'.frozen? ⟨g, o, none⟩ = w.frozen? ⟨g, o, none⟩ := fun o => World.frozen?_of_block (a := ⟨g, o, none⟩) hb
  exact ⟨i, x, hi, hm, (hc 0).trans h0, (hc 1).trans h1, (hc 2).trans h2, fun o => (hz o).trans (hf o)⟩
theorem cur_low {g B : Nat} {a : Option Addr} {len cap : Nat} {w w' : World} (h : Cur w g a len cap) (hb : Below B w w') (hl : g < B) : Cur w' g a len cap := cur_same h (hb.block g hl)
def KRow (lo : Nat) (w : World) (L : List Parser.Item) (vk : Value) : Prop := (vk = .slice none 0 0 /\ L = []) \/ Out lo w L vk
structure Dr (lo : Nat) (w : World) (k : Int) (t : ByteArray) (n : Int) (ns : List ByteArray) (L : List Parser.Item) (vn vk : Value) : Prop where
  wk : (Lit.int .i64 k).wf = true
  wn : (Lit.int .i64 n).wf = true
  wt : t.size <= maxLen
  tx : Texts lo w ns vn
  kr : KRow lo w L vk
  ap : vn.ownBlock = none \/ vn.ownBlock ≠ vk.ownBlock
theorem krow_kids {lo : Nat} {w : World} {L : List Parser.Item} {vk : Value} (h : KRow lo w L vk) : KidsAt lo w (trees L) vk := by
  rcases h with ⟨rfl, rfl⟩ | h
  · exact (Kids5.nil lo w).kids
  · exact h.kids.kids
theorem Dr.node {lo : Nat} {w : World} {k : Int} {t : ByteArray} {n : Int} {ns : List ByteArray} {L : List Parser.Item} {vn vk : Value} (h : Dr lo w k t n ns L vn vk) : NodeAt lo w (.mk k t n ns (trees L)) vn vk :=
  zaw.2 ⟨h.wk, h.wn, h.wt, h.tx, krow_kids h.kr⟩
theorem krow_soft {lo : Nat} {w : World} {L : List Parser.Item} {vk : Value} (h : KRow lo w L vk) : SoftKids lo w (trees L) vk := by
  rcases h with ⟨rfl, rfl⟩ | h
  · exact ⟨none, 0, rfl, fun h => absurd h (by simp [trees])⟩
  · exact h.soft
theorem Dr.ns {lo : Nat} {w : World} {k : Int} {t : ByteArray} {n : Int} {ns : List ByteArray} {L : List Parser.Item} {vn vk : Value} (h : Dr lo w k t n ns L vn vk) : NS lo w (.mk k t n ns (trees L)) vn vk := ⟨h.node, soft_iff.2 (krow_soft h.kr)⟩
theorem ns_nil (lo : Nat) (w : World) {k : Int} {t : ByteArray} (hk : (Lit.int .i64 k).wf = true) (ht : t.size <= maxLen) : NS lo w (.mk k t 0 [] []) (.slice none 0 0) (.slice none 0 0) := ⟨zaw.2 ⟨hk, rfl, ht, zas _ _, (Kids5.nil _ _).kids⟩, soft_none _ _ _ _ _ _⟩
theorem ns_out {lo : Nat} {w : World} {k : Int} {t : ByteArray} {L : List Parser.Item} {vk : Value} (hk : (Lit.int .i64 k).wf = true) (ht : t.size <= maxLen) (ho : Out lo w L vk) : NS lo w (.mk k t 0 [] (trees L)) (.slice none 0 0) vk := ⟨zaw.2 ⟨hk, rfl, ht, zas _ _, ho.kids.kids⟩, soft_iff.2 ho.soft⟩
theorem Dr.mv {lo lo' : Nat} {w w' : World} {k : Int} {t : ByteArray} {n : Int} {ns : List ByteArray} {L : List Parser.Item} {vn vk : Value} (h : Dr lo w k t n ns L vn vk) (hl : lo' <= lo) (hk : Kept lo w w') (ho : ∀ v, Out lo w L v -> Out lo' w' L v) : Dr lo' w' k t n ns L vn vk :=
  ⟨h.wk, h.wn, h.wt, h.tx.keep hl hk, by
    rcases h.kr with ⟨h1, h2⟩ | h
    · exact .inl ⟨h1, h2⟩
    · exact .inr (ho _ h), h.ap⟩
theorem own_base {w : World} {base base' : Nat} {e : TypeId} {size n : Nat} {v : Value} {xs : List Value} (h : w.ownsRow base e size v n xs) (hb : base' <= base) : w.ownsRow base' e size v n xs := by
  refine ⟨h.1, ?_⟩
  rcases h.2 with hn | ⟨g, cap, cur, rfl, hbg, rest⟩
  · exact .inl hn
  · exact .inr ⟨g, cap, cur, rfl, Nat.le_trans hb hbg, rest⟩
theorem out_base {base base' : Nat} {w : World} {L : List Parser.Item} {v : Value} (h : Out base w L v) (hb : base' <= base) : Out base' w L v :=
  ⟨own_base h.own hb, h.nn, fun x hx => by
    obtain ⟨l0, w0, h1, h2⟩ := h.apart x hx
    exact ⟨l0, w0, Nat.le_trans hb h1, h2⟩⟩
theorem Dr.base {lo lo' : Nat} {w : World} {k : Int} {t : ByteArray} {n : Int} {ns : List ByteArray} {L : List Parser.Item} {vn vk : Value} (h : Dr lo w k t n ns L vn vk) (hl : lo' <= lo) : Dr lo' w k t n ns L vn vk :=
  h.mv hl (fun _ _ _ _ hc => hc) fun _ ho => out_base ho hl
theorem Dr.put5 {lo B : Nat} {w : World} {k : Int} {t : ByteArray} {n : Int} {ns : List ByteArray} {L : List Parser.Item} {vn vk : Value} (h : Dr lo w k t n ns L vn vk) (hB : B < lo) (a b c d e : Value) : Dr lo (put5 w B a b c d e) k t n ns L vn vk :=
  h.mv (zL _) (kept_put5 w hB a b c d e) fun _ ho => ⟨own_put5 ho.own hB a b c d e, ho.nn, fun x hx => by
    obtain ⟨l0, w0, h1, h2, h3, h4, h5⟩ := ho.apart x hx
    exact ⟨l0, w0, h1, h2, h3.trans (keptF_put5 w (Nat.lt_of_lt_of_le hB h1) a b c d e), by simpa [Parser.put5, World.setCell] using h4, h5⟩⟩
def DrawT (W g : Nat) (a : Option Addr) (len cap : Nat) (w : World) (e : Ending) (w' : World) : Prop :=
  ∃ (k : Int) (t : ByteArray) (n : Int) (ns : List ByteArray) (L : List Parser.Item) (vn vk : Value), e = .returned (.agg #[.int .i64 k, .string t, .int .i64 n, vn, vk]) /\ Dr w.heap.size w' k t n ns L vn vk /\ Cur w' g a len cap /\ w.grownBy w' (some g) /\ weight (.mk k t n ns (trees L)) <= W
theorem lit_out {lo : Nat} {w : World} {L : List Parser.Item} (cs : Array Value) (hcs : cs.toList = row5 L) (h0 : 0 < L.length) (hL : L.length <= 1048576) (hlo : lo <= w.heap.size) (h : ∀ x, x ∈ L -> NS lo w x.1 x.2.1 x.2.2) : Out lo (w.alloc (.cells cs 27)) L (.slice (some ⟨w.heap.size, 0, none⟩) L.length L.length) := by
  have hsz : cs.size = L.length * 5 := by rw [<- row5_len, <- hcs, Array.length_toList]
  have hown := World.ownsRow_lit (base := lo) (e := 27) (size := 5) w cs L.length hlo (by unfold maxLen; omega) hsz
  rw [hcs] at hown
  refine ⟨hown, by simp, fun x hx => ⟨lo, w, zL _, h x hx, keptF_below ((zB _ _).alloc (zL _) _), by simp, fun k hk => ?_⟩⟩
  simp [Value.ownBlock] at hk
  exact .inr (by omega)
theorem send_out {lo : Nat} {w w' : World} {L : List Parser.Item} {vk : Value} (hlo : lo <= w.heap.size) (h : ∀ x, x ∈ L -> NS lo w x.1 x.2.1 x.2.2) (h0 : 0 < L.length) (ho : w'.ownsRow (w.heap.size + 1 + 1) 27 5 vk L.length (row5 L)) (hb : Below w.heap.size w w') : Out lo w' L vk := by
  refine ⟨own_base ho (by omega), fun e => ?_, fun x hx => ⟨lo, w, zL _, h x hx, keptF_below hb, hb.size, fun k hk => ?_⟩⟩
  · rcases ho.2 with ⟨_, hn⟩ | ⟨g, cap, cur, hv, _⟩
    · omega
    · rw [e] at hv; cases hv
  · have := (ho.lt k hk).1
    exact .inr (by omega)
theorem zau (k : Int) (t : ByteArray) (n : Int) (ns : List ByteArray) (L : List Parser.Item) : weight (.mk k t n ns (trees L)) = t.size + (ns.length + lens ns) + (L.length + weights (trees L)) := by
  rw [weight]; simp [trees]
theorem zal {W g : Nat} {a : Option Addr} {len cap : Nat} {w w1 : World} {k : Int} {t : ByteArray} {n : Int} {ns : List ByteArray} {L : List Parser.Item} {vn vk : Value} (hd : Dr (w.heap.size + 1) w1 k t n ns L vn vk) (hc : Cur w1 g a len cap) (hg : w.grownBy w1 (some g)) (hgl : g < w.heap.size) (hW : weight (.mk k t n ns (trees L)) <= W) :
    DrawT W g a len cap w (.returned (.agg #[.int .i64 k, .string t, .int .i64 n, vn, vk])) (put5 w1 w.heap.size (.int .i64 k) (.string t) (.int .i64 n) vn vk) := by
  have hb := zah (zB w.heap.size w1) (B := w.heap.size) (zL _) (.int .i64 k) (.string t) (.int .i64 n) vn vk
  exact ⟨k, t, n, ns, L, vn, vk, rfl, (hd.put5 (Nat.lt_succ_self _) _ _ _ _ _).base (Nat.le_succ _), cur_low hc hb hgl, gr_low hg hb, hW⟩
theorem put5_size (w : World) (B : Nat) (a b c d e : Value) : (put5 w B a b c d e).heap.size = w.heap.size := by simp [Parser.put5, World.setCell]
theorem set_alloc (w : World) (o : Obj) (B i : Nat) (v : Value) (h : B < w.heap.size) : (w.alloc o).setCell ⟨B, i, none⟩ v = (w.setCell ⟨B, i, none⟩ v).alloc o := World.setCell_alloc_past o B i v h
theorem put5_alloc (w : World) (o : Obj) {B : Nat} (h : B < w.heap.size) {a b c d e : Value} : put5 (w.alloc o) B a b c d e = (put5 w B a b c d e).alloc o := by
  have hs : ∀ (w : World) (i : Nat) (v : Value), (w.setCell ⟨B, i, none⟩ v).heap.size = w.heap.size := fun w i v => by simp [World.setCell]
  unfold Parser.put5
  rw [set_alloc w o B 0 a h, set_alloc _ o B 1 b (by rw [hs]; exact h), set_alloc _ o B 2 c (by rw [hs, hs]; exact h), set_alloc _ o B 3 d (by rw [hs, hs, hs]; exact h), set_alloc _ o B 4 e (by rw [hs, hs, hs, hs]; exact h)]
theorem drawn_lit {W g : Nat} {a : Option Addr} {len cap : Nat} {w w1 : World} {k : Int} {t : ByteArray} {L : List Parser.Item} (cs : Array Value) (hcs : cs.toList = row5 L) (h0 : 0 < L.length) (hL : L.length <= 1048576) (hn : ∀ x, x ∈ L -> NS (w.heap.size + 1) w1 x.1 x.2.1 x.2.2) (hk : (Lit.int .i64 k).wf = true) (ht : t.size <= maxLen) (hz : w.heap.size < w1.heap.size) (hc : Cur w1 g a len cap) (hg : w.grownBy w1 (some g)) (hgl : g < w.heap.size) (hW : weight (.mk k t 0 [] (trees L)) <= W) :
    DrawT W g a len cap w (.returned (.agg #[.int .i64 k, .string t, .int .i64 0, .slice none 0 0, .slice (some ⟨w1.heap.size, 0, none⟩) L.length L.length]))
      ((put5 w1 w.heap.size (.int .i64 k) (.string t) (.int .i64 0) (.slice none 0 0) (.slice (some ⟨w1.heap.size, 0, none⟩) L.length L.length)).alloc (.cells cs 27)) := by
  have hb := zah (zB w.heap.size w1) (B := w.heap.size) (zL _) (.int .i64 k) (.string t) (.int .i64 0) (.slice none 0 0) (.slice (some ⟨w1.heap.size, 0, none⟩) L.length L.length)
  have hs := put5_size w1 w.heap.size (.int .i64 k) (.string t) (.int .i64 0) (.slice none 0 0) (.slice (some ⟨w1.heap.size, 0, none⟩) L.length L.length)
  have hkp := keptF_put5 w1 (Nat.lt_succ_self w.heap.size) (.int .i64 k) (.string t) (.int .i64 0) (.slice none 0 0) (.slice (some ⟨w1.heap.size, 0, none⟩) L.length L.length)
  generalize put5 w1 w.heap.size (.int .i64 k) (.string t) (.int .i64 0) (.slice none 0 0) (.slice (some ⟨w1.heap.size, 0, none⟩) L.length L.length) = W1 at *
  have ho := lit_out (lo := w.heap.size + 1) (w := W1) (L := L) cs hcs h0 hL (by omega) fun x hx => NS.keep (zL _) hkp (hn x hx)
  rw [hs] at ho
  have hd : Dr (w.heap.size + 1) (W1.alloc (.cells cs 27)) k t 0 [] L (.slice none 0 0) (.slice (some ⟨w1.heap.size, 0, none⟩) L.length L.length) := ⟨hk, rfl, ht, zas _ _, .inr ho, .inl rfl⟩
  exact ⟨k, t, 0, [], L, _, _, rfl, hd.base (Nat.le_succ _), curKeep (cur_low hc hb hgl) (zad _ _), zav (gr_low hg hb) (zad _ _), hW⟩
end DrawTree
namespace DrawTree
open Go.RowKit
open Strs Tree Cur Draw Soft
open Go.Proofs.YtbigfeblomfflaaGreatDoor.Parser
set_option linter.unusedVariables false
theorem strs_at (w : World) (xs : List ByteArray) (cs : Array Value) (n : Nat) (h : cs.toList = xs.map Value.string) (hn : xs.length = n) : ∀ j, j < n -> (w.alloc (.cells cs 9)).cell? ⟨w.heap.size, j, none⟩ = some (.string (xs.getD j ByteArray.empty)) := by
  intro j hj
  rw [World.cell?_alloc_mark w _ _ (0, 0) j, <- Array.getElem?_toList, h, List.getElem?_map, List.getD, List.getElem?_eq_getElem (by omega)]
  rfl
theorem ints_at (w : World) (xs : List Int) (cs : Array Value) (n : Nat) (h : cs.toList = xs.map (Value.int .i64)) (hn : xs.length = n) : ∀ j, j < n -> (w.alloc (.cells cs 3)).cell? ⟨w.heap.size, j, none⟩ = some (.int .i64 (xs.getD j 0)) := by
  intro j hj
  rw [World.cell?_alloc_mark w _ _ (0, 0) j, <- Array.getElem?_toList, h, List.getElem?_map, List.getD, List.getElem?_eq_getElem (by omega)]
  rfl
theorem pick_lit {g : Nat} {a : Option Addr} {len cap : Nat} {w : World} (hc : Cur w g a len cap) (hb : Bytes w g a len) (xs : List ByteArray) (cs : Array Value) (n : Nat) (h : cs.toList = xs.map Value.string) (hn : xs.length = n) (h0 : 0 < n) (h1 : n <= 1048576) :
    Calls Tryz.prog 86 #[.pointer (some ⟨g, 0, none⟩), .slice (some ⟨w.heap.size, 0, none⟩) n n] (w.alloc (.cells cs 9)) fun e w' => ∃ s : ByteArray, s ∈ xs /\ e = .returned (.string s) /\ Cur w' g a len cap /\ Bytes w' g a len /\ w.grownBy w' (some g) := by
  refine (pick_any g a len cap w.heap.size n n xs _ hn h0 h1 (by have := curLt hc; omega) (strs_at w xs cs n h hn) (curKeep hc (zad w _)) (bytesKeep hb (zad w _))).mono ?_
  rintro e w2 ⟨s, hs, rfl, hc2, hg2⟩
  exact ⟨s, hs, rfl, hc2, (bytesKeep hb (zad w _)).keep hg2, zab (zav (grown_refl w _) (zad w _)) hg2⟩
theorem pickint_lit {g : Nat} {a : Option Addr} {len cap : Nat} {w : World} (hc : Cur w g a len cap) (hb : Bytes w g a len) (xs : List Int) (cs : Array Value) (n : Nat) (h : cs.toList = xs.map (Value.int .i64)) (hn : xs.length = n) (h0 : 0 < n) (h1 : n <= 1048576) :
    Calls Tryz.prog 146 #[.pointer (some ⟨g, 0, none⟩), .slice (some ⟨w.heap.size, 0, none⟩) n n] (w.alloc (.cells cs 3)) fun e w' => ∃ s : Int, s ∈ xs /\ e = .returned (.int .i64 s) /\ Cur w' g a len cap /\ Bytes w' g a len /\ w.grownBy w' (some g) := by
  refine (pickint_any g a len cap w.heap.size n n xs _ hn h0 h1 (by have := curLt hc; omega) (ints_at w xs cs n h hn) (curKeep hc (zad w _)) (bytesKeep hb (zad w _))).mono ?_
  rintro e w2 ⟨s, hs, rfl, hc2, hg2⟩
  exact ⟨s, hs, rfl, hc2, (bytesKeep hb (zad w _)).keep hg2, zab (zav (grown_refl w _) (zad w _)) hg2⟩
theorem below_keep {g : Nat} {a : Option Addr} {len cap : Nat} {w : World} (n : Int) (hn : 0 < n) (hn2 : n <= 4294967296) (hc : Cur w g a len cap) (hb : Bytes w g a len) :
    Calls Tryz.prog 85 #[.pointer (some ⟨g, 0, none⟩), .int .i64 n] w fun e w' => ∃ x : Int, e = .returned (.int .i64 x) /\ 0 <= x /\ x < n /\ Cur w' g a len cap /\ Bytes w' g a len /\ w.grownBy w' (some g) := by
  refine (below_any g a len cap n w hn hn2 hc hb).mono ?_
  rintro e w1 ⟨x, rfl, hx0, hx1, hc1, hg1⟩
  exact ⟨x, rfl, hx0, by omega, hc1, hb.keep hg1, hg1⟩
def txts : List ByteArray := [⟨#[]⟩, ⟨#[97, 98]⟩, ⟨#[105, 116, 39, 115]⟩, ⟨#[120]⟩]
theorem txts_le : ∀ s ∈ txts, s.size <= 4 := by
  intro s hs
  simp only [txts, List.mem_cons, List.not_mem_nil, or_false] at hs
  rcases hs with rfl | rfl | rfl | rfl <;> decide
def syms : List ByteArray := [⟨#[97, 116, 58, 112, 117, 116, 58]⟩, ⟨#[115, 105, 122, 101]⟩, ⟨#[43]⟩]
theorem syms_le : ∀ s ∈ syms, s.size <= 7 := by
  intro s hs
  simp only [syms, List.mem_cons, List.not_mem_nil, or_false] at hs
  rcases hs with rfl | rfl | rfl <;> decide
def nams : List ByteArray := [⟨#[120]⟩, ⟨#[121]⟩, ⟨#[115, 101, 108, 102]⟩, ⟨#[110, 105, 108]⟩, ⟨#[116, 114, 117, 101]⟩, ⟨#[65, 114, 114, 97, 121]⟩]
theorem nams_le : ∀ s ∈ nams, s.size <= 5 := by
  intro s hs
  simp only [nams, List.mem_cons, List.not_mem_nil, or_false] at hs
  rcases hs with rfl | rfl | rfl | rfl | rfl | rfl <;> decide
def uns : List ByteArray := [⟨#[115, 105, 122, 101]⟩, ⟨#[112, 114, 105, 110, 116, 83, 116, 114, 105, 110, 103]⟩, ⟨#[118, 97, 108, 117, 101]⟩]
theorem uns_le : ∀ s ∈ uns, s.size <= 11 := by
  intro s hs
  simp only [uns, List.mem_cons, List.not_mem_nil, or_false] at hs
  rcases hs with rfl | rfl | rfl <;> decide
def bis : List ByteArray := [⟨#[43]⟩, ⟨#[45]⟩, ⟨#[61]⟩, ⟨#[44]⟩, ⟨#[47, 47]⟩]
theorem bis_le : ∀ s ∈ bis, s.size <= 2 := by
  intro s hs
  simp only [bis, List.mem_cons, List.not_mem_nil, or_false] at hs
  rcases hs with rfl | rfl | rfl | rfl | rfl <;> decide
def kws : List ByteArray := [⟨#[97, 116, 58]⟩, ⟨#[105, 102, 84, 114, 117, 101, 58]⟩, ⟨#[109, 97, 120, 58]⟩]
theorem kws_le : ∀ s ∈ kws, s.size <= 7 := by
  intro s hs
  simp only [kws, List.mem_cons, List.not_mem_nil, or_false] at hs
  rcases hs with rfl | rfl | rfl <;> decide
def ass : List ByteArray := [⟨#[120]⟩, ⟨#[121]⟩]
theorem ass_le : ∀ s ∈ ass, s.size <= 1 := by
  intro s hs
  simp only [ass, List.mem_cons, List.not_mem_nil, or_false] at hs
  rcases hs with rfl | rfl <;> decide
def ints : List Int := [0, 1, 2, 3, 10, 999999999]
theorem ints_wf : ∀ s ∈ ints, (Lit.int .i64 s).wf = true := by
  intro s hs
  simp only [ints, List.mem_cons, List.not_mem_nil, or_false] at hs
  rcases hs with rfl | rfl | rfl | rfl | rfl | rfl <;> rfl
set_option maxRecDepth 10000 in
set_option maxHeartbeats 8000000 in
theorem draw_leaf (W : Nat) (d : Int) (hd : d <= 0) (g : Nat) (a : Option Addr) (len cap : Nat) (w : World) (hc : Cur w g a len cap) (hb : Bytes w g a len) :
    Calls Tryz.prog 84 #[.pointer (some ⟨g, 0, none⟩), .int .i64 d] w (DrawT (3 * W + 20) g a len cap w) := by
  have hgl := curLt hc
  have hne : w.heap.size ≠ g := by omega
  have hba := zad w (.cells #[.int .i64 0, .string ⟨#[]⟩, .int .i64 0, .slice none 0 0, .slice none 0 0] 27)
  have HZ0 := zH (zero_new w 27)
  have HG0 := zH (zav (grown_refl w (some g)) hba)
  have KB := zH (below_keep 12 (by decide) (by decide) (curKeep hc hba) (bytesKeep hb hba))
  have td : decide (d <= 0) = true := by rw [decide_eq_true_eq]; exact hd
  clear hc hb hba hd
  go_enter Tryz.func84, Tryz.ntmps84
  go_wp2_with fail
  refine KB.out.mono ?_
  rintro e w1 ⟨x, rfl, hx0, hx1, hc1, hb1, hg1⟩
  have HC1 := zH hc1
  have HB1 := zH hb1
  have HZ1 := zH (zam HZ0.out hg1 hne)
  have HG1 := zH (zab HG0.out hg1)
  have hcase : x = 0 \/ x = 1 \/ x = 2 \/ x = 3 \/ x = 4 \/ x = 5 \/ x = 6 \/ x = 7 \/ x = 8 \/ x = 9 \/ x = 10 \/ x = 11 := by omega
  clear hx0 hx1 hc1 hb1 hg1 KB
  rcases hcase with rfl | rfl | rfl | rfl | rfl | rfl | rfl | rfl | rfl | rfl | rfl | rfl
  · go_wp2_with fail
    refine (pickint_lit HC1.out HB1.out ints _ 6 rfl rfl (by decide) (by decide)).mono ?_
    rintro e w2 ⟨s, hs, rfl, hc2, hb2, hg2⟩
    have HD : Hid (Dr (w.heap.size + 1) w2 1 ⟨#[]⟩ s [] [] (.slice none 0 0) (.slice none 0 0)) := zH ⟨rfl, ints_wf s hs, Nat.zero_le _, zas _ _, .inl ⟨rfl, rfl⟩, .inl rfl⟩
    have HW : Hid (weight (.mk 1 ⟨#[]⟩ s [] (trees [])) <= 3 * W + 20) := zH (by rw [zau]; show 0 + (0 + 0) + (0 + 0) <= _; omega)
    have HC2 := zH hc2
    have HG2 := zH (zab HG1.out hg2)
    obtain ⟨hsz, z0, z1, z2, z3, z4, fz⟩ := zam HZ1.out hg2 hne
    clear hs hc2 hb2 hg2
    go_wp2_with fail
    refine bodyPost_ret (v := .agg #[.int .i64 1, .string ⟨#[]⟩, .int .i64 s, .slice none 0 0, .slice none 0 0]) (by simp [results, Tryz.results84, go_sem, *]) rfl ?_
    exact zal HD.out HC2.out HG2.out hgl HW.out
  · go_wp2_with fail
    refine (pick_lit HC1.out HB1.out txts _ 4 rfl rfl (by decide) (by decide)).mono ?_
    rintro e w2 ⟨s, hs, rfl, hc2, hb2, hg2⟩
    have hsl := txts_le s hs
    have HD : Hid (Dr (w.heap.size + 1) w2 2 s 0 [] [] (.slice none 0 0) (.slice none 0 0)) := zH ⟨rfl, rfl, by unfold maxLen; omega, zas _ _, .inl ⟨rfl, rfl⟩, .inl rfl⟩
    have HW : Hid (weight (.mk 2 s 0 [] (trees [])) <= 3 * W + 20) := zH (by rw [zau]; show s.size + (0 + 0) + (0 + 0) <= _; omega)
    have HC2 := zH hc2
    have HG2 := zH (zab HG1.out hg2)
    obtain ⟨hsz, z0, z1, z2, z3, z4, fz⟩ := zam HZ1.out hg2 hne
    clear hs hc2 hb2 hg2
    go_wp2_with fail
    refine bodyPost_ret (v := .agg #[.int .i64 2, .string s, .int .i64 0, .slice none 0 0, .slice none 0 0]) (by simp [results, Tryz.results84, go_sem, *]) rfl ?_
    exact zal HD.out HC2.out HG2.out hgl HW.out
  · go_wp2_with fail
    refine (pick_lit HC1.out HB1.out syms _ 3 rfl rfl (by decide) (by decide)).mono ?_
    rintro e w2 ⟨s, hs, rfl, hc2, hb2, hg2⟩
    have hsl := syms_le s hs
    have HD : Hid (Dr (w.heap.size + 1) w2 3 s 0 [] [] (.slice none 0 0) (.slice none 0 0)) := zH ⟨rfl, rfl, by unfold maxLen; omega, zas _ _, .inl ⟨rfl, rfl⟩, .inl rfl⟩
    have HW : Hid (weight (.mk 3 s 0 [] (trees [])) <= 3 * W + 20) := zH (by rw [zau]; show s.size + (0 + 0) + (0 + 0) <= _; omega)
    have HC2 := zH hc2
    have HG2 := zH (zab HG1.out hg2)
    obtain ⟨hsz, z0, z1, z2, z3, z4, fz⟩ := zam HZ1.out hg2 hne
    clear hs hc2 hb2 hg2
    go_wp2_with fail
    refine bodyPost_ret (v := .agg #[.int .i64 3, .string s, .int .i64 0, .slice none 0 0, .slice none 0 0]) (by simp [results, Tryz.results84, go_sem, *]) rfl ?_
    exact zal HD.out HC2.out HG2.out hgl HW.out
  · go_wp2_with fail
    refine (pick_lit HC1.out HB1.out nams _ 6 rfl rfl (by decide) (by decide)).mono ?_
    rintro e w2 ⟨s, hs, rfl, hc2, hb2, hg2⟩
    have hsl := nams_le s hs
    have HD : Hid (Dr (w.heap.size + 1) w2 4 s 0 [] [] (.slice none 0 0) (.slice none 0 0)) := zH ⟨rfl, rfl, by unfold maxLen; omega, zas _ _, .inl ⟨rfl, rfl⟩, .inl rfl⟩
    have HW : Hid (weight (.mk 4 s 0 [] (trees [])) <= 3 * W + 20) := zH (by rw [zau]; show s.size + (0 + 0) + (0 + 0) <= _; omega)
    have HC2 := zH hc2
    have HG2 := zH (zab HG1.out hg2)
    obtain ⟨hsz, z0, z1, z2, z3, z4, fz⟩ := zam HZ1.out hg2 hne
    clear hs hc2 hb2 hg2
    go_wp2_with fail
    refine bodyPost_ret (v := .agg #[.int .i64 4, .string s, .int .i64 0, .slice none 0 0, .slice none 0 0]) (by simp [results, Tryz.results84, go_sem, *]) rfl ?_
    exact zal HD.out HC2.out HG2.out hgl HW.out
  · go_wp2_with fail
    refine (pick_lit HC1.out HB1.out nams _ 6 rfl rfl (by decide) (by decide)).mono ?_
    rintro e w2 ⟨s, hs, rfl, hc2, hb2, hg2⟩
    have hsl := nams_le s hs
    have HD : Hid (Dr (w.heap.size + 1) w2 4 s 0 [] [] (.slice none 0 0) (.slice none 0 0)) := zH ⟨rfl, rfl, by unfold maxLen; omega, zas _ _, .inl ⟨rfl, rfl⟩, .inl rfl⟩
    have HW : Hid (weight (.mk 4 s 0 [] (trees [])) <= 3 * W + 20) := zH (by rw [zau]; show s.size + (0 + 0) + (0 + 0) <= _; omega)
    have HC2 := zH hc2
    have HG2 := zH (zab HG1.out hg2)
    obtain ⟨hsz, z0, z1, z2, z3, z4, fz⟩ := zam HZ1.out hg2 hne
    clear hs hc2 hb2 hg2
    go_wp2_with fail
    refine bodyPost_ret (v := .agg #[.int .i64 4, .string s, .int .i64 0, .slice none 0 0, .slice none 0 0]) (by simp [results, Tryz.results84, go_sem, *]) rfl ?_
    exact zal HD.out HC2.out HG2.out hgl HW.out
  · go_wp2_with fail
    refine (pickint_lit HC1.out HB1.out ints _ 6 rfl rfl (by decide) (by decide)).mono ?_
    rintro e w2 ⟨s, hs, rfl, hc2, hb2, hg2⟩
    have HD : Hid (Dr (w.heap.size + 1) w2 1 ⟨#[]⟩ s [] [] (.slice none 0 0) (.slice none 0 0)) := zH ⟨rfl, ints_wf s hs, Nat.zero_le _, zas _ _, .inl ⟨rfl, rfl⟩, .inl rfl⟩
    have HW : Hid (weight (.mk 1 ⟨#[]⟩ s [] (trees [])) <= 3 * W + 20) := zH (by rw [zau]; show 0 + (0 + 0) + (0 + 0) <= _; omega)
    have HC2 := zH hc2
    have HG2 := zH (zab HG1.out hg2)
    obtain ⟨hsz, z0, z1, z2, z3, z4, fz⟩ := zam HZ1.out hg2 hne
    clear hs hc2 hb2 hg2
    go_wp2_with fail
    refine bodyPost_ret (v := .agg #[.int .i64 1, .string ⟨#[]⟩, .int .i64 s, .slice none 0 0, .slice none 0 0]) (by simp [results, Tryz.results84, go_sem, *]) rfl ?_
    exact zal HD.out HC2.out HG2.out hgl HW.out
  · go_wp2_with fail
    refine (pick_lit HC1.out HB1.out txts _ 4 rfl rfl (by decide) (by decide)).mono ?_
    rintro e w2 ⟨s, hs, rfl, hc2, hb2, hg2⟩
    have hsl := txts_le s hs
    have HD : Hid (Dr (w.heap.size + 1) w2 2 s 0 [] [] (.slice none 0 0) (.slice none 0 0)) := zH ⟨rfl, rfl, by unfold maxLen; omega, zas _ _, .inl ⟨rfl, rfl⟩, .inl rfl⟩
    have HW : Hid (weight (.mk 2 s 0 [] (trees [])) <= 3 * W + 20) := zH (by rw [zau]; show s.size + (0 + 0) + (0 + 0) <= _; omega)
    have HC2 := zH hc2
    have HG2 := zH (zab HG1.out hg2)
    obtain ⟨hsz, z0, z1, z2, z3, z4, fz⟩ := zam HZ1.out hg2 hne
    clear hs hc2 hb2 hg2
    go_wp2_with fail
    refine bodyPost_ret (v := .agg #[.int .i64 2, .string s, .int .i64 0, .slice none 0 0, .slice none 0 0]) (by simp [results, Tryz.results84, go_sem, *]) rfl ?_
    exact zal HD.out HC2.out HG2.out hgl HW.out
  · go_wp2_with fail
    refine (pick_lit HC1.out HB1.out syms _ 3 rfl rfl (by decide) (by decide)).mono ?_
    rintro e w2 ⟨s, hs, rfl, hc2, hb2, hg2⟩
    have hsl := syms_le s hs
    have HD : Hid (Dr (w.heap.size + 1) w2 3 s 0 [] [] (.slice none 0 0) (.slice none 0 0)) := zH ⟨rfl, rfl, by unfold maxLen; omega, zas _ _, .inl ⟨rfl, rfl⟩, .inl rfl⟩
    have HW : Hid (weight (.mk 3 s 0 [] (trees [])) <= 3 * W + 20) := zH (by rw [zau]; show s.size + (0 + 0) + (0 + 0) <= _; omega)
    have HC2 := zH hc2
    have HG2 := zH (zab HG1.out hg2)
    obtain ⟨hsz, z0, z1, z2, z3, z4, fz⟩ := zam HZ1.out hg2 hne
    clear hs hc2 hb2 hg2
    go_wp2_with fail
    refine bodyPost_ret (v := .agg #[.int .i64 3, .string s, .int .i64 0, .slice none 0 0, .slice none 0 0]) (by simp [results, Tryz.results84, go_sem, *]) rfl ?_
    exact zal HD.out HC2.out HG2.out hgl HW.out
  · go_wp2_with fail
    refine (pick_lit HC1.out HB1.out nams _ 6 rfl rfl (by decide) (by decide)).mono ?_
    rintro e w2 ⟨s, hs, rfl, hc2, hb2, hg2⟩
    have hsl := nams_le s hs
    have HD : Hid (Dr (w.heap.size + 1) w2 4 s 0 [] [] (.slice none 0 0) (.slice none 0 0)) := zH ⟨rfl, rfl, by unfold maxLen; omega, zas _ _, .inl ⟨rfl, rfl⟩, .inl rfl⟩
    have HW : Hid (weight (.mk 4 s 0 [] (trees [])) <= 3 * W + 20) := zH (by rw [zau]; show s.size + (0 + 0) + (0 + 0) <= _; omega)
    have HC2 := zH hc2
    have HG2 := zH (zab HG1.out hg2)
    obtain ⟨hsz, z0, z1, z2, z3, z4, fz⟩ := zam HZ1.out hg2 hne
    clear hs hc2 hb2 hg2
    go_wp2_with fail
    refine bodyPost_ret (v := .agg #[.int .i64 4, .string s, .int .i64 0, .slice none 0 0, .slice none 0 0]) (by simp [results, Tryz.results84, go_sem, *]) rfl ?_
    exact zal HD.out HC2.out HG2.out hgl HW.out
  · go_wp2_with fail
    refine (pick_lit HC1.out HB1.out nams _ 6 rfl rfl (by decide) (by decide)).mono ?_
    rintro e w2 ⟨s, hs, rfl, hc2, hb2, hg2⟩
    have hsl := nams_le s hs
    have HD : Hid (Dr (w.heap.size + 1) w2 4 s 0 [] [] (.slice none 0 0) (.slice none 0 0)) := zH ⟨rfl, rfl, by unfold maxLen; omega, zas _ _, .inl ⟨rfl, rfl⟩, .inl rfl⟩
    have HW : Hid (weight (.mk 4 s 0 [] (trees [])) <= 3 * W + 20) := zH (by rw [zau]; show s.size + (0 + 0) + (0 + 0) <= _; omega)
    have HC2 := zH hc2
    have HG2 := zH (zab HG1.out hg2)
    obtain ⟨hsz, z0, z1, z2, z3, z4, fz⟩ := zam HZ1.out hg2 hne
    clear hs hc2 hb2 hg2
    go_wp2_with fail
    refine bodyPost_ret (v := .agg #[.int .i64 4, .string s, .int .i64 0, .slice none 0 0, .slice none 0 0]) (by simp [results, Tryz.results84, go_sem, *]) rfl ?_
    exact zal HD.out HC2.out HG2.out hgl HW.out
  · go_wp2_with fail
    refine (pickint_lit HC1.out HB1.out ints _ 6 rfl rfl (by decide) (by decide)).mono ?_
    rintro e w2 ⟨s, hs, rfl, hc2, hb2, hg2⟩
    have HD : Hid (Dr (w.heap.size + 1) w2 1 ⟨#[]⟩ s [] [] (.slice none 0 0) (.slice none 0 0)) := zH ⟨rfl, ints_wf s hs, Nat.zero_le _, zas _ _, .inl ⟨rfl, rfl⟩, .inl rfl⟩
    have HW : Hid (weight (.mk 1 ⟨#[]⟩ s [] (trees [])) <= 3 * W + 20) := zH (by rw [zau]; show 0 + (0 + 0) + (0 + 0) <= _; omega)
    have HC2 := zH hc2
    have HG2 := zH (zab HG1.out hg2)
    obtain ⟨hsz, z0, z1, z2, z3, z4, fz⟩ := zam HZ1.out hg2 hne
    clear hs hc2 hb2 hg2
    go_wp2_with fail
    refine bodyPost_ret (v := .agg #[.int .i64 1, .string ⟨#[]⟩, .int .i64 s, .slice none 0 0, .slice none 0 0]) (by simp [results, Tryz.results84, go_sem, *]) rfl ?_
    exact zal HD.out HC2.out HG2.out hgl HW.out
  · go_wp2_with fail
    refine (pick_lit HC1.out HB1.out txts _ 4 rfl rfl (by decide) (by decide)).mono ?_
    rintro e w2 ⟨s, hs, rfl, hc2, hb2, hg2⟩
    have hsl := txts_le s hs
    have HD : Hid (Dr (w.heap.size + 1) w2 2 s 0 [] [] (.slice none 0 0) (.slice none 0 0)) := zH ⟨rfl, rfl, by unfold maxLen; omega, zas _ _, .inl ⟨rfl, rfl⟩, .inl rfl⟩
    have HW : Hid (weight (.mk 2 s 0 [] (trees [])) <= 3 * W + 20) := zH (by rw [zau]; show s.size + (0 + 0) + (0 + 0) <= _; omega)
    have HC2 := zH hc2
    have HG2 := zH (zab HG1.out hg2)
    obtain ⟨hsz, z0, z1, z2, z3, z4, fz⟩ := zam HZ1.out hg2 hne
    clear hs hc2 hb2 hg2
    go_wp2_with fail
    refine bodyPost_ret (v := .agg #[.int .i64 2, .string s, .int .i64 0, .slice none 0 0, .slice none 0 0]) (by simp [results, Tryz.results84, go_sem, *]) rfl ?_
    exact zal HD.out HC2.out HG2.out hgl HW.out
end DrawTree
end Go.Proofs.YtbigfeblomfflaaGreatDoor
