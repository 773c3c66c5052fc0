/-
  laws.toExpr and toExprS: they copy every tree into memory of their own, no cell of which is frozen.
-/
import Derived.Test.YtdohpppkdecbdaaGreatDoorBSoft
import Derived.Test.YtdohpppkdecbdaaGreatDoorBTexts
namespace Go.Proofs.YtdohpppkdecbdaaGreatDoor.TreeTo
open Go.RowKit
open Strs Tree Texts Soft
def SoftV (lo : Nat) (w : World) (e : E) (v : Value) : Prop := ∃ a b c d vk, v = .agg #[a, b, c, d, vk] ∧ Soft lo w e vk
theorem SoftV.below {lo : Nat} {w w' : World} {e : E} {v : Value} (h : SoftV lo w e v) (hb : Below w.heap.size w w') : SoftV lo w' e v := by
  obtain ⟨a, b, c, d, vk, rfl, h⟩ := h
  exact ⟨a, b, c, d, vk, rfl, Soft.keep (Nat.le_refl _) (keptF_below hb) _ _ h⟩
theorem keptF_refl (lo : Nat) (w : World) : KeptF lo w w := ⟨fun _ _ _ _ h => h, fun _ _ _ _ h => h⟩
def Ok (e : E) : Prop := ∀ (lo : Nat) (w : World) (vn vk : Value), weight e ≤ 1048576 → NodeAt lo w e vn vk →
  Calls Tryz.prog 51 #[.agg #[.int .i64 e.kind, .string e.text, .int .i64 e.num, vn, vk]] w fun r w' => ∃ v, r = .returned v ∧ Reads w.heap.size w' e v ∧ SoftV w.heap.size w' e v ∧ Below w.heap.size w w'
structure Box (w : World) (k : Int) (t : ByteArray) (n : Int) (vk x y : Value) (wr : World) : Prop where
  below : Below w.heap.size w wr
  size : w.heap.size + 3 ≤ wr.heap.size
  a4 : wr.cell? ⟨w.heap.size, 4, none⟩ = some vk
  b0 : wr.cell? ⟨w.heap.size + 1, 0, none⟩ = some (.int .i64 0)
  b1 : wr.cell? ⟨w.heap.size + 1, 1, none⟩ = some (.string ⟨#[]⟩)
  b2 : wr.cell? ⟨w.heap.size + 1, 2, none⟩ = some (.int .i64 0)
  b3 : wr.cell? ⟨w.heap.size + 1, 3, none⟩ = some (.slice none 0 0)
  b4 : wr.cell? ⟨w.heap.size + 1, 4, none⟩ = some (.slice none 0 0)
  c0 : wr.cell? ⟨w.heap.size + 1 + 1, 0, none⟩ = some (.int .i64 k)
  c1 : wr.cell? ⟨w.heap.size + 1 + 1, 1, none⟩ = some (.string t)
  c2 : wr.cell? ⟨w.heap.size + 1 + 1, 2, none⟩ = some (.int .i64 n)
  c3 : wr.cell? ⟨w.heap.size + 1 + 1, 3, none⟩ = some x
  c4 : wr.cell? ⟨w.heap.size + 1 + 1, 4, none⟩ = some y
  fb : ∀ o, wr.frozen? ⟨w.heap.size + 1, o, none⟩ = false
  fc : ∀ o, wr.frozen? ⟨w.heap.size + 1 + 1, o, none⟩ = false
theorem Box.step {w wr w' : World} {k : Int} {t : ByteArray} {n : Int} {vk x y : Value} (h : Box w k t n vk x y wr) (hb : Below wr.heap.size wr w') : Box w k t n vk x y w' :=
  ⟨h.below.trans (hb.mono (by have := h.size; omega)), Nat.le_trans h.size hb.size, cell_keep hb h.a4, cell_keep hb h.b0, cell_keep hb h.b1, cell_keep hb h.b2, cell_keep hb h.b3, cell_keep hb h.b4,
    cell_keep hb h.c0, cell_keep hb h.c1, cell_keep hb h.c2, cell_keep hb h.c3, cell_keep hb h.c4,
    fun o => (hb.frozen (p := ⟨_, o, none⟩) (by have := h.size; simp; omega)).trans (h.fb o), fun o => (hb.frozen (p := ⟨_, o, none⟩) (by have := h.size; simp; omega)).trans (h.fc o)⟩
theorem box_new (w : World) (k : Int) (t : ByteArray) (n : Int) (vn vk : Value) : Box w k t n vk (.slice none 0 0) (.slice none 0 0)
    (((w.alloc (Obj.cells #[Value.int IntKind.i64 k, Value.string t, Value.int IntKind.i64 n, vn, vk] 86)).alloc
          (Obj.cells #[Value.int IntKind.i64 0, Value.string { data := #[] }, Value.int IntKind.i64 0, Value.slice none 0 0, Value.slice none 0 0] 44)).alloc
      (Obj.cells #[Value.int IntKind.i64 k, Value.string t, Value.int IntKind.i64 n, Value.slice none 0 0, Value.slice none 0 0] 44)) := by
  refine ⟨(((Below.refl _ _).alloc (Nat.le_refl _) _).alloc (by simp) _).alloc (by simp; omega) _, by simp, ?_, ?_, ?_, ?_, ?_, ?_, ?_, ?_, ?_, ?_, ?_, ?_, ?_⟩
  all_goals first | (intro o; go_simp) | go_simp
theorem Box.set3 {w wr : World} {k : Int} {t : ByteArray} {n : Int} {vk x y : Value} (h : Box w k t n vk x y wr) (v : Value) : Box w k t n vk v y (wr.setCell ⟨w.heap.size + 1 + 1, 3, none⟩ v) := by
  have other : ∀ b o u, (b ≠ w.heap.size + 1 + 1 ∨ o ≠ 3) → wr.cell? ⟨b, o, none⟩ = some u → (wr.setCell ⟨w.heap.size + 1 + 1, 3, none⟩ v).cell? ⟨b, o, none⟩ = some u := by
    intro b o u hne hc
    exact (World.cell?_setCell_other _ _ _ _ (by intro e; injection e with e1 e2 e3; omega)).trans hc
  refine ⟨h.below.setCell (by show w.heap.size ≤ w.heap.size + 1 + 1; omega) _, by simpa using h.size, other _ _ _ (by omega) h.a4, other _ _ _ (by omega) h.b0, other _ _ _ (by omega) h.b1, other _ _ _ (by omega) h.b2, other _ _ _ (by omega) h.b3, other _ _ _ (by omega) h.b4,
    other _ _ _ (by omega) h.c0, other _ _ _ (by omega) h.c1, other _ _ _ (by omega) h.c2, ?_, other _ _ _ (by omega) h.c4, fun o => ?_, fun o => ?_⟩
  · have := h.c3
    go_simp
  · have := h.fb o
    go_simp
  · have := h.fc o
    go_simp
set_option maxHeartbeats 1000000 in
theorem any_of (KK : ∀ (lo : Nat) (ks : List E) (v : Value) (w : World), (∀ e, e ∈ ks → Ok e) → KidsAt lo w ks v → ks.length + weights ks ≤ 1048576 →
    Calls Tryz.prog 34 #[v] w fun r w' => ∃ v', r = .returned v' ∧ KidsAt w.heap.size w' ks v' ∧ SoftKids w.heap.size w' ks v' ∧ Below w.heap.size w w') : ∀ e, Ok e := by
  refine ind fun k t n ns ks ih => ?_
  intro lo w vn vk hw hnode
  rw [node_iff] at hnode
  obtain ⟨hk, hn, ht, hns, hks⟩ := hnode
  simp only [E.kind, E.text, E.num, E.names, E.kids] at *
  rw [weight] at hw
  have KT := fun w' (hb : Below w.heap.size w w') => Lib.hid (to_any (hns.below hb) (by omega))
  have KS := fun w' (hb : Below w.heap.size w w') => Lib.hid (KK lo ks vk w' ih (hks.below hb) (by omega))
  have HK := Lib.hid (And.intro hk (And.intro hn ht))
  clear KK ih hw hns hks hk hn ht
  have B0 := Lib.hid (box_new w k t n vn vk)
  go_enter Tryz.func51, Tryz.ntmps51
  go_wp2_with fail
  refine (KT _ B0.out.below).out.mono ?_
  rintro e w1 ⟨v1, rfl, ht1, hb1⟩
  have B1 := Lib.hid (B0.out.step hb1)
  rw [show (((w.alloc (Obj.cells #[Value.int IntKind.i64 k, Value.string t, Value.int IntKind.i64 n, vn, vk] 86)).alloc (Obj.cells #[Value.int IntKind.i64 0, Value.string { data := #[] }, Value.int IntKind.i64 0, Value.slice none 0 0, Value.slice none 0 0] 44)).alloc
      (Obj.cells #[Value.int IntKind.i64 k, Value.string t, Value.int IntKind.i64 n, Value.slice none 0 0, Value.slice none 0 0] 44)).heap.size = w.heap.size + 3 by simp] at ht1
  obtain ⟨x1, cap1, rfl, -⟩ := id ht1
  have T1 := Lib.hid ht1
  clear hb1 B0 KT ht1
  have a4 := B1.out.a4
  have c3 := B1.out.c3
  have fc := B1.out.fc
  go_wp2_with fail
  have B2 := Lib.hid (B1.out.set3 (.slice x1 ns.length cap1))
  have T2 : Hid (Texts (w.heap.size + 3) (w1.setCell ⟨w.heap.size + 1 + 1, 3, none⟩ (.slice x1 ns.length cap1)) ns (.slice x1 ns.length cap1)) := T1.out.keep (Nat.le_refl _) (kept_set _ _ _ (by show w.heap.size + 1 + 1 < _; omega))
  clear T1 a4 c3 fc
  refine (KS _ B2.out.below).out.mono ?_
  rintro e w2 ⟨v2, rfl, ht2, hs2, hb2⟩
  have S3 := Lib.hid (hs2.keep (lo := w.heap.size + 3) (w' := w2) B2.out.size (keptF_refl _ _)); clear hs2
  have B3 := Lib.hid (B2.out.step hb2)
  have T3 := Lib.hid (T2.out.below hb2)
  have ht3 := ht2.keep (lo := w.heap.size + 3) (w' := w2) B2.out.size (fun _ _ _ _ h => h)
  obtain ⟨x2, cap2, rfl, -⟩ := id ht3
  have K3 := Lib.hid ht3
  clear hb2 B2 B1 KS ht2 ht3 T2
  have b0 := B3.out.b0
  have b1 := B3.out.b1
  have b2 := B3.out.b2
  have b3 := B3.out.b3
  have b4 := B3.out.b4
  have c0 := B3.out.c0
  have c1 := B3.out.c1
  have c2 := B3.out.c2
  have c3 := B3.out.c3
  have c4 := B3.out.c4
  have fb := B3.out.fb
  have fc := B3.out.fc
  go_wp2_with fail
  refine bodyPost_ret (v := .agg #[.int .i64 k, .string t, .int .i64 n, .slice x1 ns.length cap1, .slice x2 ks.length cap2]) (by simp [results, Tryz.results51, go_sem, *]) rfl ?_
  have l1 : w.heap.size + 1 + 1 < w.heap.size + 3 := by omega
  have l2 : w.heap.size + 1 < w.heap.size + 3 := by omega
  have hk : Kept (w.heap.size + 3) w2 ((((((w2.setCell ⟨w.heap.size + 1 + 1, 4, none⟩ (Value.slice x2 ks.length cap2)).setCell ⟨w.heap.size + 1, 0, none⟩ (Value.int IntKind.i64 k)).setCell ⟨w.heap.size + 1, 1, none⟩ (Value.string t)).setCell
      ⟨w.heap.size + 1, 2, none⟩ (Value.int IntKind.i64 n)).setCell ⟨w.heap.size + 1, 3, none⟩ (Value.slice x1 ns.length cap1)).setCell ⟨w.heap.size + 1, 4, none⟩ (Value.slice x2 ks.length cap2)) :=
    (((((kept_set _ _ _ l1).trans (kept_set _ _ _ l2)).trans (kept_set _ _ _ l2)).trans (kept_set _ _ _ l2)).trans (kept_set _ _ _ l2)).trans (kept_set _ _ _ l2)
  have hkF : KeptF (w.heap.size + 3) w2 ((((((w2.setCell ⟨w.heap.size + 1 + 1, 4, none⟩ (Value.slice x2 ks.length cap2)).setCell ⟨w.heap.size + 1, 0, none⟩ (Value.int IntKind.i64 k)).setCell ⟨w.heap.size + 1, 1, none⟩ (Value.string t)).setCell
      ⟨w.heap.size + 1, 2, none⟩ (Value.int IntKind.i64 n)).setCell ⟨w.heap.size + 1, 3, none⟩ (Value.slice x1 ns.length cap1)).setCell ⟨w.heap.size + 1, 4, none⟩ (Value.slice x2 ks.length cap2)) :=
    (((((keptF_set _ _ _ l1).trans (keptF_set _ _ _ l2)).trans (keptF_set _ _ _ l2)).trans (keptF_set _ _ _ l2)).trans (keptF_set _ _ _ l2)).trans (keptF_set _ _ _ l2)
  have g1 : w.heap.size ≤ w.heap.size + 1 + 1 := by omega
  have g2 : w.heap.size ≤ w.heap.size + 1 := by omega
  refine ⟨_, rfl, ⟨_, _, rfl, ?_⟩, ⟨_, _, _, _, _, rfl, soft_iff.2 (S3.out.keep (by omega) hkF)⟩, (((((B3.out.below.setCell g1 _).setCell g2 _).setCell g2 _).setCell g2 _).setCell g2 _).setCell g2 _⟩
  rw [node_iff]
  exact ⟨HK.out.1, HK.out.2.1, HK.out.2.2, T3.out.keep (by omega) hk, K3.out.keep (by omega) hk⟩
theorem info30 : (Tryz.prog.info? 44).map (fun i => (i.zero, i.size, i.bytes)) = some (some (.agg #[.int .i64 0, .string ByteArray.empty, .int .i64 0, .slice none 0 0, .slice none 0 0]), 5, 80) := by kernel_rfl
theorem kids_nil (a : Option Addr) (c : Nat) (w : World) :
    Calls Tryz.prog 34 #[.slice a 0 c] w fun r w' => ∃ v', r = .returned v' ∧ KidsAt w.heap.size w' [] v' ∧ SoftKids w.heap.size w' [] v' ∧ Below w.heap.size w w' := by
  obtain ⟨i0, hi, hz0, hz1, hz2⟩ := info_parts info30
  go_enter Tryz.func34, Tryz.ntmps34
  go_wp2_with (at_make; refine wpList_make_full _ rfl _ _ 32 rfl w.heap.size 44 i0 _ 5 Tryz.underlying32 hi hz0 hz1 .i64 .i64 _ _ 0 rfl rfl rfl rfl ?c2 ?c3 (Nat.le_refl _) ?_)
  case c2 => omega
  case c3 => unfold maxLen; omega
  intro w1 hown hgr
  have hbl : Below w.heap.size w w1 := (Below.refl _ _).grown hgr (Nat.le_refl _) (by simp)
  clear hown hgr
  go_wp2_with fail
  refine wp_loop_rounds 1 ?_
  rw [rounds_succ]
  go_wp2_with fail
  go_ret
  exact ⟨_, rfl, ⟨_, 0, rfl, by unfold maxLen; simp, fun h => by simp at h⟩, ⟨_, 0, rfl, fun h => by simp at h⟩, hbl⟩
def Some_ (w : World) (n : Nat) (ks : List E) (i : Nat) (wr : World) : Prop :=
  w.heap.size < wr.heap.size ∧ Below w.heap.size w wr ∧ ∃ xs : List Value, xs.length = n * 5 ∧ wr.ownsRow w.heap.size 44 5 (.slice (some ⟨w.heap.size, 0, none⟩) n n) n xs ∧
    ∀ j (h : j < ks.length), j < i → ∃ vn vk, xs[j * 5]? = some (.int .i64 ks[j].kind) ∧ xs[j * 5 + 1]? = some (.string ks[j].text) ∧ xs[j * 5 + 2]? = some (.int .i64 ks[j].num) ∧ xs[j * 5 + 3]? = some vn ∧ xs[j * 5 + 4]? = some vk ∧ NodeAt (w.heap.size + 1) wr ks[j] vn vk ∧ Soft (w.heap.size + 1) wr ks[j] vk
theorem set5 (xs : List Value) (p : Nat) (a b c d e : Value) (h : p + 5 ≤ xs.length) : ∃ ys, ys = ((((xs.set p a).set (p + 1) b).set (p + 2) c).set (p + 3) d).set (p + 4) e ∧ ys.length = xs.length ∧ ys[p]? = some a ∧ ys[p + 1]? = some b ∧ ys[p + 2]? = some c ∧ ys[p + 3]? = some d ∧ ys[p + 4]? = some e ∧
    ∀ q, (q < p ∨ p + 5 ≤ q) → ys[q]? = xs[q]? := by
  refine ⟨_, rfl, by simp, ?_, ?_, ?_, ?_, ?_, fun q hq => ?_⟩
  · rw [List.getElem?_set_ne (by omega), List.getElem?_set_ne (by omega), List.getElem?_set_ne (by omega), List.getElem?_set_ne (by omega), List.getElem?_set_self (by omega)]
  · rw [List.getElem?_set_ne (by omega), List.getElem?_set_ne (by omega), List.getElem?_set_ne (by omega), List.getElem?_set_self (by simp; omega)]
  · rw [List.getElem?_set_ne (by omega), List.getElem?_set_ne (by omega), List.getElem?_set_self (by simp; omega)]
  · rw [List.getElem?_set_ne (by omega), List.getElem?_set_self (by simp; omega)]
  · rw [List.getElem?_set_self (by simp; omega)]
  · rw [List.getElem?_set_ne (by omega), List.getElem?_set_ne (by omega), List.getElem?_set_ne (by omega), List.getElem?_set_ne (by omega), List.getElem?_set_ne (by omega)]
theorem some_step {w wr w2 : World} {n i : Nat} {ks : List E} {k : E} {xn xk : Value} (hil : i < ks.length) (hk : ks[i] = k) (hlt : i < n) (h : Some_ w n ks i wr) (hb : Below wr.heap.size wr w2) (hnode : NodeAt wr.heap.size w2 k xn xk) (hsoft : Soft wr.heap.size w2 k xk) :
    Some_ w n ks (i + 1) (((((w2.setCell ⟨w.heap.size, i * 5, none⟩ (.int .i64 k.kind)).setCell ⟨w.heap.size, i * 5 + 1, none⟩ (.string k.text)).setCell ⟨w.heap.size, i * 5 + 2, none⟩ (.int .i64 k.num)).setCell ⟨w.heap.size, i * 5 + 3, none⟩ xn).setCell ⟨w.heap.size, i * 5 + 4, none⟩ xk) := by
  obtain ⟨hg, hbw, xs, hxl, ho, hdone⟩ := h
  obtain ⟨ys, hys, hyl, y0, y1, y2, y3, y4, yo⟩ := set5 xs (i * 5) (.int .i64 k.kind) (.string k.text) (.int .i64 k.num) xn xk (by omega)
  have hl : w.heap.size < w.heap.size + 1 := Nat.lt_succ_self _
  have hK : Kept (w.heap.size + 1) w2 (((((w2.setCell ⟨w.heap.size, i * 5, none⟩ (.int .i64 k.kind)).setCell ⟨w.heap.size, i * 5 + 1, none⟩ (.string k.text)).setCell ⟨w.heap.size, i * 5 + 2, none⟩ (.int .i64 k.num)).setCell ⟨w.heap.size, i * 5 + 3, none⟩ xn).setCell ⟨w.heap.size, i * 5 + 4, none⟩ xk) :=
    ((((kept_set _ _ _ hl).trans (kept_set _ _ _ hl)).trans (kept_set _ _ _ hl)).trans (kept_set _ _ _ hl)).trans (kept_set _ _ _ hl)
  have hKF : KeptF (w.heap.size + 1) w2 (((((w2.setCell ⟨w.heap.size, i * 5, none⟩ (.int .i64 k.kind)).setCell ⟨w.heap.size, i * 5 + 1, none⟩ (.string k.text)).setCell ⟨w.heap.size, i * 5 + 2, none⟩ (.int .i64 k.num)).setCell ⟨w.heap.size, i * 5 + 3, none⟩ xn).setCell ⟨w.heap.size, i * 5 + 4, none⟩ xk) :=
    ((((keptF_set _ _ _ hl).trans (keptF_set _ _ _ hl)).trans (keptF_set _ _ _ hl)).trans (keptF_set _ _ _ hl)).trans (keptF_set _ _ _ hl)
  have hb2 : Below w.heap.size w w2 := hbw.trans (hb.mono (by omega))
  have hr : w.heap.size ≤ w.heap.size := Nat.le_refl _
  refine ⟨by have := hb.size; simp; omega, ((((hb2.setCell hr _).setCell hr _).setCell hr _).setCell hr _).setCell hr _, ys, by omega, ?_, fun j hj hji => ?_⟩
  · rw [hys]
    exact ((((((((((own_keep ho hb).stored _ _).1).stored _ _).1).stored _ _).1).stored _ _).1).stored _ _).1
  · by_cases e : j = i
    · subst e
      rw [hk]
      exact ⟨xn, xk, y0, y1, y2, y3, y4, NodeAt.keep (Nat.le_refl _) hK _ _ _ (NodeAt.keep (w' := w2) (by omega) (fun _ _ _ _ h => h) _ _ _ hnode), Soft.keep (Nat.le_refl _) hKF _ _ (Soft.keep (w' := w2) (by omega) (keptF_refl _ _) _ _ hsoft)⟩
    · obtain ⟨vn, vk, z0, z1, z2, z3, z4, hz, hzs⟩ := hdone j hj (by omega)
      refine ⟨vn, vk, ?_, ?_, ?_, ?_, ?_, NodeAt.keep (Nat.le_refl _) ((kept_below hb).trans hK) _ _ _ hz, Soft.keep (Nat.le_refl _) ((keptF_below hb).trans hKF) _ _ hzs⟩
      · rw [yo _ (by omega)]; exact z0
      · rw [yo _ (by omega)]; exact z1
      · rw [yo _ (by omega)]; exact z2
      · rw [yo _ (by omega)]; exact z3
      · rw [yo _ (by omega)]; exact z4
theorem some_all {w wr : World} {n : Nat} {ks : List E} (hn : ks.length = n) (h : Some_ w n ks n wr) (hm : n ≤ maxLen) : KidsAt w.heap.size wr ks (.slice (some ⟨w.heap.size, 0, none⟩) n n) ∧ SoftKids w.heap.size wr ks (.slice (some ⟨w.heap.size, 0, none⟩) n n) := by
  obtain ⟨hg, hbw, xs, hxl, ho, hdone⟩ := h
  subst hn
  refine ⟨⟨_, _, rfl, ⟨Nat.le_refl _, hm⟩, fun hp => ⟨_, _, rfl, Nat.le_refl _, ?_⟩⟩, ⟨_, _, rfl, fun hp => ⟨_, _, rfl, Nat.le_refl _, fun o => ho.frozenAt o, ?_⟩⟩⟩
  rotate_left
  rw [softrow_iff]
  intro i hi
  obtain ⟨vn, vk, z0, z1, z2, z3, z4, hz, hzs⟩ := hdone i hi hi
  rw [Nat.zero_add]
  exact ⟨vk, (ho.cellAt _ (by omega)).trans z4, Soft.keep (by omega) (keptF_refl _ _) _ _ hzs⟩
  rw [row_iff]
  intro i hi
  obtain ⟨vn, vk, z0, z1, z2, z3, z4, hz, -⟩ := hdone i hi hi
  rw [Nat.zero_add]
  exact ⟨vn, vk, (ho.cellAt _ (by omega)).trans z0, (ho.cellAt _ (by omega)).trans z1, (ho.cellAt _ (by omega)).trans z2, (ho.cellAt _ (by omega)).trans z3, (ho.cellAt _ (by omega)).trans z4, NodeAt.keep (by omega) (fun _ _ _ _ h => h) _ _ _ hz⟩
set_option maxHeartbeats 1000000 in
theorem kids_cons (lo b off cap n : Nat) (ks : List E) (w : World) (ih : ∀ e, e ∈ ks → Ok e) (hn : ks.length = n) (hm : n + weights ks ≤ 1048576) (hr : Row lo w b ks off) :
    Calls Tryz.prog 34 #[.slice (some ⟨b, off, none⟩) n cap] w fun r w' => ∃ v', r = .returned v' ∧ KidsAt w.heap.size w' ks v' ∧ SoftKids w.heap.size w' ks v' ∧ Below w.heap.size w w' := by
  obtain ⟨i0, hi, hz0, hz1, hz2⟩ := info_parts info30
  have HN := Lib.hid hn; clear hn
  have HR := Lib.hid hr; clear hr
  have IH := Lib.hid ih; clear ih
  have HM := Lib.hid hm
  have hm2 : n ≤ 1048576 := by omega
  clear hm
  go_enter Tryz.func34, Tryz.ntmps34
  go_wp2_with (at_make; refine wpList_make_full _ rfl _ _ 32 rfl w.heap.size 44 i0 _ 5 Tryz.underlying32 hi hz0 hz1 .i64 .i64 _ _ n rfl rfl rfl rfl ?c2 ?c3 (Nat.le_refl _) ?_)
  case c2 => rw [hz2]; omega
  case c3 => unfold maxLen; omega
  intro w1 hown hgr
  have hbl : Below w.heap.size w w1 := (Below.refl _ _).grown hgr (Nat.le_refl _) (by simp)
  have HO : Hid (Some_ w n ks 0 w1) := ⟨(hown.lt _ rfl).2, hbl, _, by simp [madeCells], hown, fun j h h0 => by omega⟩
  clear hown hgr hbl
  go_wp2_with fail
  go_loopw [4] (fun j wr => ∃ i : Nat, i ≤ n ∧ j = .int .i64 i ∧ Some_ w n ks i wr) (fun j _ => n - (intOf j).toNat)
  case atStart => exact ⟨0, by omega, rfl, HO.out⟩
  case round =>
    obtain ⟨i, hi', rfl, hs⟩ := hrel
    have HS := Lib.hid hs; clear hs
    by_cases hlt : i < n
    · have hil : i < ks.length := by rw [HN.out]; exact hlt
      obtain ⟨hg, hbw, xs, hxl, ho, hdone⟩ := HS.out
      obtain ⟨vn, vk, a0, a1, a2, a3, a4, hnode⟩ := (row_iff ks off).1 HR.out i hil
      have c0 := cell_keep hbw a0
      have c1 := cell_keep hbw a1
      have c2 := cell_keep hbw a2
      have c3 := cell_keep hbw a3
      have c4 := cell_keep hbw a4
      have hwk : weight ks[i] ≤ 1048576 := by have := weight_kid ks i hil; have := HM.out; omega
      have KI := Lib.hid (IH.out _ (List.getElem_mem hil) lo wr vn vk hwk (hnode.below hbw))
      clear a0 a1 a2 a3 a4 hnode hwk
      have hcl : ∀ w2, Below wr.heap.size wr w2 → ∀ r, r < 5 → ∃ v, w2.cell? ⟨w.heap.size, i * 5 + r, none⟩ = some v := fun w2 hb r hr => by
        rw [(own_keep ho hb).cellAt _ (by omega)]
        exact ⟨_, List.getElem?_eq_getElem (by omega)⟩
      have hfz : ∀ w2, Below wr.heap.size wr w2 → ∀ o, w2.frozen? ⟨w.heap.size, o, none⟩ = false := fun w2 hb o => (own_keep ho hb).frozenAt o
      have HC := Lib.hid hcl
      have HF := Lib.hid hfz
      clear hbw hxl ho hdone hcl hfz
      generalize hk : ks[i] = k at *
      have HKK := Lib.hid hk; clear hk
      go_wp2_with fail
      refine KI.out.mono ?_
      rintro e w2 ⟨v, rfl, ⟨xn, xk, rfl, hnode⟩, ⟨_, _, _, _, _, hse, hsoft⟩, hb2⟩
      cases hse
      obtain ⟨-, -, -, ⟨x1, cap1, rfl, -⟩, ⟨x2, cap2, rfl, -⟩⟩ := node_iff.1 hnode
      have HST := Lib.hid (some_step hil HKK.out hlt HS.out hb2 hnode hsoft)
      obtain ⟨u0, d0⟩ := HC.out w2 hb2 0 (by omega)
      obtain ⟨u1, d1⟩ := HC.out w2 hb2 1 (by omega)
      obtain ⟨u2, d2⟩ := HC.out w2 hb2 2 (by omega)
      obtain ⟨u3, d3⟩ := HC.out w2 hb2 3 (by omega)
      obtain ⟨u4, d4⟩ := HC.out w2 hb2 4 (by omega)
      have fz := HF.out w2 hb2
      rw [Nat.add_zero] at d0
      clear hnode hsoft hb2 c0 c1 c2 c3 c4
      go_wp2_with fail
      go_roundw
      case rel => exact ⟨i + 1, by omega, by go_num, HST.out⟩
      case measure => simp [intOf]; omega
    · have hin : i = n := by omega
      have HE := Lib.hid hin; clear hin
      go_wp2_with fail
      go_ret
      have hs := HS.out
      rw [HE.out] at hs
      exact ⟨_, rfl, (some_all HN.out hs (by unfold maxLen; omega)).1, (some_all HN.out hs (by unfold maxLen; omega)).2, hs.2.1⟩
theorem kids_any (lo : Nat) (ks : List E) (v : Value) (w : World) (ih : ∀ e, e ∈ ks → Ok e) (h : KidsAt lo w ks v) (hm : ks.length + weights ks ≤ 1048576) :
    Calls Tryz.prog 34 #[v] w fun r w' => ∃ v', r = .returned v' ∧ KidsAt w.heap.size w' ks v' ∧ SoftKids w.heap.size w' ks v' ∧ Below w.heap.size w w' := by
  obtain ⟨a, cap, rfl, _, hc⟩ := h
  by_cases hp : 0 < ks.length
  · obtain ⟨b, off, rfl, hb, hd⟩ := hc hp
    exact kids_cons lo b off cap _ ks w ih rfl hm hd
  · have : ks = [] := List.eq_nil_of_length_eq_zero (by omega)
    subst this
    exact kids_nil a cap w
theorem any2 : ∀ e, Ok e := any_of kids_any
theorem any (e : E) (lo : Nat) (w : World) (vn vk : Value) (hw : weight e ≤ 1048576) (h : NodeAt lo w e vn vk) :
    Calls Tryz.prog 51 #[.agg #[.int .i64 e.kind, .string e.text, .int .i64 e.num, vn, vk]] w fun r w' => ∃ v, r = .returned v ∧ Reads w.heap.size w' e v ∧ Below w.heap.size w w' :=
  (any2 e lo w vn vk hw h).mono fun _ _ ⟨v, h1, h2, _, h4⟩ => ⟨v, h1, h2, h4⟩
end Go.Proofs.YtdohpppkdecbdaaGreatDoor.TreeTo
