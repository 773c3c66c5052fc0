/-
  spec.l9SomeValue draws a value; which one is not said: it is right, and its text is short.
-/
import Derived.Test.YtkmclgofghaeoaaBPickInt
import Derived.Test.YtkmclgofghaeoaaBReadMath
import Derived.Test.YtkmclgofghaeoaaBSpecBasA
namespace Go.Proofs.Ytkmclgofghaeoaa.DrawVal
open Go.RowKit
open Strs Sto Bas SpecBas Cur Draw
set_option linter.unusedVariables false
theorem gr_low {g : Nat} {u w w' : World} (h : u.grownBy w (some g)) (k : Below u.heap.size w w') : u.grownBy w' (some g) :=
  ⟨k.os.trans h.os, k.tape.trans h.tape, k.output.trans h.output, Nat.le_trans h.size k.size, fun i hi hn => (k.block i hi).trans (h.block i hi hn)⟩
theorem gr_below {g : Nat} {u w w' : World} (h : u.grownBy w (some g)) (k : Below w.heap.size w w') : u.grownBy w' (some g) := gr_low h (k.mono h.size)
theorem own_gr {g base : Nat} {w w' : World} {e : TypeId} {size n : Nat} {v : Value} {xs : List Value} (h : w.ownsRow base e size v n xs) (hg : w.grownBy w' (some g)) (hl : g < base) : w'.ownsRow base e size v n xs := by
  refine h.kept hg ?_
  cases hv : v.ownBlock with
  | none => exact .inl rfl
  | some k => exact .inr (by have := (h.lt k hv).1; intro e; injection e with e; omega)
theorem strs_at (w : World) (xs : List ByteArray) (cs : Array Value) (n : Nat) (h : cs.toList = xs.map Value.string) (hn : xs.length = n) : ∀ j, j < n → (w.alloc (.cells cs 9)).cell? ⟨w.heap.size, j, none⟩ = some (.string (xs.getD j ByteArray.empty)) := by
  intro j hj
  rw [World.cell?_alloc_mark w _ _ (0, 0) j, ← Array.getElem?_toList, h, List.getElem?_map, List.getD, List.getElem?_eq_getElem (by omega)]
  rfl
theorem ints_at (w : World) (xs : List Int) (cs : Array Value) (n : Nat) (h : cs.toList = xs.map (Value.int .i64)) (hn : xs.length = n) : ∀ j, j < n → (w.alloc (.cells cs 3)).cell? ⟨w.heap.size, j, none⟩ = some (.int .i64 (xs.getD j 0)) := by
  intro j hj
  rw [World.cell?_alloc_mark w _ _ (0, 0) j, ← Array.getElem?_toList, h, List.getElem?_map, List.getD, List.getElem?_eq_getElem (by omega)]
  rfl
theorem pick_lit {g : Nat} {a : Option Addr} {len cap : Nat} {w : World} (hc : Cur w g a len cap) (hb : Bytes w g a len) (xs : List ByteArray) (cs : Array Value) (n : Nat) (h : cs.toList = xs.map Value.string) (hn : xs.length = n) (h0 : 0 < n) (h1 : n ≤ 1048576) :
    Calls Try.prog 31 #[.pointer (some ⟨g, 0, none⟩), .slice (some ⟨w.heap.size, 0, none⟩) n n] (w.alloc (.cells cs 9)) fun e w' => ∃ s : ByteArray, s ∈ xs ∧ e = .returned (.string s) ∧ Cur w' g a len cap ∧ Bytes w' g a len ∧ w.grownBy w' (some g) := by
  refine (pick_any g a len cap w.heap.size n n xs _ hn h0 h1 (by have := curLt hc; omega) (strs_at w xs cs n h hn) (curKeep hc (alloc_below w _)) (bytesKeep hb (alloc_below w _))).mono ?_
  rintro e w2 ⟨s, hs, rfl, hc2, hg2⟩
  exact ⟨s, hs, rfl, hc2, (bytesKeep hb (alloc_below w _)).keep hg2, grown_trans (gr_below (grown_refl w _) (alloc_below w _)) hg2⟩
theorem pickint_lit {g : Nat} {a : Option Addr} {len cap : Nat} {w : World} (hc : Cur w g a len cap) (hb : Bytes w g a len) (xs : List Int) (cs : Array Value) (n : Nat) (h : cs.toList = xs.map (Value.int .i64)) (hn : xs.length = n) (h0 : 0 < n) (h1 : n ≤ 1048576) :
    Calls Try.prog 29 #[.pointer (some ⟨g, 0, none⟩), .slice (some ⟨w.heap.size, 0, none⟩) n n] (w.alloc (.cells cs 3)) fun e w' => ∃ s : Int, s ∈ xs ∧ e = .returned (.int .i64 s) ∧ Cur w' g a len cap ∧ Bytes w' g a len ∧ w.grownBy w' (some g) := by
  refine (pickint_any g a len cap w.heap.size n n xs _ hn h0 h1 (by have := curLt hc; omega) (ints_at w xs cs n h hn) (curKeep hc (alloc_below w _)) (bytesKeep hb (alloc_below w _))).mono ?_
  rintro e w2 ⟨s, hs, rfl, hc2, hg2⟩
  exact ⟨s, hs, rfl, hc2, (bytesKeep hb (alloc_below w _)).keep hg2, grown_trans (gr_below (grown_refl w _) (alloc_below w _)) hg2⟩
theorem below_keep {g : Nat} {a : Option Addr} {len cap : Nat} {w : World} (n : Int) (hn : 0 < n) (hn2 : n ≤ 4294967296) (hc : Cur w g a len cap) (hb : Bytes w g a len) :
    Calls Try.prog 27 #[.pointer (some ⟨g, 0, none⟩), .int .i64 n] w fun e w' => ∃ x : Int, e = .returned (.int .i64 x) ∧ 0 ≤ x ∧ x < n ∧ Cur w' g a len cap ∧ Bytes w' g a len ∧ w.grownBy w' (some g) := by
  refine (below_any g a len cap n w hn hn2 hc hb).mono ?_
  rintro e w1 ⟨x, rfl, hx0, hx1, hc1, hg1⟩
  exact ⟨x, rfl, hx0, by omega, hc1, hb.keep hg1, hg1⟩
theorem frozen_gr {g : Nat} {w w' : World} (h : w.grownBy w' (some g)) {b o : Nat} (hb : b ≠ g) (hl : b < w.heap.size) : w'.frozen? ⟨b, o, none⟩ = w.frozen? ⟨b, o, none⟩ := by
  have he := h.block b hl (fun e => hb (Option.some.inj e))
  unfold World.frozen?
  simp only
  rw [he]
set_option maxHeartbeats 1000000 in
theorem once_keep {g : Nat} {a : Option Addr} {len cap : Nat} {w : World} (n : Int) (hn : 0 < n) (hn2 : n ≤ 4294967296) (hc : Cur w g a len cap) (hb : Bytes w g a len) :
    Calls Try.prog 14 #[.pointer (some ⟨g, 0, none⟩), .int .i64 n] w fun e w' => ∃ b : Bool, e = .returned (.bool b) ∧ Cur w' g a len cap ∧ Bytes w' g a len ∧ w.grownBy w' (some g) := by
  have K := Lib.hid (below_keep n hn hn2 hc hb)
  clear hc hb hn hn2
  go_enter Try.func14, Try.ntmps14
  go_wp2_with fail
  refine K.out.mono ?_
  rintro e w1 ⟨x, rfl, hx0, hx1, hc, hb, hg⟩
  have HC := Lib.hid hc
  have HB := Lib.hid hb
  have HG := Lib.hid hg
  clear hc hb hg K
  go_wp2_with fail
  go_ret
  exact ⟨_, rfl, HC.out, HB.out, HG.out⟩
def Drawn (g : Nat) (a : Option Addr) (len cap : Nat) (w : World) (e : Ending) (w' : World) : Prop :=
  ∃ v : V, valB v = true ∧ (v.text.size ≤ 8 ∧ (Lit.int .i64 v.num).wf = true) ∧ e = .returned (.agg #[.int .i64 v.kind, .int .i64 v.num, .string v.text]) ∧ Cur w' g a len cap ∧ Bytes w' g a len ∧ w.grownBy w' (some g)
structure ZB (g : Nat) (wx : World) : Prop where
  lt : g < wx.heap.size
  a0 : wx.cell? ⟨g, 0, none⟩ = some (.int .i64 0)
  a1 : wx.cell? ⟨g, 1, none⟩ = some (.int .i64 0)
  a2 : wx.cell? ⟨g, 2, none⟩ = some (.string ⟨#[]⟩)
  fz : ∀ o, wx.frozen? ⟨g, o, none⟩ = false
theorem ZB.step {g : Nat} {wx w' : World} (h : ZB g wx) (hb : Below wx.heap.size wx w') : ZB g w' :=
  ⟨Nat.lt_of_lt_of_le h.lt hb.size, cell_keep hb h.a0, cell_keep hb h.a1, cell_keep hb h.a2, fun o => (hb.frozen (p := ⟨g, o, none⟩) h.lt).trans (h.fz o)⟩
theorem ZB.gr {g q : Nat} {wx w' : World} (h : ZB g wx) (hg : wx.grownBy w' (some q)) (hn : g ≠ q) : ZB g w' :=
  ⟨Nat.lt_of_lt_of_le h.lt hg.size, grown_cell hg hn h.a0, grown_cell hg hn h.a1, grown_cell hg hn h.a2, fun o => (frozen_gr hg hn h.lt).trans (h.fz o)⟩
theorem zb_new (w : World) (T : TypeId) : ZB w.heap.size (w.alloc (.cells #[.int .i64 0, .int .i64 0, .string ⟨#[]⟩] T)) :=
  ⟨by simp, by go_simp, by go_simp, by go_simp, fun o => by go_simp⟩
structure DR (w0 : World) (g : Nat) (a : Option Addr) (len cap : Nat) (sb : Nat) (sa : Option Addr) (wx : World) : Prop where
  cur : Cur wx g a len cap
  b0 : Bytes w0 g a len
  s0 : wx.cell? ⟨sb, 0, none⟩ = some (.slice sa 16 16)
  s1 : wx.cell? ⟨sb, 1, none⟩ = some (.slice none 0 0)
  zb : ZB w0.heap.size wx
  gr : w0.grownBy wx (some g)
  lt : g < w0.heap.size
  ne : sb ≠ g
theorem DR.bytes {w0 wx : World} {g : Nat} {a : Option Addr} {len cap sb : Nat} {sa : Option Addr} (h : DR w0 g a len cap sb sa wx) : Bytes wx g a len := h.b0.keep h.gr
theorem DR.step {w0 wx w' : World} {g : Nat} {a : Option Addr} {len cap sb : Nat} {sa : Option Addr} (h : DR w0 g a len cap sb sa wx) (hb : Below wx.heap.size wx w') : DR w0 g a len cap sb sa w' :=
  ⟨curKeep h.cur hb, h.b0, cell_keep hb h.s0, cell_keep hb h.s1, h.zb.step hb, gr_below h.gr hb, h.lt, h.ne⟩
theorem DR.draw {w0 wx w' : World} {g : Nat} {a : Option Addr} {len cap sb : Nat} {sa : Option Addr} (h : DR w0 g a len cap sb sa wx) (hc : Cur w' g a len cap) (hg : wx.grownBy w' (some g)) : DR w0 g a len cap sb sa w' :=
  ⟨hc, h.b0, grown_cell hg h.ne h.s0, grown_cell hg h.ne h.s1, h.zb.gr hg (Nat.ne_of_gt h.lt), grown_trans h.gr hg, h.lt, h.ne⟩
theorem dr_new {w : World} {g : Nat} {a : Option Addr} {len cap sb : Nat} {sa : Option Addr} (hc : Cur w g a len cap) (hb : Bytes w g a len) (h0 : w.cell? ⟨sb, 0, none⟩ = some (.slice sa 16 16)) (h1 : w.cell? ⟨sb, 1, none⟩ = some (.slice none 0 0)) (hn : sb ≠ g) (T : TypeId) :
    DR w g a len cap sb sa (w.alloc (.cells #[.int .i64 0, .int .i64 0, .string ⟨#[]⟩] T)) :=
  have hb' : Below w.heap.size w (w.alloc (.cells #[.int .i64 0, .int .i64 0, .string ⟨#[]⟩] T)) := alloc_below _ _
  ⟨curKeep hc hb', hb, cell_keep hb' h0, cell_keep hb' h1, zb_new w T, gr_below (grown_refl _ _) hb', curLt hc, hn⟩
def put3 (w : World) (b : Nat) (x y z : Value) : World := ((w.setCell ⟨b, 0, none⟩ x).setCell ⟨b, 1, none⟩ y).setCell ⟨b, 2, none⟩ z
theorem DR.put {w0 wx : World} {g : Nat} {a : Option Addr} {len cap sb : Nat} {sa : Option Addr} (h : DR w0 g a len cap sb sa wx) (x y z : Value) : Cur (put3 wx w0.heap.size x y z) g a len cap ∧ Bytes (put3 wx w0.heap.size x y z) g a len ∧ w0.grownBy (put3 wx w0.heap.size x y z) (some g) := by
  have key : ∀ (wy : World) (o : Nat) (u : Value), Cur wy g a len cap ∧ w0.grownBy wy (some g) → Cur (wy.setCell ⟨w0.heap.size, o, none⟩ u) g a len cap ∧ w0.grownBy (wy.setCell ⟨w0.heap.size, o, none⟩ u) (some g) := by
    intro wy o u ⟨h1, h3⟩
    have hl := h.lt
    refine ⟨?_, ?_⟩
    · obtain ⟨i, x, hi, hm, c0, c1, c2, hf⟩ := h1
      have hne : ∀ o', ¬ ((⟨g, o', none⟩ : Addr) = ⟨w0.heap.size, o, none⟩) := fun o' e => by
        injection e with e1
        omega
      exact ⟨i, x, hi, hm, (World.cell?_setCell_other _ _ _ _ (fun e => hne 0 e.symm)).trans c0, (World.cell?_setCell_other _ _ _ _ (fun e => hne 1 e.symm)).trans c1, (World.cell?_setCell_other _ _ _ _ (fun e => hne 2 e.symm)).trans c2, fun o => (World.frozen?_setCell _ _ _ _).trans (hf o)⟩
    · exact ⟨h3.os, h3.tape, h3.output, by simpa [World.setCell] using h3.size, fun k hk hne => by rw [Below.heap_setCell _ _ _ _ (by simp; omega), h3.block k hk hne]⟩
  have h9 := key _ 2 z (key _ 1 y (key _ 0 x ⟨h.cur, h.gr⟩))
  exact ⟨h9.1, h.b0.keep h9.2, h9.2⟩
end Go.Proofs.Ytkmclgofghaeoaa.DrawVal
