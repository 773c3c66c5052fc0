/-
  A strings.Builder of the call's own: writing a byte or a text puts it behind what is there; nothing else that lies in memory turns, but rows of bytes.
-/
import Derived.Test.YtoaocpfehdcfgaaGreatDoorBMax
import Derived.Test.YtoaocpfehdcfgaaGreatDoorBSpecFmt
import Derived.Shelf.Strings.Builder1
import Derived.WalkKit
import Derived.WalkSpells
import Derived.Lib.Hide
namespace Go.Proofs.YtoaocpfehdcfgaaGreatDoor.BldB
open Go.RowKit
structure Fr (b : Nat) (w w' : World) : Prop where
  os : w'.os = w.os
  tape : w'.tape = w.tape
  output : w'.output = w.output
  size : w.heap.size ≤ w'.heap.size
  block : ∀ k, k < w.heap.size → k ≠ b → (∀ cs fr, w.heap[k]? ≠ some (.cells cs 5 fr)) → w'.heap[k]? = w.heap[k]?
theorem Fr.refl (b : Nat) (w : World) : Fr b w w := ⟨rfl, rfl, rfl, Nat.le_refl _, fun _ _ _ _ => rfl⟩
theorem Fr.trans {b : Nat} {u v w : World} (h : Fr b u v) (k : Fr b v w) : Fr b u w :=
  ⟨k.os.trans h.os, k.tape.trans h.tape, k.output.trans h.output, Nat.le_trans h.size k.size, fun x hx hb hn => by
    have h1 := h.block x hx hb hn
    rw [← h1]
    exact k.block x (Nat.lt_of_lt_of_le hx h.size) hb (by rw [h1]; exact hn)⟩
theorem Fr.of_below {b : Nat} {w w' : World} (h : Below w.heap.size w w') : Fr b w w' := ⟨h.os, h.tape, h.output, h.size, fun k hk _ _ => h.block k hk⟩
theorem Fr.below {b : Nat} {u v w : World} (h : Fr b u v) (k : Below v.heap.size v w) : Fr b u w := h.trans (.of_below k)
structure St (w0 : World) (b : Nat) (l : List UInt8) (w : World) : Prop where
  base : Below w0.heap.size w0 w
  bd : Lib.IsBuilder 115 5 w0.heap.size b (Lib.byteCells l) w
theorem at_below {B b : Nat} {p : Value} {bs : List Value} {w w' : World} (h : Lib.BuilderAt 115 5 B b p bs w) (hb : Below w.heap.size w w') : Lib.BuilderAt 115 5 B b p bs w' := by
  have hlt := h.lt
  obtain ⟨hB, v, h1, h2, h3⟩ := h
  exact ⟨hB, v, by rw [hb.block b hlt]; exact h1, h2.kept (row := none) ⟨hb.os, hb.tape, hb.output, hb.size, fun k hk _ => hb.block k hk⟩ (by cases hv : v.ownBlock with | none => exact .inl rfl | some k => exact .inr (by simp)), h3⟩
theorem St.below {w0 : World} {b : Nat} {l : List UInt8} {w w' : World} (h : St w0 b l w) (hb : Below w.heap.size w w') : St w0 b l w' :=
  ⟨h.base.trans ⟨hb.os, hb.tape, hb.output, hb.size, fun k hk => hb.block k (Nat.lt_of_lt_of_le hk h.base.size)⟩, h.bd.elim (fun x => .inl (at_below x hb)) (fun x => .inr (at_below x hb))⟩
theorem St.lt {w0 : World} {b : Nat} {l : List UInt8} {w : World} (h : St w0 b l w) : w0.heap.size ≤ b ∧ b < w.heap.size :=
  h.bd.elim (fun x => ⟨x.1, x.lt⟩) (fun x => ⟨x.1, x.lt⟩)
theorem fr_set (b o : Nat) (w : World) (x : Value) : Fr b w (w.setCell ⟨b, o, none⟩ x) :=
  ⟨rfl, rfl, rfl, by simp [World.setCell], fun k _ hb _ => Below.heap_setCell _ _ _ _ hb⟩
theorem check {w0 : World} {b : Nat} {l : List UInt8} {w : World} (h : St w0 b l w) :
    Calls Tryz.prog 98 #[.pointer (some ⟨b, 0, none⟩)] w fun e w' => e = .returned (.tuple #[]) ∧ Lib.BuilderAt 115 5 w0.heap.size b (.pointer (some ⟨b, 0, none⟩)) (Lib.byteCells l) w' ∧ Fr b w w' ∧ Below w0.heap.size w w' := by
  obtain ⟨hb, hd⟩ := h
  rcases hd with h | h
  · refine (Any.Builder_copyCheck_fresh (ρ := Shelf.lays155_ren) { Shelf.lays155 with } Shelf.Builder_Extra_155.toX72 b w h.cell0 h.shape h.frozen0).mono ?_
    rintro e w' ⟨rfl, rfl⟩
    exact ⟨rfl, h.used _, fr_set b 0 w _, (Below.refl _ w).setCell (p := ⟨b, 0, none⟩) h.1 _⟩
  · refine (Any.Builder_copyCheck_used (ρ := Shelf.lays155_ren) { Shelf.lays155 with } Shelf.Builder_Extra_155.toX72 b w h.cell0).mono ?_
    rintro e w' ⟨rfl, rfl⟩
    exact ⟨rfl, h, Fr.refl _ _, Below.refl _ _⟩
theorem infoU : (Tryz.prog.info? 5).map (fun i => (i.zero, i.size, i.bytes)) = some (some (.int .u8 0), 1, 1) := by kernel_rfl
theorem grow_fr {b : Nat} {v : Value} {n : Nat} {xs : List Value} {B : Nat} {w w' : World} (hown : w.ownsRow B 5 1 v n xs) (h : w.grownBy w' v.ownBlock) : Fr b w w' := by
  refine ⟨h.os, h.tape, h.output, h.size, fun k hk _ hn => h.block k hk fun e => ?_⟩
  rcases hown.2 with ⟨rfl, _⟩ | ⟨g, cap, cur, rfl, _, hg, _⟩
  · cases e
  · cases e
    exact hn _ _ hg
theorem grow_below {v : Value} {n : Nat} {xs : List Value} {B : Nat} {w w' : World} (hown : w.ownsRow B 5 1 v n xs) (hB : B ≤ w.heap.size) (h : w.grownBy w' v.ownBlock) : Below B w w' := by
  refine ⟨h.os, h.tape, h.output, h.size, fun k hk => h.block k (by omega) fun e => ?_⟩
  rcases hown.2 with ⟨rfl, _⟩ | ⟨g, cap, cur, rfl, hg0, hg, _⟩
  · cases e
  · have : k = g := by simpa [Value.ownBlock] using e
    omega
set_option maxHeartbeats 2000000 in
set_option maxRecDepth 100000 in
theorem put_str {w0 : World} {b : Nat} {l : List UInt8} {w : World} (h : St w0 b l w) (s : ByteArray) (hlen : l.length + s.size ≤ 140737488355328) :
    Calls Tryz.prog 76 #[.pointer (some ⟨b, 0, none⟩), .string s] w fun e w' => e = .returned (.tuple #[.int .i64 s.size, .nilIface]) ∧ St w0 b (l ++ s.data.toList) w' ∧ Fr b w w' := by
  obtain ⟨i0, hi, hz0, hz1, hz2⟩ := info_parts infoU
  have hB0 := Nat.le_trans h.lt.1 (Nat.le_of_lt h.lt.2)
  have KC := Lib.hid (check h)
  have HB0 := Lib.hid h.base
  clear h
  generalize hBB : w0.heap.size = B at *
  have HBB := Lib.hid hBB; clear hBB
  go_enter Tryz.func76, Tryz.ntmps76
  go_wp2_with fail
  refine KC.out.mono ?_
  rintro e w1 ⟨rfl, ⟨hB, v, hbk, hown, hne⟩, hf1, hb1⟩
  have c0 : w1.cell? ⟨b, 0, none⟩ = some (.pointer (some ⟨b, 0, none⟩)) := by rw [Lib.cell_of_heap hbk]; rfl
  have c1 : w1.cell? ⟨b, 1, none⟩ = some v := by rw [Lib.cell_of_heap hbk]; rfl
  have HF1 := Lib.hid hf1
  have HB1 := Lib.hid hb1
  have HBK := Lib.hid hbk
  have HNE := Lib.hid hne
  have HOWN := Lib.hid hown
  have hs1 := hf1.size
  clear hf1 hb1 hne KC
  go_wp2_with (at_builtin; refine Lib.wpList_append_own_string _ rfl _ _ 103 9 rfl B 5 i0 Tryz.underlying103 Tryz.underlying9 hi hz0 hz1 hz2 _ _ _ rfl hown s rfl ?c3 ?c4 ?c5 ?_)
  case c3 => rw [Lib.byteCells_length]; unfold maxLen; omega
  case c4 => rw [Lib.byteCells_length]; exact hlen
  case c5 => omega
  intro v' w2 hown' hgrow _
  have hlt : b < w1.heap.size := by
    rcases Nat.lt_or_ge b w1.heap.size with h' | h'
    · exact h'
    · rw [Array.getElem?_eq_none h'] at hbk; cases hbk
  have hb2 : w2.heap[b]? = some (.cells #[.pointer (some ⟨b, 0, none⟩), v] 115 (0, 0)) := by
    rw [hgrow.block b hlt (fun e => HNE.out e.symm)]; exact hbk
  have HB2 := Lib.hid hb2
  have HG2 := Lib.hid (grow_fr (b := b) HOWN.out hgrow)
  have HG3 := Lib.hid (grow_below HOWN.out (Nat.le_trans hB0 hs1) hgrow)
  have HO2 := Lib.hid hown'
  have d0 : w2.cell? ⟨b, 0, none⟩ = some (.pointer (some ⟨b, 0, none⟩)) := by rw [Lib.cell_of_heap hb2]; rfl
  have d1 : w2.cell? ⟨b, 1, none⟩ = some v := by rw [Lib.cell_of_heap hb2]; rfl
  have f1 : w2.frozen? ⟨b, 1, none⟩ = false := Lib.frozen_of_heap hb2 1
  obtain ⟨ao, n', cap, rfl⟩ : ∃ ao n' cap, v' = .slice ao n' cap := by
    rcases hown'.2 with ⟨hv, _⟩ | ⟨g, cap, cur, hv, _⟩
    · exact ⟨_, _, _, hv⟩
    · exact ⟨_, _, _, hv⟩
  clear hown' hgrow hb2 hown hbk
  go_wp2_with fail
  go_ret2
  refine ⟨rfl, ⟨?_, .inr ?_⟩, ?_⟩
  · rw [HBB.out]
    exact HB0.out.trans (HB1.out.trans (HG3.out.setCell (p := ⟨b, 1, none⟩) hB _))
  · rw [HBB.out, Lib.byteCells_append]
    refine Lib.BuilderAt.put hB HB2.out ?_ (by decide)
    rw [List.length_append, Lib.byteCells_length s.data.toList, show s.data.toList.length = s.size from by rw [Array.length_toList]; rfl]
    exact HO2.out
  · exact HF1.out.trans (HG2.out.trans (fr_set b 1 w2 _))
set_option maxHeartbeats 2000000 in
set_option maxRecDepth 100000 in
theorem put_byte {w0 : World} {b : Nat} {l : List UInt8} {w : World} (h : St w0 b l w) (c : UInt8) (hlen : l.length + 1 ≤ 140737488355328) :
    Calls Tryz.prog 74 #[.pointer (some ⟨b, 0, none⟩), .int .u8 (c.toNat : Int)] w fun e w' => e = .returned .nilIface ∧ St w0 b (l ++ [c]) w' ∧ Fr b w w' := by
  obtain ⟨i0, hi, hz0, hz1, hz2⟩ := info_parts infoU
  have hB0 := Nat.le_trans h.lt.1 (Nat.le_of_lt h.lt.2)
  have KC := Lib.hid (check h)
  have HB0 := Lib.hid h.base
  clear h
  generalize hBB : w0.heap.size = B at *
  have HBB := Lib.hid hBB; clear hBB
  generalize hcc : (c.toNat : Int) = cc at *
  have HCC := Lib.hid hcc; clear hcc
  go_enter Tryz.func74, Tryz.ntmps74
  go_wp2_with fail
  refine KC.out.mono ?_
  rintro e w1 ⟨rfl, ⟨hB, v, hbk, hown, hne⟩, hf1, hb1⟩
  have c0 : w1.cell? ⟨b, 0, none⟩ = some (.pointer (some ⟨b, 0, none⟩)) := by rw [Lib.cell_of_heap hbk]; rfl
  have c1 : w1.cell? ⟨b, 1, none⟩ = some v := by rw [Lib.cell_of_heap hbk]; rfl
  have HF1 := Lib.hid hf1
  have HB1 := Lib.hid hb1
  have HBK := Lib.hid hbk
  have HNE := Lib.hid hne
  have HOWN := Lib.hid (hown.alloc (.cells #[.int .u8 cc] 5))
  have hs1 := hf1.size
  clear hf1 hb1 hne KC
  go_wp2_with (at_builtin; refine wpList_append_own _ rfl _ _ 103 rfl B 5 i0 (.int .u8 0) 1 1 Tryz.underlying103 hi hz0 hz1 hz2 rfl (by decide) _ _ _ rfl (hown.alloc _) ⟨w1.heap.size, 0, none⟩ 1 1 [.int .u8 cc] rfl rfl ?c1 ?c2 ?c3 ?c4 ?c5 ?_)
  case c1 =>
    intro j u hj
    match j, hj with
    | 0, hj => simp at hj; subst hj; simp [Addr.add]
  case c2 => intro u hu; simp at hu; subst hu; rfl
  case c3 => rw [Lib.byteCells_length]; unfold maxLen; omega
  case c4 => rw [Lib.byteCells_length]; omega
  case c5 => simp; omega
  intro v' w2 hown' hgrow _
  have hlt : b < w1.heap.size := by
    rcases Nat.lt_or_ge b w1.heap.size with h' | h'
    · exact h'
    · rw [Array.getElem?_eq_none h'] at hbk; cases hbk
  have hb2 : w2.heap[b]? = some (.cells #[.pointer (some ⟨b, 0, none⟩), v] 115 (0, 0)) := by
    rw [hgrow.block b (by simp; omega) (fun e => HNE.out e.symm), heap_alloc_old w1 _ hlt]; exact hbk
  have HB2 := Lib.hid hb2
  have hba : Below w1.heap.size w1 (w1.alloc (.cells #[.int .u8 cc] 5)) := (Below.refl _ _).alloc (Nat.le_refl _) _
  have HG2 := Lib.hid ((Fr.of_below (b := b) hba).trans (grow_fr (b := b) HOWN.out hgrow))
  have HG3 := Lib.hid (((Below.refl B w1).alloc (by omega) (.cells #[.int .u8 cc] 5)).trans (grow_below HOWN.out (by simp; omega) hgrow))
  have HO2 := Lib.hid hown'
  have d0 : w2.cell? ⟨b, 0, none⟩ = some (.pointer (some ⟨b, 0, none⟩)) := by rw [Lib.cell_of_heap hb2]; rfl
  have d1 : w2.cell? ⟨b, 1, none⟩ = some v := by rw [Lib.cell_of_heap hb2]; rfl
  have f1 : w2.frozen? ⟨b, 1, none⟩ = false := Lib.frozen_of_heap hb2 1
  obtain ⟨ao, n', cap, rfl⟩ : ∃ ao n' cap, v' = .slice ao n' cap := by
    rcases hown'.2 with ⟨hv, _⟩ | ⟨g, cap, cur, hv, _⟩
    · exact ⟨_, _, _, hv⟩
    · exact ⟨_, _, _, hv⟩
  clear hown' hgrow hb2 hown hbk hba
  go_wp2_with fail
  go_ret
  refine ⟨rfl, ⟨?_, .inr ?_⟩, ?_⟩
  · rw [HBB.out]
    exact HB0.out.trans (HB1.out.trans (HG3.out.setCell (p := ⟨b, 1, none⟩) hB _))
  · rw [HBB.out, Lib.byteCells_append]
    refine Lib.BuilderAt.put hB HB2.out ?_ (by decide)
    rw [List.length_append]
    have e1 : Lib.byteCells [c] = [.int .u8 cc] := by rw [← HCC.out]; rfl
    rw [e1]
    exact HO2.out
  · exact HF1.out.trans (HG2.out.trans (fr_set b 1 w2 _))
def Wrote (w0 : World) (b : Nat) (l : List UInt8) (w : World) (e : Ending) (w' : World) : Prop := e = .returned (.tuple #[]) ∧ St w0 b l w' ∧ Fr b w w'
structure Box (k : Nat) (cs : Array Value) (t : TypeId) (w : World) : Prop where
  at_ : w.heap[k]? = some (.cells cs t (0, 0))
  ne : t ≠ 5
theorem Box.lt {k : Nat} {cs : Array Value} {t : TypeId} {w : World} (h : Box k cs t w) : k < w.heap.size := by
  rcases Nat.lt_or_ge k w.heap.size with h' | h'
  · exact h'
  · have := h.at_; rw [Array.getElem?_eq_none h'] at this; cases this
theorem Box.fr {k b : Nat} {cs : Array Value} {t : TypeId} {w w' : World} (h : Box k cs t w) (hf : Fr b w w') (hb : k ≠ b) : Box k cs t w' :=
  ⟨by rw [hf.block k h.lt hb (fun c f e => by rw [h.at_] at e; injection e with e; injection e with _ e; exact h.ne e)]; exact h.at_, h.ne⟩
theorem Box.below {k : Nat} {cs : Array Value} {t : TypeId} {w w' : World} (h : Box k cs t w) (hf : Below w.heap.size w w') : Box k cs t w' := ⟨by rw [hf.block k h.lt]; exact h.at_, h.ne⟩
theorem Box.new (w : World) (cs : Array Value) (t : TypeId) (ne : t ≠ 5) : Box w.heap.size cs t (w.alloc (.cells cs t)) := ⟨heap_alloc_new w _, ne⟩
theorem Box.cell {k : Nat} {cs : Array Value} {t : TypeId} {w : World} (h : Box k cs t w) (j : Nat) : w.cell? ⟨k, j, none⟩ = cs[j]? := Lib.cell_of_heap h.at_ j
theorem fresh_st (w : World) : St w w.heap.size [] (w.alloc (.cells #[.pointer none, .slice none 0 0] 115)) :=
  ⟨(Below.refl _ _).alloc (Nat.le_refl _) _, Lib.fresh_isBuilder _ _ w⟩
def lays170_ren : Go.Shelf.Ren := ⟨fun | 170 => 75 | n => n, Shelf.lays155_ren.t, Shelf.lays155_ren.g⟩
theorem lays170 : Go.Proofs.Lays.n170 Tryz.prog lays170_ren := {
  mixed := Shelf.lays155.mixed
  f170 := Tryz.func75.trans (congrArg some (by kernel_rfl))
  t0 := Shelf.lays155.t0
  a0 := Shelf.lays155.a0
  z0 := Shelf.lays155.z0
  v0 := Shelf.lays155.v0
  t3 := Shelf.lays155.t3
  a3 := Shelf.lays155.a3
  z3 := Shelf.lays155.z3
  v3 := Shelf.lays155.v3
  t37 := Shelf.lays155.t37
  a37 := Shelf.lays155.a37
  z37 := Shelf.lays155.z37
  v37 := Shelf.lays155.v37
  t70 := Shelf.lays155.t70
  a70 := Shelf.lays155.a70
  z70 := Shelf.lays155.z70
  v70 := Shelf.lays155.v70
  t72 := Shelf.lays155.t72
  a72 := Shelf.lays155.a72
  z72 := Shelf.lays155.z72
  v72 := Shelf.lays155.v72 }
theorem len_any {w0 : World} {b : Nat} {l : List UInt8} {w : World} (h : St w0 b l w) :
    Calls Tryz.prog 75 #[.pointer (some ⟨b, 0, none⟩)] w fun e w' => e = .returned (.int .i64 l.length) ∧ w' = w := by
  have := Any.Builder_Len (ρ := lays170_ren) lays170 w0.heap.size b (Lib.byteCells l) w h.bd
  rw [Lib.byteCells_length] at this
  exact this
theorem string_any {w0 : World} {b : Nat} {l : List UInt8} {w : World} (h : St w0 b l w) :
    Calls Tryz.prog 77 #[.pointer (some ⟨b, 0, none⟩)] w fun e w' => e = .returned (.string ⟨l.toArray⟩) ∧ Below w0.heap.size w w' :=
  Any.Builder_String_any (ρ := Shelf.lays155_ren) { Shelf.lays155 with } Shelf.Builder_Extra_155 w0.heap.size b l w h.bd h.base.size
end Go.Proofs.YtoaocpfehdcfgaaGreatDoor.BldB
