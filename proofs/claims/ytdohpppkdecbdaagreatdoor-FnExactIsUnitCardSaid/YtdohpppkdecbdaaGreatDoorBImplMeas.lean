/-
  measure: the size and the depth of a tree, by a walk that keeps its path in a slice and what it has measured in a map.
-/
import Derived.Test.YtdohpppkdecbdaaGreatDoorBImplExt
import Derived.Test.YtdohpppkdecbdaaGreatDoorBNd
import Derived.Deep.LoopGhost
import Derived.Deep.RegionHeld3
import Derived.WalkSmall
import Derived.OwnWalk
import Derived.Deep.QuietTactic
import Derived.BigQuiet
namespace Go.Proofs.YtdohpppkdecbdaaGreatDoor.ImplMeas
open Go.RowKit
open Strs Tree PMap Soft PtrMap Dfs
def row : List (Addr × Nat) → List Value
  | [] => []
  | (a, i) :: q => row q ++ [.pointer (some a), .int .i64 i]
theorem row_len : ∀ q, (row q).length = q.length * 2
  | [] => rfl
  | (a, i) :: q => by simp [row, row_len q]; omega
theorem row_node (a : Addr) (i : Nat) (q : List (Addr × Nat)) : (row ((a, i) :: q))[q.length * 2]? = some (.pointer (some a)) := by
  simp only [row]
  rw [List.getElem?_append_right (by rw [row_len]; omega), row_len]; simp
theorem row_ent (a : Addr) (i : Nat) (q : List (Addr × Nat)) : (row ((a, i) :: q))[q.length * 2 + 1]? = some (.int .i64 i) := by
  simp only [row]
  rw [List.getElem?_append_right (by rw [row_len]; omega), row_len]; simp
theorem row_set (a : Addr) (i j : Nat) (q : List (Addr × Nat)) : (row ((a, i) :: q)).set (q.length * 2 + 1) (.int .i64 j) = row ((a, j) :: q) := by
  simp only [row]
  rw [List.set_append_right _ _ (by rw [row_len]; omega), row_len]; simp
structure Base (w : World) (v : Value) (n : Nat) (xs : List Value) (wr : World) : Prop where
  own : wr.ownsRow (w.heap.size + 3) 123 2 v n xs
  below : Below w.heap.size w wr
  size : w.heap.size + 3 ≤ wr.heap.size
  r0 : wr.cell? ⟨w.heap.size, 0, none⟩ = some (.int .i64 0)
  r1 : wr.cell? ⟨w.heap.size, 1, none⟩ = some (.int .i64 0)
  fr : ∀ o, wr.frozen? ⟨w.heap.size, o, none⟩ = false
  m0 : wr.cell? ⟨w.heap.size + 1, 0, none⟩ = some (.int .i64 9223372036854775807)
  m1 : wr.cell? ⟨w.heap.size + 1, 1, none⟩ = some (.int .i64 9223372036854775807)
  fm : ∀ o, wr.frozen? ⟨w.heap.size + 1, o, none⟩ = false
theorem Base.grown {w wr w' : World} {v : Value} {n : Nat} {xs : List Value} (h : Base w v n xs wr) {v' : Value} {n' : Nat} {xs' : List Value} {row : Option Nat} (hg : wr.grownBy w' row) (hr : ∀ k, row = some k → w.heap.size + 2 ≤ k) (ho : w'.ownsRow (w.heap.size + 3) 123 2 v' n' xs') : Base w v' n' xs' w' := by
  have hs := h.size
  have n0 : some w.heap.size ≠ row := fun e => by have := hr _ e.symm; omega
  have n1 : some (w.heap.size + 1) ≠ row := fun e => by have := hr _ e.symm; omega
  exact ⟨ho, h.below.grown hg (by omega) (fun k hk => by have := hr k hk; omega), Nat.le_trans hs hg.size, hg.cell h.r0 n0, hg.cell h.r1 n0, fun o => (World.frozen?_of_block (a := ⟨w.heap.size, o, none⟩) (hg.block w.heap.size (by omega) n0)).trans (h.fr o),
    hg.cell h.m0 n1, hg.cell h.m1 n1, fun o => (World.frozen?_of_block (a := ⟨w.heap.size + 1, o, none⟩) (hg.block (w.heap.size + 1) (by omega) n1)).trans (h.fm o)⟩
theorem Base.grownMap {w wr w' : World} {v : Value} {n : Nat} {xs : List Value} (h : Base w v n xs wr) (hg : wr.grownBy w' (some (w.heap.size + 2))) : Base w v n xs w' := by
  refine h.grown hg (fun k hk => by cases hk; omega) (h.own.kept hg ?_)
  by_cases e : v.ownBlock = some (w.heap.size + 2)
  · have := (h.own.lt _ e).1; omega
  · exact .inr e
theorem Base.step {w wr w' : World} {v : Value} {n : Nat} {xs : List Value} (h : Base w v n xs wr) (hb : Below wr.heap.size wr w') : Base w v n xs w' := by
  refine h.grown (row := none) ⟨hb.os, hb.tape, hb.output, hb.size, fun k hk _ => hb.block k hk⟩ (fun k hk => by cases hk) (own_keep h.own hb)
theorem Base.draws {w wr : World} {v : Value} {n : Nat} {xs : List Value} (h : Base w v n xs wr) (k : Nat) : Base w v n xs (wr.drewN k) :=
  ⟨h.own, ⟨h.below.os, h.below.tape, h.below.output, h.below.size, h.below.block⟩, h.size, h.r0, h.r1, h.fr, h.m0, h.m1, h.fm⟩
structure St (w : World) (a : Addr) (k : Nat) (q : List (Addr × Nat)) (M : Addr → Option Value) (v : Value) (wr : World) : Prop where
  inv : Inv (N0 w) (treeAt w) (kid w) a M q
  mu : mu (treeAt w) q ≤ k
  map : Is encP (Fine w) wr (w.heap.size + 2) M
  base : Base w v q.length (row q) wr
theorem below_drewN {B : Nat} {u w : World} (h : Below B u w) (k : Nat) : Below B u (w.drewN k) := ⟨h.os, h.tape, h.output, h.size, h.block⟩
theorem two_one (a : Addr) (n : Int) : ∀ u : Value, u ∈ [Value.pointer (some a), .int .i64 n] → u.oneCell' = true := by
  intro u hu; simp at hu; rcases hu with rfl | rfl <;> rfl
theorem infoV : (Tryz.prog.info? 123).map (fun i => (i.zero, i.size, i.bytes)) = some (some (.agg #[.pointer none, .int .i64 0]), 2, 16) := by kernel_rfl
set_option maxRecDepth 10000 in
set_option maxHeartbeats 1000000 in
theorem measure_any (w : World) (a : Addr) (e : E) (hn : Nd w a e) (hz : size e ≤ 1048577) :
    Calls Tryz.prog 68 #[.pointer (some a)] w fun r w' => r = .returned (ext e) ∧ Below w.heap.size w w' := by
  obtain ⟨i0, hi, hz0, hz1, hz2⟩ := info_parts infoV
  obtain ⟨b, o, vn, x, cap, rfl, -⟩ := hn.see
  have HN := Lib.hid hn; clear hn
  have HZ := Lib.hid hz; clear hz
  have hmm := @run_makeMap Tryz.prog
  unfold ext
  have HSD := Lib.hid (And.intro (rfl : size e = size e) (rfl : depth e = depth e))
  generalize hsz : size e = sz at HZ ⊢
  generalize hdp : depth e = dp at *
  have HSZ := Lib.hid (And.intro hsz hdp)
  clear hsz hdp HSD
  have hB3 : Below w.heap.size w (((w.alloc (Obj.cells #[Value.int IntKind.i64 0, Value.int IntKind.i64 0] 113)).alloc (Obj.cells #[Value.int IntKind.i64 9223372036854775807, Value.int IntKind.i64 9223372036854775807] 113)).alloc (Obj.map #[] 0)) :=
    (((Below.refl _ _).alloc (Nat.le_refl _) _).alloc (by simp) _).alloc (by simp; omega) _
  obtain ⟨w3, hrun, his, hgr⟩ := Is.store (M := fun _ => none) (B := w.heap.size + 1 + 1) (by simpa using is_new (enc := encP) (dom := Fine w) ((w.alloc (Obj.cells #[Value.int IntKind.i64 0, Value.int IntKind.i64 0] 113)).alloc (Obj.cells #[Value.int IntKind.i64 9223372036854775807, Value.int IntKind.i64 9223372036854775807] 113)))
    (law hB3) HN.out.fine (.agg #[.int .i64 9223372036854775807, .int .i64 9223372036854775807])
  simp only [encP] at hrun
  have hs3 : w.heap.size + 3 ≤ w3.heap.size := by have := hgr.size; simp at this; omega
  have HB := Lib.hid (hB3.grown hgr (by simp; omega) (fun k hk => by cases hk; omega))
  have g0 : ∀ o v, (((w.alloc (Obj.cells #[Value.int IntKind.i64 0, Value.int IntKind.i64 0] 113)).alloc (Obj.cells #[Value.int IntKind.i64 9223372036854775807, Value.int IntKind.i64 9223372036854775807] 113)).alloc (Obj.map #[] 0)).cell? ⟨w.heap.size, o, none⟩ = some v → w3.cell? ⟨w.heap.size, o, none⟩ = some v := fun o v h => hgr.cell h (by simp; omega)
  have g1 : ∀ o v, (((w.alloc (Obj.cells #[Value.int IntKind.i64 0, Value.int IntKind.i64 0] 113)).alloc (Obj.cells #[Value.int IntKind.i64 9223372036854775807, Value.int IntKind.i64 9223372036854775807] 113)).alloc (Obj.map #[] 0)).cell? ⟨w.heap.size + 1, o, none⟩ = some v → w3.cell? ⟨w.heap.size + 1, o, none⟩ = some v := fun o v h => hgr.cell h (by simp)
  have f0 : ∀ o, w3.frozen? ⟨w.heap.size, o, none⟩ = false := fun o => (World.frozen?_of_block (a := ⟨w.heap.size, o, none⟩) (hgr.block w.heap.size (by simp; omega) (by simp; omega))).trans (by go_simp)
  have f1 : ∀ o, w3.frozen? ⟨w.heap.size + 1, o, none⟩ = false := fun o => (World.frozen?_of_block (a := ⟨w.heap.size + 1, o, none⟩) (hgr.block (w.heap.size + 1) (by simp) (by simp))).trans (by go_simp)
  have r0 := g0 0 (.int .i64 0) (by go_simp)
  have r1 := g0 1 (.int .i64 0) (by go_simp)
  have m0 := g1 0 (.int .i64 9223372036854775807) (by go_simp)
  have m1 := g1 1 (.int .i64 9223372036854775807) (by go_simp)
  have HS : Hid (St w ⟨b, o, none⟩ (mu (treeAt w) [(⟨b, o, none⟩, 0)]) [(⟨b, o, none⟩, 0)] (fun k' => if k' = ⟨b, o, none⟩ then some (.agg #[.int .i64 9223372036854775807, .int .i64 9223372036854775807]) else none) (.slice (some ⟨w3.heap.size, 0, none⟩) 1 1)
      (w3.alloc (.cells #[.pointer (some ⟨b, o, none⟩), .int .i64 0] 123))) := by
    have hb4 : Below w3.heap.size w3 (w3.alloc (.cells #[.pointer (some ⟨b, o, none⟩), .int .i64 0] 123)) := (Below.refl _ _).alloc (Nat.le_refl _) _
    exact ⟨inv_start ⟨e, HN.out⟩ rfl, Nat.le_refl _, his.step hb4, World.ownsRow_lit w3 #[.pointer (some ⟨b, o, none⟩), .int .i64 0] 1 hs3 (by unfold maxLen; omega) rfl, HB.out.alloc HB.out.size _, by simp; omega,
      cell_keep hb4 r0, cell_keep hb4 r1, fun o' => (hb4.frozen (p := ⟨w.heap.size, o', none⟩) (show w.heap.size < _ by omega)).trans (f0 o'), cell_keep hb4 m0, cell_keep hb4 m1, fun o' => (hb4.frozen (p := ⟨w.heap.size + 1, o', none⟩) (show w.heap.size + 1 < _ by omega)).trans (f1 o')⟩
  clear g0 g1 r0 r1 f0 f1 m1 hB3 his hgr
  go_enter Tryz.func68, Tryz.ntmps68
  go_wp2_with fail
  go_loopg [5] (mu (treeAt w) [(⟨b, o, none⟩, 0)]) (fun k v wr => ∃ q M, St w ⟨b, o, none⟩ k q M v wr)
  case atStart => exact ⟨_, _, HS.out⟩
  case round =>
    clear HS hrun hs3 m0
    obtain ⟨q, M, hst⟩ := hrel
    have ST := Lib.hid hst
    cases q with
    | nil =>
      obtain ⟨hinv, -, hmap, hown, hbel, hsz, r0, r1, fr, -, -, -⟩ := hst
      obtain ⟨ra, rc, rfl⟩ := Kit.row_form hown
      obtain ⟨hd1, hd2⟩ : Done (N0 w) (treeAt w) M ⟨b, o, none⟩ := hinv.2
      have hlk := hmap.look (law hbel) HN.out.fine false
      rw [hd2, HN.out.tree] at hlk
      simp only [Option.getD_some, Bool.false_eq_true, if_false, ext, encP] at hlk
      rw [HSZ.out.1, HSZ.out.2] at hlk
      clear hinv hown hmap hbel hd2 hd1
      simp only [List.length_nil]
      go_wp2_with fail
      refine bodyPost_ret (v := .agg #[.int .i64 sz, .int .i64 dp]) (by simp [results, Tryz.results68, go_sem, *]) rfl ?_
      exact ⟨rfl, (ST.out.base.below.setCell (Nat.le_refl _) _).setCell (Nat.le_refl _) _⟩
    | cons y q =>
      obtain ⟨a', i⟩ := y
      obtain ⟨hinv, hmu, hmap, hbase⟩ := hst
      have ND := Lib.hid (nd_tree hinv.2.1)
      have hile : i ≤ (treeAt w a').kids.length := hinv.2.2.1
      have hlen := inv_len (kids0 w) hinv
      have hsz := inv_size (kids0 w) hinv
      rw [HN.out.tree, HSZ.out.1] at hlen hsz
      obtain ⟨b', o', vn', x', cap', rfl, -, -, -, -, d4, hm1, hm2, -, -, -, -, hkid⟩ := ND.out.see
      have d4' := cell_keep hbase.below d4
      obtain ⟨g, cp, rfl, hcp⟩ : ∃ g cp, u5 = .slice (some ⟨g, 0, none⟩) (((⟨b', o', none⟩, i) :: q : List (Addr × Nat)).length) cp ∧ q.length + 1 ≤ cp := by
        rcases hbase.own.2 with ⟨_, h2⟩ | ⟨g, cp, _, h, _, _, h2, _⟩
        · simp at h2
        · exact ⟨g, cp, h, h2⟩
      have own := hbase.own
      have p0 : wr.cell? ⟨g, q.length * 2, none⟩ = some (.pointer (some ⟨b', o', none⟩)) := (own.cellAt _ (by simp)).trans (row_node _ _ _)
      have p1 : wr.cell? ⟨g, q.length * 2 + 1, none⟩ = some (.int .i64 i) := (own.cellAt _ (by simp; omega)).trans (row_ent _ _ _)
      have fp : ∀ o, wr.frozen? ⟨g, o, none⟩ = false := fun o => own.frozenAt o
      have KID := Lib.hid hkid
      have hz := HZ.out
      unfold maxLen at hm2
      have M0 := hbase.m0
      have M1 := hbase.m1
      simp only [List.length_cons] at *
      clear hinv hmu hmap hbase d4 hkid own
      by_cases hin : i = (treeAt w ⟨b', o', none⟩).kids.length
      · obtain ⟨hall, hinv', hmu'⟩ := inv_pop ST.out.inv hin
        have KE := fun wq (hb : Below w.heap.size w wq) (hm : Is encP (Fine w) wq (w.heap.size + 1 + 1) M) => Lib.hid (ImplExt.ext_any hb ND.out hm (fun k e' he => by
          have hk : k < (treeAt w ⟨b', o', none⟩).kids.length := by
            rcases Nat.lt_or_ge k (treeAt w ⟨b', o', none⟩).kids.length with h | h
            · exact h
            · rw [List.getElem?_eq_none h] at he; cases he
          have h1 := hall k hk
          rw [(kids0 w _ k ⟨_, ND.out⟩ hk).2, getElem!_pos _ k hk] at h1
          rw [List.getElem?_eq_getElem hk] at he
          cases he
          exact h1) (by omega))
        have INV := Lib.hid hinv'
        have MU := Lib.hid hmu'
        have BA := Lib.hid ST.out.base
        have MP := Lib.hid ST.out.map
        have FI := Lib.hid ND.out.fine
        have hin' : ((i : Int) == ((treeAt w ⟨b', o', none⟩).kids.length : Int)) = true := by rw [hin]; simp
        have PC : Hid (∀ wq, Base w (.slice (some ⟨g, 0, none⟩) (q.length + 1) cp) ((⟨b', o', none⟩, i) :: q : List (Addr × Nat)).length (row ((⟨b', o', none⟩, i) :: q)) wq → wq.cell? ⟨g, q.length * 2, none⟩ = some (.pointer (some ⟨b', o', none⟩))) :=
          fun wq h => (World.ownsRow.cellAt (n := q.length + 1) h.own _ (by omega)).trans (row_node _ _ _)
        have PB : Hid (∀ wq, Base w (.slice (some ⟨g, 0, none⟩) (q.length + 1) cp) ((⟨b', o', none⟩, i) :: q : List (Addr × Nat)).length (row ((⟨b', o', none⟩, i) :: q)) wq → Base w (.slice (some ⟨g, 0, none⟩) q.length cp) q.length (row q) wq) :=
          fun wq h => { h with own := ownsRow_pop (last := [.pointer (some ⟨b', o', none⟩), .int .i64 i]) (row_len q) h.own }
        clear hall hinv' hmu' hin KID hile
        unfold ext at KE INV
        generalize (treeAt w ⟨b', o', none⟩).kids.length = n' at *
        generalize size (treeAt w ⟨b', o', none⟩) = z' at *
        generalize depth (treeAt w ⟨b', o', none⟩) = y' at *
        generalize hm : q.length = m at *
        have HM := Lib.hid hm; clear hm
        go_wp2_with fail
        go_quiet (fail)
        all_goals go_wp2_with fail
        all_goals
          go_region_held3 (fun wq => wq.cell? ⟨g, m * 2, none⟩ = some (.pointer (some ⟨b', o', none⟩)))
            (first | exact p0 | exact PC.out _ BA2.out | exact cell_keep hb1 (show (wr.drewN _).cell? _ = _ from p0) | go_keep)
            (first | (go_at_call 77; refine (KE _ (below_drewN BA.out.below _) (MP.out.kept rfl)).out.mono ?_; rintro r w1 ⟨rfl, hb1⟩; have HB1 : Hid (Below w.heap.size w w1) := (below_drewN BA.out.below _).trans (hb1.mono BA.out.below.size); have BA1 := Lib.hid ((BA.out.draws _).step hb1); obtain ⟨w2, hrun2, his2, hgr2⟩ := Is.store (B := w.heap.size + 1 + 1) ((MP.out.kept (w' := wr.drewN _) rfl).step hb1) (law HB1.out) FI.out (.agg #[.int .i64 z', .int .i64 y']); simp only [encP] at hrun2; have BA2 := Lib.hid (BA1.out.grownMap hgr2); have MP2 := Lib.hid his2; clear his2 hgr2 BA1 HB1))
        all_goals
          clear p0 p1 d4' M0 M1 fp hb1 hrun2
          go_wp2_with fail
          go_roundg (mu (treeAt w) q)
          case measure => exact Nat.lt_of_lt_of_le MU.out ST.out.mu
          case rel => exact ⟨q, _, INV.out, Nat.le_refl _, MP2.out, by have h := PB.out _ BA2.out; rw [HM.out]; exact h⟩
      · have hlt : i < (treeAt w ⟨b', o', none⟩).kids.length := by omega
        have hin' : ((i : Int) == ((treeAt w ⟨b', o', none⟩).kids.length : Int)) = false := by rw [beq_eq_false_iff_ne]; omega
        obtain ⟨kb, ko, rfl, hke⟩ := KID.out i hlt
        have FK := Lib.hid (ND.out.kid_is hlt).fine
        rw [hke] at FK
        have hpu := fun v => inv_push (v := v) (kids0 w) ST.out.inv hlt
        have hsk := fun v => inv_skip (v := v) (kids0 w) ST.out.inv hlt
        rw [hke] at hpu hsk
        have HPU := Lib.hid hpu
        have HSK := Lib.hid hsk
        have PS : Hid (∀ wq, Base w (.slice (some ⟨g, 0, none⟩) (q.length + 1) cp) ((⟨b', o', none⟩, i) :: q : List (Addr × Nat)).length (row ((⟨b', o', none⟩, i) :: q)) wq → Is encP (Fine w) wq (w.heap.size + 1 + 1) M →
            Base w (.slice (some ⟨g, 0, none⟩) (q.length + 1) cp) (q.length + 1) (row ((⟨b', o', none⟩, i + 1) :: q)) (wq.setCell ⟨g, q.length * 2 + 1, none⟩ (.int .i64 ((i : Int) + 1))) ∧ Is encP (Fine w) (wq.setCell ⟨g, q.length * 2 + 1, none⟩ (.int .i64 ((i : Int) + 1))) (w.heap.size + 1 + 1) M) := by
          intro wq h hm
          have hs := World.ownsRow.stored (n := q.length + 1) h.own (q.length * 2 + 1) (.int .i64 ((i : Int) + 1))
          have hg := (h.own.lt g rfl).1
          have hrow : (row ((⟨b', o', none⟩, i) :: q)).set (q.length * 2 + 1) (.int .i64 ((i : Int) + 1)) = row ((⟨b', o', none⟩, i + 1) :: q) := row_set _ _ _ _
          rw [hrow] at hs
          exact ⟨h.grown hs.2 (fun k hk => by cases hk; omega) hs.1, hm.kept (hs.2.block _ hm.lt (by simp; omega))⟩
        have hg3 : w.heap.size + 3 ≤ g := (ST.out.base.own.lt g rfl).1
        have BA := Lib.hid ST.out.base
        have MP := Lib.hid ST.out.map
        have s1 : w.heap.size + 1 < wr.heap.size := by have := BA.out.size; omega
        have sg : g < wr.heap.size := (ST.out.base.own.lt g rfl).2
        clear hin KID hpu hsk hke hile
        generalize (treeAt w ⟨b', o', none⟩).kids.length = n' at *
        generalize hm : q.length = m at *
        have HM := Lib.hid hm; clear hm
        go_wp2_with fail
        go_quiet (fail)
        all_goals go_wp2_with fail
        all_goals go_quiet (fail)
        all_goals
          generalize hW : (wr.drewN _).drewN _ = wq
          have BAQ : Hid (Base w (.slice (some ⟨g, 0, none⟩) (m + 1) cp) ((⟨b', o', none⟩, i) :: q : List (Addr × Nat)).length (row ((⟨b', o', none⟩, i) :: q)) wq) := by rw [← hW]; exact (BA.out.draws _).draws _
          have MPQ : Hid (Is encP (Fine w) wq (w.heap.size + 1 + 1) M) := by rw [← hW]; exact MP.out.kept rfl
          have hsq : wq.heap.size = wr.heap.size := by rw [← hW]; rfl
          have t1 : w.heap.size + 1 < wq.heap.size := by omega
          have tg : g < wq.heap.size := by omega
          have c0 : wq.cell? ⟨g, m * 2 + 1, none⟩ = some (.int .i64 i) := by rw [← hW]; exact p1
          have f0 : ∀ o, wq.frozen? ⟨g, o, none⟩ = false := by rw [← hW]; exact fp
          obtain ⟨hb1, hm1'⟩ := PS.out wq BAQ.out MPQ.out
          clear p0 p1 d4' M0 M1 fp hW hsq s1 sg BA MP
          have BA1 := Lib.hid hb1
          have MP1 := Lib.hid hm1'
          have m0 : wq.cell? ⟨w.heap.size + 1, 0, none⟩ = some (.int .i64 9223372036854775807) := BAQ.out.m0
          have m1 : wq.cell? ⟨w.heap.size + 1, 1, none⟩ = some (.int .i64 9223372036854775807) := BAQ.out.m1
          have ne1 : ¬ g = w.heap.size + 1 := by omega
          have ne2 : ¬ w.heap.size + 1 = g := by omega
          clear BAQ MPQ
          have HL : Hid (∀ v, M ⟨kb, ko + i * 5, none⟩ = v → (Instr.lookup 121 (.map (some (w.heap.size + 1 + 1))) (.pointer (some ⟨kb, ko + i * 5, none⟩)) true).run Tryz.prog (wq.setCell ⟨g, m * 2 + 1, none⟩ (.int .i64 ((i : Int) + 1))) =
              .ok (.tuple #[v.getD (.agg #[.int .i64 0, .int .i64 0]), .bool v.isSome]) (wq.setCell ⟨g, m * 2 + 1, none⟩ (.int .i64 ((i : Int) + 1)))) :=
            fun v hv => by rw [← hv]; exact hm1'.look (law hb1.below) FK.out true
          clear hb1 hm1'
          cases hMk : M ⟨kb, ko + i * 5, none⟩ with
          | none =>
            have hlk := HL.out _ hMk
            simp only [Option.getD_none, Option.isSome_none] at hlk
            have HMK := Lib.hid hMk; clear hMk
            have hw2 : Below (wq.setCell ⟨g, m * 2 + 1, none⟩ (.int .i64 ((i : Int) + 1))).heap.size (wq.setCell ⟨g, m * 2 + 1, none⟩ (.int .i64 ((i : Int) + 1))) ((wq.setCell ⟨g, m * 2 + 1, none⟩ (.int .i64 ((i : Int) + 1))).alloc (.cells #[.int .i64 0, .int .i64 0] 113)) := (Below.refl _ _).alloc (Nat.le_refl _) _
            have BA2 := Lib.hid (BA1.out.step hw2)
            obtain ⟨w4, hrun, his, hgr⟩ := Is.store (MP1.out.step hw2) (law BA2.out.below) FK.out (.agg #[.int .i64 9223372036854775807, .int .i64 9223372036854775807])
            simp only [encP] at hrun
            have BA4 := Lib.hid (BA2.out.grownMap hgr)
            have MP4 := Lib.hid his
            have hs4 : w.heap.size + 3 ≤ w4.heap.size := BA4.out.size
            clear hw2 his hgr BA2 MP1 BA1 PS HL HSK
            go_wp2_with (at_builtin; go_must (refine wpList_append_own _ rfl _ _ 124 rfl (w.heap.size + 3) 123 i0 (.agg #[.pointer none, .int .i64 0]) 2 16 Tryz.underlying124 hi hz0 hz1 hz2 rfl (by decide) _ _ _ rfl (BA4.out.own.alloc _) ⟨w4.heap.size, 0, none⟩ 1 1 [.pointer (some ⟨kb, ko + i * 5, none⟩), .int .i64 0] rfl rfl ?c1 ?c2 ?c3 ?c4 ?c5 ?_))
            case c1 => exact two_cells w4 _ _ _
            case c2 => exact two_one _ _
            case c3 => unfold maxLen; omega
            case c4 => omega
            case c5 => simp; omega
            intro v' w5 hown' hgr' _
            have HOWN := Lib.hid hown'
            have HGR := Lib.hid hgr'
            clear hown' hgr'
            go_wp2_with fail
            obtain ⟨hiv, hmu⟩ := HPU.out (.agg #[.int .i64 9223372036854775807, .int .i64 9223372036854775807]) HMK.out
            have hb5 : Below w4.heap.size w4 (w4.alloc (.cells #[.pointer (some ⟨kb, ko + i * 5, none⟩), .int .i64 0] 123)) := (Below.refl _ _).alloc (Nat.le_refl _) _
            have IV := Lib.hid hiv
            have MU := Lib.hid hmu
            have BA5 := Lib.hid ((BA4.out.step hb5).grown HGR.out (fun k hk => by cases hk; show w.heap.size + 2 ≤ g; omega) HOWN.out)
            have MP5 := Lib.hid ((MP4.out.step hb5).kept (HGR.out.block _ (MP4.out.step hb5).lt (by simp [Value.ownBlock]; omega)))
            clear hiv hmu hb5 HOWN HGR BA4 MP4
            go_roundg (mu (treeAt w) ((⟨kb, ko + i * 5, none⟩, 0) :: (⟨b', o', none⟩, i + 1) :: q))
            case measure => exact Nat.lt_of_lt_of_le MU.out ST.out.mu
            case rel =>
              refine ⟨_, _, IV.out, Nat.le_refl _, MP5.out, ?_⟩
              show Base w _ (q.length + 1 + 1) _ _
              rw [HM.out]
              exact BA5.out
          | some u =>
            obtain ⟨rfl, hiv, hmu⟩ := HSK.out u hMk
            have IV := Lib.hid hiv
            have MU := Lib.hid hmu
            unfold ext at *
            have hlk := HL.out _ hMk
            simp only [Option.getD_some, Option.isSome_some] at hlk
            clear hMk hiv hmu HL PS HSK HPU
            generalize size (treeAt w ⟨kb, ko + i * 5, none⟩) = z' at *
            generalize depth (treeAt w ⟨kb, ko + i * 5, none⟩) = y' at *
            go_wp2_with fail
            go_roundg (mu (treeAt w) ((⟨b', o', none⟩, i + 1) :: q))
            case measure => exact Nat.lt_of_lt_of_le MU.out ST.out.mu
            case rel =>
              refine ⟨_, M, IV.out, Nat.le_refl _, MP1.out.step ((Below.refl _ _).alloc (Nat.le_refl _) _), ?_⟩
              show Base w _ (q.length + 1) _ _
              rw [HM.out]
              exact BA1.out.step ((Below.refl _ _).alloc (Nat.le_refl _) _)
end Go.Proofs.YtdohpppkdecbdaaGreatDoor.ImplMeas
