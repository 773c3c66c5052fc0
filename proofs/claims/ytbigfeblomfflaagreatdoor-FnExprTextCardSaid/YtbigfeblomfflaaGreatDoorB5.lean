/-
  DrawBent
-/
import Derived.Test.YtbigfeblomfflaaGreatDoorB4
namespace Go.Proofs.YtbigfeblomfflaaGreatDoor
namespace DrawTree
open Go.RowKit
open Strs Tree Cur Draw Soft
open Go.Proofs.YtbigfeblomfflaaGreatDoor.Parser
set_option linter.unusedVariables false
def wd : Nat -> Nat
  | 0 => 20
  | d + 1 => 3 * wd d + 20
theorem draw_any : ∀ (d : Nat), d <= 100 -> ∀ (g : Nat) (a : Option Addr) (len cap : Nat) (w : World), Cur w g a len cap -> Bytes w g a len -> Calls Tryz.prog 84 #[.pointer (some ⟨g, 0, none⟩), .int .i64 (d : Int)] w (DrawT (wd d) g a len cap w) := by
  intro d
  induction d with
  | zero => intro _ g a len cap w hc hb; exact draw_leaf 0 0 (by decide) g a len cap w hc hb
  | succ d ih =>
    intro hd g a len cap w hc hb
    refine draw_node (wd d) ((d + 1 : Nat) : Int) (by omega) g a len cap w hc hb fun w' hc' hb' => ?_
    have := ih (by omega) g a len cap w' hc' hb'
    rw [show ((d : Nat) : Int) = ((d + 1 : Nat) : Int) - 1 by omega] at this
    exact this
def BentT (W g : Nat) (a : Option Addr) (len cap : Nat) (w : World) (e : Ending) (w' : World) : Prop :=
  ∃ (t : E) (vn vk : Value), e = .returned (.agg #[.int .i64 t.kind, .string t.text, .int .i64 t.num, vn, vk]) /\ NS w.heap.size w' t vn vk /\ Cur w' g a len cap /\ w.grownBy w' (some g) /\ weight t <= W
theorem bent_put5 {W g : Nat} {a : Option Addr} {len cap : Nat} {w w1 : World} {k : Int} {t : ByteArray} {n : Int} {ns : List ByteArray} {ks : List E} {vn vk : Value} (hd : NS (w.heap.size + 1) w1 (.mk k t n ns ks) vn vk) (hc : Cur w1 g a len cap) (hg : w.grownBy w1 (some g)) (hgl : g < w.heap.size) (hW : weight (.mk k t n ns ks) <= W) :
    BentT W g a len cap w (.returned (.agg #[.int .i64 k, .string t, .int .i64 n, vn, vk])) (put5 w1 w.heap.size (.int .i64 k) (.string t) (.int .i64 n) vn vk) := by
  have hb := zah (zB w.heap.size w1) (B := w.heap.size) (zL _) (.int .i64 k) (.string t) (.int .i64 n) vn vk
  exact ⟨.mk k t n ns ks, vn, vk, rfl, NS.keep (Nat.le_succ _) (keptF_put5 w1 (Nat.lt_succ_self _) _ _ _ _ _) hd, cur_low hc hb hgl, gr_low hg hb, hW⟩
theorem bent_of {W g : Nat} {a : Option Addr} {len cap : Nat} {w : World} {e : Ending} {w' : World} (h : DrawT W g a len cap w e w') : BentT W g a len cap w e w' := by
  obtain ⟨k, t, n, ns, L, vn, vk, rfl, hd, hc, hg, hw⟩ := h
  exact ⟨.mk k t n ns (trees L), vn, vk, rfl, hd.ns, hc, hg, hw⟩
structure Fv (B : Nat) (a b c d e : Value) (wr : World) : Prop where
  size : B < wr.heap.size
  z0 : wr.cell? ⟨B, 0, none⟩ = some a
  z1 : wr.cell? ⟨B, 1, none⟩ = some b
  z2 : wr.cell? ⟨B, 2, none⟩ = some c
  z3 : wr.cell? ⟨B, 3, none⟩ = some d
  z4 : wr.cell? ⟨B, 4, none⟩ = some e
  fz : ∀ o, wr.frozen? ⟨B, o, none⟩ = false
theorem Fv.same {B : Nat} {a b c d e : Value} {wr w' : World} (h : Fv B a b c d e wr) (hs : wr.heap.size <= w'.heap.size) (hb : w'.heap[B]? = wr.heap[B]?) : Fv B a b c d e w' := by
  have hc : ∀ o, w'.cell? ⟨B, o, none⟩ = wr.cell? ⟨B, o, none⟩ := fun o => World.cell?_of_block (a := ⟨B, o, none⟩) hb
  have hf : ∀ o, w'.frozen? ⟨B, o, none⟩ = wr.frozen? ⟨B, o, none⟩ := fun o => World.frozen?_of_block (a := ⟨B, o, none⟩) hb
  exact ⟨Nat.lt_of_lt_of_le h.size hs, (hc 0).trans h.z0, (hc 1).trans h.z1, (hc 2).trans h.z2, (hc 3).trans h.z3, (hc 4).trans h.z4, fun o => (hf o).trans (h.fz o)⟩
theorem fv_new (w : World) (a b c d e : Value) (T : TypeId) : Fv w.heap.size a b c d e (w.alloc (.cells #[a, b, c, d, e] T)) := by
  refine ⟨by simp, ?_, ?_, ?_, ?_, ?_, fun o => ?_⟩
  all_goals go_simp
theorem Fv.gr {B g : Nat} {a b c d e : Value} {w w' : World} (h : Fv B a b c d e w) (hg : w.grownBy w' (some g)) (hB : B ≠ g) : Fv B a b c d e w' := h.same hg.size (hg.block B h.size (by simpa using hB))
theorem krow_own {lo : Nat} {w : World} {L : List Parser.Item} {vk : Value} (h : KRow lo w L vk) : w.ownsRow lo 27 5 vk L.length (row5 L) := by
  rcases h with ⟨rfl, rfl⟩ | h
  · exact World.ownsRow_nil w lo _ _
  · exact h.own
theorem app_node {lo g : Nat} {w1 F : World} {k : Int} {t : ByteArray} {n : Int} {ns : List ByteArray} {L : List Parser.Item} {vn vk v5 : Value} (h : Dr lo w1 k t n ns L vn vk) (hg : g < lo)
    (hblk : ∀ b, b < w1.heap.size -> b ≠ g -> vk.ownBlock ≠ some b -> F.heap[b]? = w1.heap[b]?) (hown : F.ownsRow lo 27 5 v5 (L.length + 1) (row5 L ++ row5 [((E.mk 1 ⟨#[]⟩ 0 [] [], Value.slice none 0 0, Value.slice none 0 0) : Parser.Item)])) :
    NS lo F (.mk k t n ns (trees (L ++ [((E.mk 1 ⟨#[]⟩ 0 [] [], Value.slice none 0 0, Value.slice none 0 0) : Parser.Item)]))) vn v5 := by
  have hcell : ∀ b o v, w1.cell? ⟨b, o, none⟩ = some v -> b ≠ g -> vk.ownBlock ≠ some b -> F.cell? ⟨b, o, none⟩ = some v := fun b o v hc h1 h2 => by
    rw [World.cell?_of_block (w := w1) (a := ⟨b, o, none⟩) (hblk b (Cur.cell_lt hc) h1 h2)]; exact hc
  have hfz : ∀ b o, b < w1.heap.size -> b ≠ g -> vk.ownBlock ≠ some b -> F.frozen? ⟨b, o, none⟩ = w1.frozen? ⟨b, o, none⟩ := fun b o hb h1 h2 => World.frozen?_of_block (w := w1) (a := ⟨b, o, none⟩) (hblk b hb h1 h2)
  have e1 : (L ++ [((E.mk 1 ⟨#[]⟩ 0 [] [], Value.slice none 0 0, Value.slice none 0 0) : Parser.Item)]).length = L.length + 1 := by simp
  have hown' : F.ownsRow lo 27 5 v5 (L ++ [((E.mk 1 ⟨#[]⟩ 0 [] [], Value.slice none 0 0, Value.slice none 0 0) : Parser.Item)]).length (row5 (L ++ [((E.mk 1 ⟨#[]⟩ 0 [] [], Value.slice none 0 0, Value.slice none 0 0) : Parser.Item)])) := by rw [e1, row5_append]; exact hown
  have hall : ∀ x, x ∈ L ++ [((E.mk 1 ⟨#[]⟩ 0 [] [], Value.slice none 0 0, Value.slice none 0 0) : Parser.Item)] -> NS lo F x.1 x.2.1 x.2.2 := by
    intro x hx
    rcases List.mem_append.1 hx with hx | hx
    · rcases h.kr with ⟨rfl, rfl⟩ | ho
      · cases hx
      · obtain ⟨l0, w0, h1, h2, h3, h4, h5⟩ := ho.apart x hx
        have hne : ∀ b o v, l0 <= b -> w0.cell? ⟨b, o, none⟩ = some v -> b ≠ g /\ vk.ownBlock ≠ some b := fun b o v hb hc => by
          have hlt := Cur.cell_lt hc
          refine ⟨by omega, fun e => ?_⟩
          rcases h5 b e with h6 | h6
          · omega
          · simp at hlt; omega
        refine NS.keep h1 ⟨fun b o v hb hc => ?_, fun b o hb ⟨o', v, hc⟩ hf => ?_⟩ h2
        · exact hcell b o v (h3.1 b o v hb hc) (hne b o v hb hc).1 (hne b o v hb hc).2
        · exact (hfz b o (Cur.cell_lt (h3.1 b o' v hb hc)) (hne b o' v hb hc).1 (hne b o' v hb hc).2).trans (h3.2 b o hb ⟨o', v, hc⟩ hf)
    · rw [List.mem_singleton] at hx
      subst hx
      exact ns_nil _ _ rfl (Nat.zero_le _)
  refine ⟨zaw.2 ⟨h.wk, h.wn, h.wt, ?_, (own_kids hown' (zL _) fun x hx => (hall x hx).1).kids⟩, soft_iff.2 (own_soft hown' (zL _) fun x hx => (hall x hx).2)⟩
  obtain ⟨a, c, rfl, hm, hx, hc⟩ := h.tx
  refine ⟨a, c, rfl, hm, hx, fun h0 => ?_⟩
  obtain ⟨b, off, rfl, hb, hcc⟩ := hc h0
  refine ⟨b, off, rfl, hb, fun j hj => hcell b _ _ (hcc j hj) (by omega) ?_⟩
  rcases h.ap with e | e
  · simp [Value.ownBlock] at e
  · intro e2
    exact e (by rw [e2]; simp [Value.ownBlock])
def bends : List ByteArray := [⟨#[]⟩, ⟨#[99, 108, 97, 115, 115]⟩, ⟨#[97, 58]⟩, ⟨#[120]⟩]
theorem bends_le : ∀ s ∈ bends, s.size <= 5 := by
  intro s hs
  simp only [bends, List.mem_cons, List.not_mem_nil, or_false] at hs
  rcases hs with rfl | rfl | rfl | rfl <;> decide
set_option maxRecDepth 10000 in
set_option maxHeartbeats 16000000 in
theorem bent_any (g : Nat) (a : Option Addr) (len cap : Nat) (w : World) (hc : Cur w g a len cap) (hb : Bytes w g a len) :
    Calls Tryz.prog 36 #[.pointer (some ⟨g, 0, none⟩)] w (BentT 900 g a len cap w) := by
  obtain ⟨i0, hi, hz0, hz1, hz2⟩ := info_parts infoE
  have hgl := curLt hc
  have hne : w.heap.size ≠ g := by omega
  have HBI := zH hb
  have hba := zad w (.cells #[.int .i64 0, .string ⟨#[]⟩, .int .i64 0, .slice none 0 0, .slice none 0 0] 27)
  have HZ0 := zH (zero_new w 27)
  have HG0 := zH (zav (grown_refl w (some g)) hba)
  have KD := zH (draw_any 3 (by decide) g a len cap _ (curKeep hc hba) (bytesKeep hb hba))
  rw [show wd 3 = 800 from rfl] at KD
  clear hc hb hba
  go_enter Tryz.func36, Tryz.ntmps36
  go_wp2_with fail
  refine KD.out.mono ?_
  rintro e w1 ⟨k, t, n, ns, L, vn, vk, rfl, hd, hc1, hg1, hw1⟩
  obtain ⟨xa, xl, xc, ya, yl, yc, rfl, rfl⟩ := zaq hd.node
  have hZ1 := zam HZ0.out hg1 hne
  have hlo := hZ1.size
  have hba := zad w1 (.cells #[.int .i64 k, .string t, .int .i64 n, .slice xa xl xc, .slice ya yl yc] 27)
  have HD1 := zH (hd.base (lo' := w.heap.size + 1) (by simp))
  have HW1 := zH hw1
  have HG1 := zH (zav (zab HG0.out hg1) hba)
  have HX1 := zH (zav (grown_refl w1 (some g)) hba)
  have HZ1 := zH (hZ1.step hba)
  have HF1 := zH (fv_new w1 (.int .i64 k) (.string t) (.int .i64 n) (.slice xa xl xc) (.slice ya yl yc) 27)
  have KB := zH (below_keep 12 (by decide) (by decide) (curKeep hc1 hba) (HBI.out.keep HG1.out))
  have hB1 : w1.heap.size ≠ g := by have := curLt hc1; omega
  have hg1l : g < w1.heap.size := curLt hc1
  clear hd hc1 hg1 hw1 hba KD hZ1 HZ0 HG0
  go_wp2_with fail
  refine KB.out.mono ?_
  rintro e w2 ⟨x, rfl, hx0, hx1, hc2, hb2, hg2⟩
  have HC2 := zH hc2
  have HB2 := zH hb2
  have HG2 := zH (zab HG1.out hg2)
  have HX2 := zH (zab HX1.out hg2)
  have HZ2 := zH (zam HZ1.out hg2 hne)
  have HF2 := zH (HF1.out.gr hg2 hB1)
  clear hb2 hg2 KB HG1 HZ1 HX1 HF1 hc2
  obtain ⟨hsz, z0, z1, z2, z3, z4, fz⟩ := HZ2.out
  obtain ⟨hsz5, f0, f1, f2, f3, f4, ffz⟩ := HF2.out
  have hs12 : w1.heap.size <= w2.heap.size := HX2.out.size
  have hnd1 := HD1.out.ns
  have HND2 := zH (NS.keep (zL _) (keptF_gr HX2.out (Nat.lt_succ_of_lt hgl)) hnd1)
  have hnw := HD1.out.wn
  have hcase : x = 0 \/ x = 1 \/ x = 2 \/ x = 3 \/ x = 4 \/ (5 <= x /\ x < 12) := by omega
  clear hx0 hx1 hnd1
  rcases hcase with rfl | rfl | rfl | rfl | rfl | hx
  · have hb9 : Below w1.heap.size w2 (w2.setCell ⟨w1.heap.size, 2, none⟩ (.int .i64 (wrap64 (n + 1)))) := (zB w1.heap.size w2).setCell (p := ⟨w1.heap.size, 2, none⟩) (zL _) _
    have hnd9 := NS.keep (lo := w.heap.size + 1) (zL _) (keptF_gr (gr_low HX2.out hb9) (Nat.lt_succ_of_lt hgl)) HD1.out.ns
    have HND : Hid (NS (w.heap.size + 1) (w2.setCell ⟨w1.heap.size, 2, none⟩ (.int .i64 (wrap64 (n + 1)))) (E.mk k t (wrap64 (n + 1)) ns (trees L)) (.slice xa xl xc) (.slice ya yl yc)) := by
      have h1 := zaw.1 hnd9.1
      exact zH ⟨zaw.2 ⟨h1.1, wrap64_wf _, h1.2.2.1, h1.2.2.2.1, h1.2.2.2.2⟩, soft_other hnd9.2⟩
    have HFIN := zH (bent_put5 (W := 900) HND.out (cur_low HC2.out hb9 hg1l) (gr_low HG2.out (hb9.mono (by omega))) hgl (by have h0 := HW1.out; rw [zau] at h0; rw [zau]; omega))
    clear hb9 hnd9
    go_wp2_with fail
    refine bodyPost_ret (v := .agg #[.int .i64 k, .string t, .int .i64 (wrap64 (n + 1)), .slice xa xl xc, .slice ya yl yc]) (by simp [results, Tryz.results36, go_sem, *]) rfl ?_
    exact HFIN.out
  · have KP := zH (pick_lit HC2.out (HBI.out.keep HG2.out) bends #[.string ⟨#[]⟩, .string ⟨#[99, 108, 97, 115, 115]⟩, .string ⟨#[97, 58]⟩, .string ⟨#[120]⟩] 4 rfl rfl (by decide) (by decide))
    go_wp2_with fail
    refine KP.out.mono ?_
    rintro r w3 ⟨s, hs, rfl, hc3, hb3, hg3⟩
    have hsl := bends_le s hs
    have HC3 := zH hc3
    have HG3 := zH (zab HG2.out hg3)
    have HX3 := zH (zab HX2.out hg3)
    obtain ⟨hsz, z0, z1, z2, z3, z4, fz⟩ := zam HZ2.out hg3 hne
    obtain ⟨hsz5, f0, f1, f2, f3, f4, ffz⟩ := HF2.out.gr hg3 hB1
    clear hs hc3 hb3 hg3 KP
    have hb9 : Below w1.heap.size w3 (w3.setCell ⟨w1.heap.size, 1, none⟩ (.string s)) := (zB w1.heap.size w3).setCell (p := ⟨w1.heap.size, 1, none⟩) (zL _) _
    have hnd9 := NS.keep (lo := w.heap.size + 1) (zL _) (keptF_gr (gr_low HX3.out hb9) (Nat.lt_succ_of_lt hgl)) HD1.out.ns
    have HND : Hid (NS (w.heap.size + 1) (w3.setCell ⟨w1.heap.size, 1, none⟩ (.string s)) (E.mk k s n ns (trees L)) (.slice xa xl xc) (.slice ya yl yc)) := by
      have h1 := zaw.1 hnd9.1
      exact zH ⟨zaw.2 ⟨h1.1, h1.2.1, by show s.size <= maxLen; unfold maxLen; omega, h1.2.2.2.1, h1.2.2.2.2⟩, soft_other hnd9.2⟩
    have HFIN := zH (bent_put5 (W := 900) HND.out (cur_low HC3.out hb9 hg1l) (gr_low HG3.out (hb9.mono (by omega))) hgl (by have h0 := HW1.out; rw [zau] at h0; rw [zau]; omega))
    clear hb9 hnd9
    go_wp2_with fail
    refine bodyPost_ret (v := .agg #[.int .i64 k, .string s, .int .i64 n, .slice xa xl xc, .slice ya yl yc]) (by simp [results, Tryz.results36, go_sem, *]) rfl ?_
    exact HFIN.out
  · have HOWN1 := zH (krow_own HD1.out.kr)
    have hba2 := zad w2 (.cells #[.int .i64 1, .string ⟨#[]⟩, .int .i64 0, .slice none 0 0, .slice none 0 0] 27)
    have hal : (w2.alloc (.cells #[.int .i64 1, .string ⟨#[]⟩, .int .i64 0, .slice none 0 0, .slice none 0 0] 27)).heap.size = w2.heap.size + 1 := by simp
    have HOA := zH (own_keep (own_gr HOWN1.out HX2.out (Nat.lt_succ_of_lt hgl)) hba2)
    have hL : L.length <= 900 := by have h0 := HW1.out; rw [zau] at h0; omega
    clear hba2
    go_wp2_with (at_builtin; go_must (refine wpList_append_own_at _ rfl _ _ 25 rfl (w.heap.size + 1) 27 i0 (.agg #[.int .i64 0, .string ByteArray.empty, .int .i64 0, .slice none 0 0, .slice none 0 0]) 5 80 Tryz.underlying25 hi hz0 hz1 hz2 rfl (by decide) _ L.length (row5 L) rfl HOA.out ⟨w2.heap.size, 0, none⟩ 1 1 (row5 [((E.mk 1 ⟨#[]⟩ 0 [] [], Value.slice none 0 0, Value.slice none 0 0) : Parser.Item)]) rfl rfl ?c1 ?c2 ?c3 ?c4 ?c5 ?_))
    case c1 => exact five_cells w2 ((E.mk 1 ⟨#[]⟩ 0 [] [], Value.slice none 0 0, Value.slice none 0 0) : Parser.Item) _
    case c2 => exact all_one (lo := 0) (w := w2) (L := [((E.mk 1 ⟨#[]⟩ 0 [] [], Value.slice none 0 0, Value.slice none 0 0) : Parser.Item)]) (fun y hy => by rw [List.mem_singleton.1 hy]; exact zaw.2 ⟨rfl, rfl, Nat.zero_le _, zas _ _, (Kids5.nil _ _).kids⟩)
    case c3 => unfold maxLen; omega
    case c4 => omega
    case c5 => rw [hal]; omega
    intro v5 w5 hown hgr hnn hat
    have hobl : ∀ b, (Value.slice ya yl yc).ownBlock = some b -> w.heap.size + 1 <= b /\ b < w1.heap.size := fun b hb => HOWN1.out.lt b hb
    have hold : ∀ b, b < w2.heap.size -> (Value.slice ya yl yc).ownBlock ≠ some b -> w5.heap[b]? = w2.heap[b]? := fun b hb hne => by
      rw [hgr.block b (by rw [hal]; omega) (fun e => hne e.symm), heap_alloc_old w2 _ hb]
    have hs5 : w2.heap.size <= w5.heap.size := by have := hgr.size; rw [hal] at this; omega
    have hb5 : Below (w.heap.size + 1) w2 w5 := app_low (by omega) (own_gr HOWN1.out HX2.out (Nat.lt_succ_of_lt hgl)) hgr
    have HF5 := zH (HF2.out.same hs5 (hold _ HF2.out.size fun e => by have := hobl _ e; omega))
    have HZ5 := zH (HZ2.out.low hb5 (Nat.lt_succ_self _))
    have HC5 := zH (cur_low HC2.out hb5 (Nat.lt_succ_of_lt hgl))
    have HG5 := zH (gr_low HG2.out (hb5.mono (Nat.le_succ _)))
    obtain ⟨va, vc, rfl⟩ := Kit.zax hown
    have hne5 : (Value.slice va (L.length + 1) vc).ownBlock ≠ some w1.heap.size := by
      rcases hat with e | e
      · rw [e]; intro e2; have := hobl _ e2; omega
      · rw [e]; intro e2; injection e2 with e2; omega
    have hb9 : Below w1.heap.size w5 (w5.setCell ⟨w1.heap.size, 4, none⟩ (.slice va (L.length + 1) vc)) := (zB w1.heap.size w5).setCell (p := ⟨w1.heap.size, 4, none⟩) (zL _) _
    have hownF : (w5.setCell ⟨w1.heap.size, 4, none⟩ (.slice va (L.length + 1) vc)).ownsRow (w.heap.size + 1) 27 5 (.slice va (L.length + 1) vc) (L.length + 1) (row5 L ++ row5 [((E.mk 1 ⟨#[]⟩ 0 [] [], Value.slice none 0 0, Value.slice none 0 0) : Parser.Item)]) := by
      refine hown.kept (row := some w1.heap.size) ⟨rfl, rfl, rfl, by simp [World.setCell], fun b _ hb => Below.heap_setCell _ _ _ _ (fun e => hb (by rw [show b = w1.heap.size from e]))⟩ (.inr hne5)
    have HND := zH (app_node (g := g) (F := w5.setCell ⟨w1.heap.size, 4, none⟩ (.slice va (L.length + 1) vc)) HD1.out (Nat.lt_succ_of_lt hgl) (fun b hb hbg hne => by
      rw [hb9.block b hb, hold b (by omega) hne, HX2.out.block b hb (by simpa using hbg)]) hownF)
    have HFIN := zH (bent_put5 (W := 900) HND.out (cur_low HC5.out hb9 hg1l) (gr_low HG5.out (hb9.mono (by omega))) hgl (by
      have h0 := HW1.out
      rw [zau] at h0
      rw [zau, trees_append, za1, List.length_append]
      have e1 : weights (trees [((E.mk 1 ⟨#[]⟩ 0 [] [], Value.slice none 0 0, Value.slice none 0 0) : Parser.Item)]) = 0 := rfl
      rw [e1]
      show _ + (L.length + 1 + _) <= _
      omega))
    obtain ⟨hsz, z0, z1, z2, z3, z4, fz⟩ := HZ5.out
    obtain ⟨hsz5, f0, f1, f2, f3, f4, ffz⟩ := HF5.out
    clear hown hgr hnn hat hobl hold hs5 hb5 hne5 hb9 hownF
    go_wp2_with fail
    refine bodyPost_ret (v := .agg #[.int .i64 k, .string t, .int .i64 n, .slice xa xl xc, .slice va (L.length + 1) vc]) (by simp [results, Tryz.results36, go_sem, *]) rfl ?_
    exact HFIN.out
  · have KP := zH (below_keep 11 (by decide) (by decide) HC2.out (HBI.out.keep HG2.out))
    go_wp2_with fail
    refine KP.out.mono ?_
    rintro r w3 ⟨y, rfl, hy0, hy1, hc3, hb3, hg3⟩
    have hyw : (Lit.int .i64 y).wf = true := by go_wf
    have HC3 := zH hc3
    have HG3 := zH (zab HG2.out hg3)
    have HX3 := zH (zab HX2.out hg3)
    obtain ⟨hsz, z0, z1, z2, z3, z4, fz⟩ := zam HZ2.out hg3 hne
    obtain ⟨hsz5, f0, f1, f2, f3, f4, ffz⟩ := HF2.out.gr hg3 hB1
    clear hc3 hb3 hg3 KP
    have hb9 : Below w1.heap.size w3 (w3.setCell ⟨w1.heap.size, 0, none⟩ (.int .i64 y)) := (zB w1.heap.size w3).setCell (p := ⟨w1.heap.size, 0, none⟩) (zL _) _
    have hnd9 := NS.keep (lo := w.heap.size + 1) (zL _) (keptF_gr (gr_low HX3.out hb9) (Nat.lt_succ_of_lt hgl)) HD1.out.ns
    have HND : Hid (NS (w.heap.size + 1) (w3.setCell ⟨w1.heap.size, 0, none⟩ (.int .i64 y)) (E.mk y t n ns (trees L)) (.slice xa xl xc) (.slice ya yl yc)) := by
      have h1 := zaw.1 hnd9.1
      exact zH ⟨zaw.2 ⟨hyw, h1.2.1, h1.2.2.1, h1.2.2.2.1, h1.2.2.2.2⟩, soft_other hnd9.2⟩
    have HFIN := zH (bent_put5 (W := 900) HND.out (cur_low HC3.out hb9 hg1l) (gr_low HG3.out (hb9.mono (by omega))) hgl (by have h0 := HW1.out; rw [zau] at h0; rw [zau]; omega))
    clear hb9 hnd9
    go_wp2_with fail
    refine bodyPost_ret (v := .agg #[.int .i64 y, .string t, .int .i64 n, .slice xa xl xc, .slice ya yl yc]) (by simp [results, Tryz.results36, go_sem, *]) rfl ?_
    exact HFIN.out
  · have HFIN := zH (bent_of (drawn_lit (W := 900) (g := g) (w := w) (w1 := w2) (k := 9) (t := ⟨#[]⟩) (L := [((E.mk k t n ns (trees L), Value.slice xa xl xc, Value.slice ya yl yc) : Parser.Item)]) #[.int .i64 k, .string t, .int .i64 n, .slice xa xl xc, .slice ya yl yc] rfl (by simp) (by simp) (by
      intro x hx
      simp only [List.mem_cons, List.not_mem_nil, or_false] at hx
      subst hx
      exact HND2.out) rfl (Nat.zero_le _) HZ2.out.size HC2.out HG2.out hgl (by
        rw [zau]
        have e1 : weights (trees [((E.mk k t n ns (trees L), Value.slice xa xl xc, Value.slice ya yl yc) : Parser.Item)]) = weight (.mk k t n ns (trees L)) + 0 := rfl
        have := HW1.out
        rw [e1]
        show 0 + (0 + 0) + (1 + _) <= _
        omega)))
    go_wp2_with fail
    refine bodyPost_ret (v := .agg #[.int .i64 9, .string ⟨#[]⟩, .int .i64 0, .slice none 0 0, .slice (some ⟨w2.heap.size, 0, none⟩) 1 1]) (by simp [results, Tryz.results36, go_sem, *]) rfl ?_
    exact HFIN.out
  · have HFIN := zH (bent_put5 (W := 900) HND2.out HC2.out HG2.out hgl (by have := HW1.out; omega))
    have t0 : (x == 0) = false := by rw [beq_eq_false_iff_ne]; omega
    have t1 : (x == 1) = false := by rw [beq_eq_false_iff_ne]; omega
    have t2 : (x == 2) = false := by rw [beq_eq_false_iff_ne]; omega
    have t3 : (x == 3) = false := by rw [beq_eq_false_iff_ne]; omega
    have t4 : (x == 4) = false := by rw [beq_eq_false_iff_ne]; omega
    clear hx
    go_wp2_with fail
    refine bodyPost_ret (v := .agg #[.int .i64 k, .string t, .int .i64 n, .slice xa xl xc, .slice ya yl yc]) (by simp [results, Tryz.results36, go_sem, *]) rfl ?_
    exact HFIN.out
set_option maxHeartbeats 1000000 in
theorem draws_tree (a : Option Addr) (len cap : Nat) (w : World) (hl : len <= 1048576) (hr : Raw w a len) :
    Calls Tryz.prog 8 #[.slice a len cap] w fun e w' => ∃ (t : E) (vn vk : Value), e = .returned (.agg #[.int .i64 t.kind, .string t.text, .int .i64 t.num, vn, vk]) /\ NS w.heap.size w' t vn vk /\ Below w.heap.size w w' /\ weight t <= 900 := by
  have hba := zad w (.cells #[.int .i64 0, .string ⟨#[]⟩, .int .i64 0, .slice none 0 0, .slice none 0 0] 27)
  have HZ0 := zH (zero_new w 27)
  have HBA := zH hba
  have HR := zH (hr.keep hba)
  clear hba hr
  go_enter Tryz.func8, Tryz.ntmps8
  go_wp2_with fail
  refine (new_any a len cap _ hl HR.out).mono ?_
  rintro e w1 ⟨rfl, hc1, hb1, hs1⟩
  have HB1 := zH hb1
  have HZ1 := zH (HZ0.out.step hb1)
  have KB := zH (bent_any _ a len cap w1 hc1 (HR.out.bytes hb1))
  clear hc1
  have hgB : (w.alloc (.cells #[.int .i64 0, .string ⟨#[]⟩, .int .i64 0, .slice none 0 0, .slice none 0 0] 27)).heap.size = w.heap.size + 1 := by simp
  rw [hgB] at hs1 KB ⊢
  have hs1' : w.heap.size + 1 < w1.heap.size := hs1
  clear hb1
  go_wp2_with fail
  refine KB.out.mono ?_
  rintro e w2 ⟨t, vn, vk, rfl, hn, hc2, hg2, hwt⟩
  obtain ⟨xa, xl, xc, ya, yl, yc, rfl, rfl⟩ := zaq hn.1
  have hb2 : Below (w.heap.size + 1) w1 w2 := (zB _ _).grown hg2 (by omega) (fun k hk => by injection hk with hk; omega)
  obtain ⟨hsz, z0, z1, z2, z3, z4, fz⟩ := HZ1.out.low hb2 (Nat.lt_succ_self _)
  have hkk := keptF_put5 w2 (show w.heap.size < w1.heap.size by omega) (.int .i64 t.kind) (.string t.text) (.int .i64 t.num) (.slice xa xl xc) (.slice ya yl yc)
  have HN := zH (NS.keep (lo := w.heap.size) (by omega) hkk hn)
  have hb3 := zah (zB w.heap.size w2) (B := w.heap.size) (zL _) (.int .i64 t.kind) (.string t.text) (.int .i64 t.num) (.slice xa xl xc) (.slice ya yl yc)
  have HB3 := zH ((HBA.out.trans ((HB1.out.mono (by rw [hgB]; omega)).trans (hb2.mono (by omega)))).trans hb3)
  have HWT := zH hwt
  clear hn hc2 hg2 hb2 hkk hb3 KB
  go_wp2_with fail
  refine bodyPost_ret (v := .agg #[.int .i64 t.kind, .string t.text, .int .i64 t.num, .slice xa xl xc, .slice ya yl yc]) (by simp [results, Tryz.results8, go_sem, *]) rfl ?_
  exact ⟨t, _, _, rfl, HN.out, HB3.out, HWT.out⟩
end DrawTree
end Go.Proofs.YtbigfeblomfflaaGreatDoor
