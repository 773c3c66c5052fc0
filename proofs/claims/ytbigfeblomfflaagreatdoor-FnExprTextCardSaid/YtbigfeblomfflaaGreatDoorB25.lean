/-
  WriteMsg WriteForm WriteCas
-/
import Derived.Test.YtbigfeblomfflaaGreatDoorB24
import Derived.Test.YtbigfeblomfflaaGreatDoorB15
import Derived.Test.YtbigfeblomfflaaGreatDoorB16
import Derived.StillTailTactics
namespace Go.Proofs.YtbigfeblomfflaaGreatDoor
namespace Wri
open Go.RowKit
open Strs Tree Bld Prn
def WP (w0 : World) (b : Nat) (e : E) : Prop := ∀ (l : List UInt8) (need : Nat) (w : World) (vn vk : Value), need <= 4 -> NodeAt 0 w0 e vn vk -> St w0 b l w -> l.length + (flat (Prn.part need e)).length <= 140737488355328 ->
  Calls Tryz.prog 38 #[.pointer (some ⟨b, 0, none⟩), .agg #[.int .i64 e.kind, .string e.text, .int .i64 e.num, vn, vk], .int .i64 (need : Int)] w (Wrote w0 b (l ++ flat (Prn.part need e)) w)
theorem zaq {lo : Nat} {w : World} {e : E} {vn vk : Value} (h : NodeAt lo w e vn vk) : ∃ a n c a' n' c', vn = .slice a n c /\ vk = .slice a' n' c' := by
  obtain ⟨-, -, -, ⟨a, c, h1, -⟩, a', c', h2, -⟩ := zaw.1 h
  exact ⟨a, _, c, a', _, c', h1, h2⟩
theorem zai (w : World) (k : Nat) : Below w.heap.size w (w.drewN k) := ⟨rfl, rfl, rfl, zL _, fun _ _ => rfl⟩
theorem box5 {k : Nat} {a0 a1 a2 a3 a4 : Value} {t : TypeId} {w : World} (h : Box k #[a0, a1, a2, a3, a4] t w) : w.cell? ⟨k, 0, none⟩ = some a0 /\ w.cell? ⟨k, 1, none⟩ = some a1 /\ w.cell? ⟨k, 2, none⟩ = some a2 /\ w.cell? ⟨k, 3, none⟩ = some a3 /\ w.cell? ⟨k, 4, none⟩ = some a4 := by
  refine ⟨?_, ?_, ?_, ?_, ?_⟩
  all_goals (rw [h.cell]; rfl)
set_option maxRecDepth 10000 in
set_option maxHeartbeats 4000000 in
theorem msg_none {w0 : World} {b : Nat} {l : List UInt8} {w : World} (h : St w0 b l w) (k n : Int) (t : ByteArray) (a : Option Addr) (p c : Nat) (a' : Option Addr) (c' : Nat) (hlen : l.length + t.data.toList.length <= 140737488355328) :
    Calls Tryz.prog 132 #[.agg #[.int .i64 k, .string t, .int .i64 n, .slice a p c, .slice a' 0 c'], .pointer (some ⟨b, 0, none⟩)] w (Wrote w0 b (l ++ t.data.toList) w) := by
  have hba : Below w.heap.size w (w.alloc (.cells #[.int .i64 k, .string t, .int .i64 n, .slice a p c, .slice a' 0 c'] 169)) := (zB _ _).alloc (zL _) _
  have HA := zH hba
  have KP := zH (put_str (h.below hba) t (by rw [<- Tok.zaa]; exact hlen))
  clear h hba
  go_enter Tryz.func132, Tryz.ntmps132
  go_wp2_with fail
  refine KP.out.mono ?_
  rintro e w2 ⟨rfl, hs2, hf2⟩
  go_wp2_with fail
  go_end0
  exact ⟨rfl, hs2, (Fr.of_below HA.out).trans hf2⟩
set_option maxRecDepth 10000 in
set_option maxHeartbeats 8000000 in
theorem msg_args {w0 : World} {b : Nat} {l : List UInt8} {w : World} (hM : Strs.Max w0) (h : St w0 b l w) (k n : Int) (t : ByteArray) (a : Option Addr) (p c : Nat) (vk : Value) (us : List E) (hus : KidsAt 0 w0 us vk) (ht : t.size <= 1048576)
    (hc : (us.length : Int) = Tok.countArgs t) (h0 : 0 < us.length) (hw : ∀ u ∈ us, WP w0 b u) (hlen : l.length + (flat (msgX t (us.map fm))).length <= 140737488355328) :
    Calls Tryz.prog 132 #[.agg #[.int .i64 k, .string t, .int .i64 n, .slice a p c, vk], .pointer (some ⟨b, 0, none⟩)] w (Wrote w0 b (l ++ flat (msgX t (us.map fm))) w) := by
  obtain ⟨a', cap, rfl, hm, hcell⟩ := hus
  obtain ⟨kb, off, rfl, -, hrow⟩ := hcell h0
  have HROW : Hid (∀ (i : Nat) (e : E), us[i]? = some e -> Spot 0 w0 kb (off + i * 5) e) := by
    refine zH fun i e he => ?_
    obtain ⟨hi, rfl⟩ := List.getElem?_eq_some_iff.1 he
    exact (row_iff us off).1 hrow i hi
  have hpl := parts_len t us.length hc h0
  rw [flat_msg t us hc h0] at hlen ⊢
  have hba : Below w.heap.size w (w.alloc (.cells #[.int .i64 k, .string t, .int .i64 n, .slice a p c, .slice (some ⟨kb, off, none⟩) us.length cap] 169)) := (zB _ _).alloc (zL _) _
  have HA := zH hba
  have HS := zH (h.below hba)
  have hbw := h.lt
  have hbx := Box.new w #[.int .i64 k, .string t, .int .i64 n, .slice a p c, .slice (some ⟨kb, off, none⟩) us.length cap] 169 (by decide)
  have HBX := zH hbx
  have HMX := zH ((hM.keep h.base).keep hba)
  have KSP := fun w hM => zH (split_after t w hM ht _ (after_sel t us.length hc h0))
  have KN := fun w => zH (Form.need_arg t w)
  have HWP := zH hw
  unfold maxLen at hm
  have hlp := argsL_len (Form.argNeed t) (partsOf t) us hpl
  have HAT : Hid (∀ (i : Nat) (e : E) (x : ByteArray), us[i]? = some e -> (partsOf t)[i]? = some x -> (argsL (Form.argNeed t) (partsOf t) us)[i]? = some (x.data.toList ++ 32 :: flat (Prn.part (Form.argNeed t) e))) := by
    refine zH fun i e x he hx => ?_
    obtain ⟨hi, rfl⟩ := List.getElem?_eq_some_iff.1 he
    obtain ⟨hj, rfl⟩ := List.getElem?_eq_some_iff.1 hx
    exact argsL_get _ _ us hpl i hi
  have hple : (partsOf t).length <= 1048577 := by
    unfold partsOf
    rcases sel_cases t us.length hc with ⟨hb, hn⟩ | ⟨hb, hn, hx⟩ | ⟨hb, hn, h0, hx⟩
    · rw [if_pos hb]; simp
    · omega
    · rw [if_neg (by rw [hb]; decide)]; have := keys_size t hx; simp; omega
  clear h hba hw hrow hcell hbx hM
  generalize hps : partsOf t = ps at *
  have hnd4 : Form.argNeed t <= 4 := by unfold Form.argNeed; split <;> omega
  generalize hnd : Form.argNeed t = nd at *
  clear hps hnd
  generalize hXX : argsL nd ps us = XX at *
  have HXX := zH hXX; clear hXX
  generalize hN : us.length = N at *
  have HN := zH hN; clear hN
  generalize hPN : ps.length = PN at *
  have HPN := zH hPN; clear hPN
  have HLEN := zH hlen; clear hlen
  clear hc
  have tz : ((N : Int) == 0) = false := by rw [beq_eq_false_iff_ne]; omega
  go_enter Tryz.func132, Tryz.ntmps132
  go_wp2_with fail
  refine (KSP _ HMX.out).out.mono ?_
  rintro e w1 ⟨rfl, rfl⟩
  have hba1 : Below (w.heap.size + 1) (w.alloc (.cells #[.int .i64 k, .string t, .int .i64 n, .slice a p c, .slice (some ⟨kb, off, none⟩) N cap] 169)) ((w.alloc (.cells #[.int .i64 k, .string t, .int .i64 n, .slice a p c, .slice (some ⟨kb, off, none⟩) N cap] 169)).alloc (.cells (ps.map Value.string).toArray 9)) := (zB _ _).alloc (by simp) _
  have hsz1 : (w.alloc (.cells #[.int .i64 k, .string t, .int .i64 n, .slice a p c, .slice (some ⟨kb, off, none⟩) N cap] 169)).heap.size = w.heap.size + 1 := by simp
  have HS1 := zH (HS.out.below (by rw [hsz1]; exact hba1))
  have HBX1 := zH (HBX.out.below (by rw [hsz1]; exact hba1))
  have HBP1 := zH (Box.new (w.alloc (.cells #[.int .i64 k, .string t, .int .i64 n, .slice a p c, .slice (some ⟨kb, off, none⟩) N cap] 169)) (ps.map Value.string).toArray 9 (by decide))
  have HA1 := zH ((Fr.of_below (b := b) HA.out).below (by rw [hsz1]; exact hba1))
  clear hba1
  generalize (w.alloc (.cells #[.int .i64 k, .string t, .int .i64 n, .slice a p c, .slice (some ⟨kb, off, none⟩) N cap] 169)).alloc (.cells (ps.map Value.string).toArray 9) = w1 at *
  rw [hsz1] at HBP1 ⊢
  have hb1 := box5 HBX1.out
  obtain ⟨f0, f1, f2, f3, f4⟩ := hb1
  go_wp2_with fail
  go_loopw [21] (fun j wr => ∃ i : Nat, i <= N /\ j = .int .i64 i /\ St w0 b (l ++ up [32] XX i) wr /\ Fr b w1 wr /\ Box w.heap.size #[.int .i64 k, .string t, .int .i64 n, .slice a p c, .slice (some ⟨kb, off, none⟩) N cap] 169 wr /\ Box (w.heap.size + 1) (ps.map Value.string).toArray 9 wr) (fun j _ => N - (intOf j).toNat)
  case atStart => exact ⟨0, Nat.zero_le _, rfl, by rw [up_zero, List.append_nil]; exact HS1.out, Fr.refl _ _, HBX1.out, HBP1.out⟩
  case round =>
    clear f0 f1 f2 f3 f4 HBX1 HBP1 HS1
    obtain ⟨i, hi, rfl, hst, hfr, hbx, hbp⟩ := hrel
    obtain ⟨f0, f1, f2, f3, f4⟩ := box5 hbx
    have HST := zH hst
    have HFR := zH hfr
    have HBX := zH hbx
    have HBP := zH hbp
    clear hst hfr hbx hbp
    by_cases hlt : i < N
    · obtain ⟨e, hue⟩ : ∃ e, us[i]? = some e := ⟨us[i]'(by rw [HN.out]; exact hlt), List.getElem?_eq_getElem _⟩
      obtain ⟨x, hpx⟩ : ∃ x, ps[i]? = some x := ⟨ps[i]'(by rw [HPN.out]; omega), List.getElem?_eq_getElem _⟩
      obtain ⟨xn, xk, d0, d1, d2, d3, d4, hnode⟩ := HROW.out i e hue
      have c0 := cell_keep HST.out.base d0
      have c1 := cell_keep HST.out.base d1
      have c2 := cell_keep HST.out.base d2
      have c3 := cell_keep HST.out.base d3
      have c4 := cell_keep HST.out.base d4
      have hpc : wr.cell? ⟨w.heap.size + 1, i, none⟩ = some (.string x) := by
        rw [HBP.out.cell]; simp [hpx]
      have HAE := HAT.out i e x hue hpx
      have HW := HWP.out e (List.mem_of_getElem? hue)
      obtain ⟨xa, xl, xc, ya, yl, yc, rfl, rfl⟩ := zaq hnode
      clear d0 d1 d2 d3 d4
      have hba5 : Below wr.heap.size wr (wr.alloc (.cells #[.int .i64 e.kind, .string e.text, .int .i64 e.num, .slice xa xl xc, .slice ya yl yc] 27)) := (zB _ _).alloc (zL _) _
      have hpc5 := cell_keep hba5 hpc
      have HBE5 := zH (Box.new wr #[.int .i64 e.kind, .string e.text, .int .i64 e.num, .slice xa xl xc, .slice ya yl yc] 27 (by decide))
      have HBX5 := zH (HBX.out.below hba5)
      have HBP5 := zH (HBP.out.below hba5)
      have HST5 := zH (HST.out.below hba5)
      have HFR5 := zH (HFR.out.below hba5)
      have hbb : b < wr.heap.size := HST.out.lt.2
      have hbn : b ≠ wr.heap.size := by omega
      clear hba5
      have HLE := zH (show l.length + (up [32] XX (i + 1)).length <= 140737488355328 by
        have h1 := up_le [32] XX (i + 1)
        rw [hlp] at h1
        have h2 := HLEN.out
        omega)
      rcases Nat.eq_zero_or_pos i with hi0 | hip
      · have HU : Hid (up [32] XX (i + 1) = up [32] XX i ++ (x.data.toList ++ 32 :: flat (Prn.part nd e))) := by
          rw [hi0] at HAE ⊢
          exact zH (by rw [up_first (sep := [32]) HAE, up_zero]; rfl)
        have ti : decide (0 < i) = false := by rw [decide_eq_false_iff_not]; omega
        rw [HU.out] at HLE
        clear HAE hi0
        have KX := zH (put_str HST5.out x (by have := HLE.out; rw [<- Tok.zaa]; simp at this ⊢; omega))
        go_wp2_with fail
        refine KX.out.mono ?_
        rintro r w3 ⟨rfl, hs3, hf3⟩
        have HS3 := zH hs3
        have HF3 := zH hf3
        clear hs3 hf3
        have KY := zH (put_byte HS3.out 32 (by have := HLE.out; simp at this ⊢; omega))
        go_wp2_with fail
        refine KY.out.mono ?_
        rintro r w4 ⟨rfl, hs4, hf4⟩
        have HS4 := zH hs4
        have HF4 := zH (HF3.out.trans hf4)
        have HBX4 := zH (HBX5.out.fr HF4.out (by omega))
        have HBE4 := zH (HBE5.out.fr HF4.out (fun h => hbn h.symm))
        have HBP4 := zH (HBP5.out.fr HF4.out (by omega))
        obtain ⟨g0, g1, g2, g3, g4⟩ := box5 HBX4.out
        obtain ⟨k0, k1, k2, k3, k4⟩ := box5 HBE4.out
        clear hs4 hf4
        go_wp2_with fail
        have KW := fun w1 (h : St w0 b (l ++ up [32] XX i ++ x.data.toList ++ [32]) w1) => zH (HW _ nd w1 _ _ hnd4 hnode h (by have := HLE.out; simp at this ⊢; omega))
        go_region_with (first
          | (go_at_call 179
             refine (KN _).out.mono ?_
             rintro r w5 ⟨rfl, hb5⟩
             have hb5' : Below w4.heap.size w4 w5 := ⟨hb5.os, hb5.tape, hb5.output, hb5.size, hb5.block⟩
             have HS5 := zH (HS4.out.below hb5')
             have HBX5b := zH (HBX4.out.below hb5')
             have HBE5b := zH (HBE4.out.below hb5')
             have HBP5b := zH (HBP4.out.below hb5')
             have HF5 := zH (HF4.out.below hb5')
             obtain ⟨g0, g1, g2, g3, g4⟩ := box5 HBX5b.out
             obtain ⟨k0, k1, k2, k3, k4⟩ := box5 HBE5b.out
             clear hb5 hb5')
          | (go_at_call 38
             refine (KW _ (by first | exact HS5.out | exact HS5.out.below (zai _ _))).out.mono ?_
             rintro r w6 ⟨rfl, hs6, hf6⟩
             have hf6' := HF5.out.trans (show Fr b w5 w6 from ⟨hf6.os, hf6.tape, hf6.output, hf6.size, hf6.block⟩)
             have HS6 := zH hs6
             have HF6 := zH (HFR5.out.trans hf6')
             have HBX6 := zH (HBX5.out.fr hf6' (by omega))
             have HBP6 := zH (HBP5.out.fr hf6' (by omega))
             clear hs6 hf6 hf6'))
        all_goals
          go_wp2_with fail
          go_roundw
          case rel =>
            refine ⟨i + 1, hlt, by go_num, ?_, HF6.out, HBX6.out, HBP6.out⟩
            rw [HU.out]
            have := HS6.out
            simpa using this
          case measure => simp [intOf]; omega
      · have HU : Hid (up [32] XX (i + 1) = up [32] XX i ++ ([32] ++ (x.data.toList ++ 32 :: flat (Prn.part nd e)))) := zH (up_next hip HAE)
        have ti : decide (0 < i) = true := by rw [decide_eq_true_eq]; omega
        rw [HU.out] at HLE
        clear HAE
        have KZ := zH (put_byte HST5.out 32 (by have := HLE.out; simp at this ⊢; omega))
        go_wp2_with fail
        refine KZ.out.mono ?_
        rintro r w2 ⟨rfl, hs2, hf2⟩
        have HS2 := zH hs2
        have HF2 := zH hf2
        have HBP2 := zH (HBP5.out.fr hf2 (by omega))
        have hpc2 : w2.cell? ⟨w.heap.size + 1, i, none⟩ = some (.string x) := by
          rw [HBP2.out.cell]; simp [hpx]
        clear hs2 hf2
        have KX := zH (put_str HS2.out x (by have := HLE.out; rw [<- Tok.zaa]; simp at this ⊢; omega))
        go_wp2_with fail
        refine KX.out.mono ?_
        rintro r w3 ⟨rfl, hs3, hf3⟩
        have HS3 := zH hs3
        have HF3 := zH (HF2.out.trans hf3)
        clear hs3 hf3
        have KY := zH (put_byte HS3.out 32 (by have := HLE.out; simp at this ⊢; omega))
        go_wp2_with fail
        refine KY.out.mono ?_
        rintro r w4 ⟨rfl, hs4, hf4⟩
        have HS4 := zH hs4
        have HF4 := zH (HF3.out.trans hf4)
        have HBX4 := zH (HBX5.out.fr HF4.out (by omega))
        have HBE4 := zH (HBE5.out.fr HF4.out (fun h => hbn h.symm))
        have HBP4 := zH (HBP5.out.fr HF4.out (by omega))
        obtain ⟨g0, g1, g2, g3, g4⟩ := box5 HBX4.out
        obtain ⟨k0, k1, k2, k3, k4⟩ := box5 HBE4.out
        clear hs4 hf4
        go_wp2_with fail
        have KW := fun w1 (h : St w0 b (l ++ up [32] XX i ++ [32] ++ x.data.toList ++ [32]) w1) => zH (HW _ nd w1 _ _ hnd4 hnode h (by have := HLE.out; simp at this ⊢; omega))
        go_region_with (first
          | (go_at_call 179
             refine (KN _).out.mono ?_
             rintro r w5 ⟨rfl, hb5⟩
             have hb5' : Below w4.heap.size w4 w5 := ⟨hb5.os, hb5.tape, hb5.output, hb5.size, hb5.block⟩
             have HS5 := zH (HS4.out.below hb5')
             have HBX5b := zH (HBX4.out.below hb5')
             have HBE5b := zH (HBE4.out.below hb5')
             have HBP5b := zH (HBP4.out.below hb5')
             have HF5 := zH (HF4.out.below hb5')
             obtain ⟨g0, g1, g2, g3, g4⟩ := box5 HBX5b.out
             obtain ⟨k0, k1, k2, k3, k4⟩ := box5 HBE5b.out
             clear hb5 hb5')
          | (go_at_call 38
             refine (KW _ (by first | exact HS5.out | exact HS5.out.below (zai _ _))).out.mono ?_
             rintro r w6 ⟨rfl, hs6, hf6⟩
             have hf6' := HF5.out.trans (show Fr b w5 w6 from ⟨hf6.os, hf6.tape, hf6.output, hf6.size, hf6.block⟩)
             have HS6 := zH hs6
             have HF6 := zH (HFR5.out.trans hf6')
             have HBX6 := zH (HBX5.out.fr hf6' (by omega))
             have HBP6 := zH (HBP5.out.fr hf6' (by omega))
             clear hs6 hf6 hf6'))
        all_goals
          go_wp2_with fail
          go_roundw
          case rel =>
            refine ⟨i + 1, hlt, by go_num, ?_, HF6.out, HBX6.out, HBP6.out⟩
            rw [HU.out]
            have := HS6.out
            simpa using this
          case measure => simp [intOf]; omega
    · have hiN : i = N := by omega
      have HIN := zH hiN
      clear hiN
      go_wp2_with fail
      go_end0
      exact ⟨rfl, by have := HST.out; rw [HIN.out] at this; exact this, HA1.out.trans HFR.out⟩
end Wri
namespace Wri
open Go.RowKit
open Strs Tree Bld Prn
theorem kid_one {w0 : World} {e : E} {us : List E} {vk : Value} (h : KidsAt 0 w0 (e :: us) vk) : ∃ kb off cap xa xl xc ya yl yc, vk = .slice (some ⟨kb, off, none⟩) (us.length + 1) cap /\ us.length + 1 <= cap /\ cap <= 9223372036854775807 /\
    w0.cell? ⟨kb, off, none⟩ = some (.int .i64 e.kind) /\ w0.cell? ⟨kb, off + 1, none⟩ = some (.string e.text) /\ w0.cell? ⟨kb, off + 2, none⟩ = some (.int .i64 e.num) /\ w0.cell? ⟨kb, off + 3, none⟩ = some (.slice xa xl xc) /\ w0.cell? ⟨kb, off + 4, none⟩ = some (.slice ya yl yc) /\ NodeAt 0 w0 e (.slice xa xl xc) (.slice ya yl yc) /\
    KidsAt 0 w0 us (.slice (if cap = 1 then some ⟨kb, off, none⟩ else some ⟨kb, off + 5, none⟩) us.length (cap - 1)) := by
  obtain ⟨a, cap, rfl, hm, hc⟩ := h
  obtain ⟨kb, off, rfl, -, hr⟩ := hc (by simp)
  rw [Row] at hr
  obtain ⟨⟨xn, xk, d0, d1, d2, d3, d4, hn⟩, hr⟩ := hr
  obtain ⟨xa, xl, xc, ya, yl, yc, rfl, rfl⟩ := zaq hn
  have hm' : us.length + 1 <= cap /\ cap <= 9223372036854775807 := by
    have := hm; rw [List.length_cons] at this; unfold maxLen at this; omega
  exact ⟨kb, off, cap, xa, xl, xc, ya, yl, yc, rfl, hm'.1, hm'.2, d0, d1, d2, d3, d4, hn, _, _, rfl, ⟨by omega, by unfold maxLen; omega⟩, fun h0 => ⟨kb, off + 5, if_neg (by omega), Nat.zero_le _, hr⟩⟩
theorem kid_single {w0 : World} {e : E} {vk : Value} (h : KidsAt 0 w0 [e] vk) : ∃ kb off cap xa xl xc ya yl yc, vk = .slice (some ⟨kb, off, none⟩) 1 cap /\ 1 <= cap /\ cap <= 9223372036854775807 /\
    w0.cell? ⟨kb, off, none⟩ = some (.int .i64 e.kind) /\ w0.cell? ⟨kb, off + 1, none⟩ = some (.string e.text) /\ w0.cell? ⟨kb, off + 2, none⟩ = some (.int .i64 e.num) /\ w0.cell? ⟨kb, off + 3, none⟩ = some (.slice xa xl xc) /\ w0.cell? ⟨kb, off + 4, none⟩ = some (.slice ya yl yc) /\ NodeAt 0 w0 e (.slice xa xl xc) (.slice ya yl yc) := by
  obtain ⟨kb, off, cap, xa, xl, xc, ya, yl, yc, h0, h1, h2, d0, d1, d2, d3, d4, hn, -⟩ := kid_one h
  exact ⟨kb, off, cap, xa, xl, xc, ya, yl, yc, h0, h1, h2, d0, d1, d2, d3, d4, hn⟩
theorem part_zero (e : E) : Prn.part 0 e = px e := if_neg (by omega)
set_option maxRecDepth 10000 in
set_option maxHeartbeats 4000000 in
theorem assign_write {w0 : World} {b : Nat} {l : List UInt8} {w : World} (h : St w0 b l w) (n : Int) (t : ByteArray) (a : Option Addr) (p c : Nat) (vk : Value) (e : E) (hk : KidsAt 0 w0 [e] vk) (hw : WP w0 b e)
    (hlen : l.length + (t.data.toList ++ ([32, 58, 61, 32] ++ flat (px e))).length <= 140737488355328) :
    Calls Tryz.prog 300 #[.agg #[.int .i64 5, .string t, .int .i64 n, .slice a p c, vk], .pointer (some ⟨b, 0, none⟩)] w (Wrote w0 b (l ++ (t.data.toList ++ ([32, 58, 61, 32] ++ flat (px e)))) w) := by
  obtain ⟨kb, off, cap, xa, xl, xc, ya, yl, yc, rfl, hc1, hc2, d0, d1, d2, d3, d4, hnode⟩ := kid_single hk
  have hba : Below w.heap.size w (w.alloc (.cells #[.int .i64 5, .string t, .int .i64 n, .slice a p c, .slice (some ⟨kb, off, none⟩) 1 cap] 190)) := (zB _ _).alloc (zL _) _
  have HA := zH (Fr.of_below (b := b) hba)
  have HBX := zH (Box.new w #[.int .i64 5, .string t, .int .i64 n, .slice a p c, .slice (some ⟨kb, off, none⟩) 1 cap] 190 (by decide))
  have HLE := zH hlen
  have hbw := h.lt
  have K1 := zH (put_str (h.below hba) t (by rw [<- Tok.zaa]; simp at hlen ⊢; omega))
  have D := zH (And.intro d0 (And.intro d1 (And.intro d2 (And.intro d3 d4))))
  clear h hba hlen d0 d1 d2 d3 d4 hk
  go_enter Tryz.func300, Tryz.ntmps300
  go_wp2_with fail
  refine K1.out.mono ?_
  rintro r w1 ⟨rfl, hs1, hf1⟩
  have HF1 := zH hf1
  have K2 := zH (put_str hs1 ⟨#[32, 58, 61, 32]⟩ (by have := HLE.out; rw [<- Tok.zaa]; show _ + [32, 58, 61, 32].length <= _; simp at this ⊢; omega))
  clear hs1 hf1
  go_wp2_with fail
  refine K2.out.mono ?_
  rintro r w2 ⟨rfl, hs2, hf2⟩
  have HF2 := zH (HF1.out.trans hf2)
  have HS2 := zH hs2
  obtain ⟨g0, g1, g2, g3, g4⟩ := box5 (HBX.out.fr HF2.out (by omega))
  have c0 := cell_keep hs2.base D.out.1
  have c1 := cell_keep hs2.base D.out.2.1
  have c2 := cell_keep hs2.base D.out.2.2.1
  have c3 := cell_keep hs2.base D.out.2.2.2.1
  have c4 := cell_keep hs2.base D.out.2.2.2.2
  have KW := fun w h => zH (hw (l ++ t.data.toList ++ [32, 58, 61, 32]) 0 w _ _ (by omega) hnode h (by have := HLE.out; rw [part_zero]; simp at this ⊢; omega))
  rw [part_zero] at KW
  clear hs2 hf2
  go_wp2_with fail
  refine (KW _ HS2.out).out.mono ?_
  rintro r w3 ⟨rfl, hs3, hf3⟩
  go_wp2_with fail
  go_end0
  exact ⟨rfl, by simpa using hs3, (HA.out.trans HF2.out).trans hf3⟩
set_option maxRecDepth 10000 in
set_option maxHeartbeats 4000000 in
theorem return_write {w0 : World} {b : Nat} {l : List UInt8} {w : World} (h : St w0 b l w) (n : Int) (t : ByteArray) (a : Option Addr) (p c : Nat) (vk : Value) (e : E) (hk : KidsAt 0 w0 [e] vk) (hw : WP w0 b e)
    (hlen : l.length + ([94, 32] ++ flat (px e)).length <= 140737488355328) :
    Calls Tryz.prog 305 #[.agg #[.int .i64 9, .string t, .int .i64 n, .slice a p c, vk], .pointer (some ⟨b, 0, none⟩)] w (Wrote w0 b (l ++ ([94, 32] ++ flat (px e))) w) := by
  obtain ⟨kb, off, cap, xa, xl, xc, ya, yl, yc, rfl, hc1, hc2, d0, d1, d2, d3, d4, hnode⟩ := kid_single hk
  have hba : Below w.heap.size w (w.alloc (.cells #[.int .i64 9, .string t, .int .i64 n, .slice a p c, .slice (some ⟨kb, off, none⟩) 1 cap] 194)) := (zB _ _).alloc (zL _) _
  have HA := zH (Fr.of_below (b := b) hba)
  have HBX := zH (Box.new w #[.int .i64 9, .string t, .int .i64 n, .slice a p c, .slice (some ⟨kb, off, none⟩) 1 cap] 194 (by decide))
  have HLE := zH hlen
  have hbw := h.lt
  have K1 := zH (put_str (h.below hba) ⟨#[94, 32]⟩ (by rw [<- Tok.zaa]; show _ + [94, 32].length <= _; simp at hlen ⊢; omega))
  have D := zH (And.intro d0 (And.intro d1 (And.intro d2 (And.intro d3 d4))))
  clear h hba hlen d0 d1 d2 d3 d4 hk
  go_enter Tryz.func305, Tryz.ntmps305
  go_wp2_with fail
  refine K1.out.mono ?_
  rintro r w2 ⟨rfl, hs2, hf2⟩
  have HF2 := zH hf2
  have HS2 := zH hs2
  obtain ⟨g0, g1, g2, g3, g4⟩ := box5 (HBX.out.fr HF2.out (by omega))
  have c0 := cell_keep hs2.base D.out.1
  have c1 := cell_keep hs2.base D.out.2.1
  have c2 := cell_keep hs2.base D.out.2.2.1
  have c3 := cell_keep hs2.base D.out.2.2.2.1
  have c4 := cell_keep hs2.base D.out.2.2.2.2
  have KW := fun w h => zH (hw (l ++ [94, 32]) 0 w _ _ (by omega) hnode h (by have := HLE.out; rw [part_zero]; simp at this ⊢; omega))
  rw [part_zero] at KW
  clear hs2 hf2
  go_wp2_with fail
  refine (KW _ HS2.out).out.mono ?_
  rintro r w3 ⟨rfl, hs3, hf3⟩
  go_wp2_with fail
  go_end0
  exact ⟨rfl, by simpa using hs3, (HA.out.trans HF2.out).trans hf3⟩
def WM (w0 : World) (b : Nat) (t : ByteArray) (us : List E) : Prop := ∀ (l : List UInt8) (w : World) (k n : Int) (a : Option Addr) (p c : Nat) (vk : Value), KidsAt 0 w0 us vk -> St w0 b l w -> l.length + (flat (msgX t (us.map fm))).length <= 140737488355328 ->
  Calls Tryz.prog 132 #[.agg #[.int .i64 k, .string t, .int .i64 n, .slice a p c, vk], .pointer (some ⟨b, 0, none⟩)] w (Wrote w0 b (l ++ flat (msgX t (us.map fm))) w)
theorem msg_any {w0 : World} {b : Nat} (hM : Strs.Max w0) (t : ByteArray) (us : List E) (ht : t.size <= 1048576) (hc : (us.length : Int) = Tok.countArgs t) (hw : ∀ u ∈ us, WP w0 b u) : WM w0 b t us := by
  intro l w k n a p c vk hus h hlen
  cases us with
  | nil =>
    obtain ⟨a', cap, rfl, -, -⟩ := hus
    rw [List.map_nil, flat_msg_none] at hlen ⊢
    exact msg_none h k n t a p c a' cap hlen
  | cons u us => exact msg_args hM h k n t a p c vk (u :: us) hus ht hc (by simp) hw hlen
set_option maxRecDepth 10000 in
set_option maxHeartbeats 8000000 in
theorem send_write {w0 : World} {b : Nat} {l : List UInt8} {w : World} (h : St w0 b l w) (n : Int) (t : ByteArray) (ht : t.size <= 1048576) (a : Option Addr) (p c : Nat) (vk : Value) (e : E) (us : List E) (hk : KidsAt 0 w0 (e :: us) vk) (hw : WP w0 b e) (hm : WM w0 b t us)
    (hlen : l.length + (flat (Prn.part (recvNeed t) e) ++ ([32] ++ flat (msgX t (us.map fm)))).length <= 140737488355328) :
    Calls Tryz.prog 301 #[.agg #[.int .i64 6, .string t, .int .i64 n, .slice a p c, vk], .pointer (some ⟨b, 0, none⟩)] w (Wrote w0 b (l ++ (flat (Prn.part (recvNeed t) e) ++ ([32] ++ flat (msgX t (us.map fm))))) w) := by
  obtain ⟨kb, off, cap, xa, xl, xc, ya, yl, yc, rfl, hc1, hc2, d0, d1, d2, d3, d4, hnode, htail⟩ := kid_one hk
  have hba : Below w.heap.size w (w.alloc (.cells #[.int .i64 6, .string t, .int .i64 n, .slice a p c, .slice (some ⟨kb, off, none⟩) (us.length + 1) cap] 191)) := (zB _ _).alloc (zL _) _
  have HA := zH (Fr.of_below (b := b) hba)
  have HS := zH (h.below hba)
  have HBX := zH (Box.new w #[.int .i64 6, .string t, .int .i64 n, .slice a p c, .slice (some ⟨kb, off, none⟩) (us.length + 1) cap] 191 (by decide))
  have HLE := zH hlen
  have hbw := h.lt
  have c0 := cell_keep (h.below hba).base d0
  have c1 := cell_keep (h.below hba).base d1
  have c2 := cell_keep (h.below hba).base d2
  have c3 := cell_keep (h.below hba).base d3
  have c4 := cell_keep (h.below hba).base d4
  have D := zH (And.intro d0 (And.intro d1 (And.intro d2 (And.intro d3 d4))))
  have KN := fun w => zH (Form.need_recv t w ht)
  have hnd4 : recvNeed t <= 4 := by unfold recvNeed; split <;> omega
  generalize hnd : recvNeed t = nd at *
  clear hnd
  have KW := fun w h => zH (hw l nd w _ _ hnd4 hnode h (by have := HLE.out; simp at this ⊢; omega))
  have HM := fun (w : World) (h : St w0 b (l ++ flat (Prn.part nd e) ++ [32]) w) => zH (hm _ w 0 0 none 0 0 _ htail h (by have := HLE.out; simp at this ⊢; omega))
  clear h hlen d0 d1 d2 d3 d4 hk hw hm htail
  generalize hXP : flat (Prn.part nd e) = XP at *
  generalize hXM : flat (msgX t (us.map fm)) = XM at *
  clear hXP hXM
  generalize hN : us.length = N at *
  clear hN
  generalize hW1 : w.alloc (.cells #[.int .i64 6, .string t, .int .i64 n, .slice a p c, .slice (some ⟨kb, off, none⟩) (N + 1) cap] 191) = W1 at *
  have HW1 := zH hW1
  go_enter Tryz.func301, Tryz.ntmps301
  go_wp2_with fail
  obtain ⟨f0, f1, f2, f3, f4⟩ := box5 HBX.out
  go_region_held3 (fun w' => w'.cell? ⟨w.heap.size, 1, none⟩ = some (.string t) /\ w'.cell? ⟨w.heap.size, 4, none⟩ = some (.slice (some ⟨kb, off, none⟩) (N + 1) cap) /\ w'.cell? ⟨kb, off, none⟩ = some (.int .i64 e.kind) /\ w'.cell? ⟨kb, off + 1, none⟩ = some (.string e.text) /\ w'.cell? ⟨kb, off + 2, none⟩ = some (.int .i64 e.num) /\ w'.cell? ⟨kb, off + 3, none⟩ = some (.slice xa xl xc) /\ w'.cell? ⟨kb, off + 4, none⟩ = some (.slice ya yl yc))
    (first | exact ⟨f1, f4, c0, c1, c2, c3, c4⟩ | exact ⟨cell_keep hb5 f1, cell_keep hb5 f4, cell_keep hb5 c0, cell_keep hb5 c1, cell_keep hb5 c2, cell_keep hb5 c3, cell_keep hb5 c4⟩ | exact ⟨h6.1, h6.2.1, h6.2.2.1, h6.2.2.2.1, h6.2.2.2.2.1, h6.2.2.2.2.2.1, h6.2.2.2.2.2.2⟩ | go_keep)
    (first
      | (go_at_call 302
         refine (KN _).out.mono ?_
         rintro r w5 ⟨rfl, hb5⟩)
      | (go_at_call 38
         refine (KW _ (HS.out.below (show Below W1.heap.size W1 w5 from ⟨hb5.os, hb5.tape, hb5.output, hb5.size, hb5.block⟩))).out.mono ?_
         rintro r w6 ⟨rfl, hs6, hf6⟩
         have hb5' : Below W1.heap.size W1 w5 := ⟨hb5.os, hb5.tape, hb5.output, hb5.size, hb5.block⟩
         have HS6 := zH hs6
         have HF6 := zH ((Fr.of_below (b := b) hb5').trans hf6)
         have HBX6 := zH (HBX.out.fr HF6.out (by omega))
         have h6 : w6.cell? ⟨w.heap.size, 1, none⟩ = some (.string t) /\ w6.cell? ⟨w.heap.size, 4, none⟩ = some (.slice (some ⟨kb, off, none⟩) (N + 1) cap) /\ w6.cell? ⟨kb, off, none⟩ = some (.int .i64 e.kind) /\ w6.cell? ⟨kb, off + 1, none⟩ = some (.string e.text) /\ w6.cell? ⟨kb, off + 2, none⟩ = some (.int .i64 e.num) /\ w6.cell? ⟨kb, off + 3, none⟩ = some (.slice xa xl xc) /\ w6.cell? ⟨kb, off + 4, none⟩ = some (.slice ya yl yc) :=
           ⟨(box5 HBX6.out).2.1, (box5 HBX6.out).2.2.2.2, cell_keep hs6.base D.out.1, cell_keep hs6.base D.out.2.1, cell_keep hs6.base D.out.2.2.1, cell_keep hs6.base D.out.2.2.2.1, cell_keep hs6.base D.out.2.2.2.2⟩))
  have K2 := zH (put_byte HS6.out 32 (by have := HLE.out; simp at this ⊢; omega))
  clear f0 f1 f2 f3 f4 c0 c1 c2 c3 c4 hs6 hf6 hb5 hb5' h6
  go_wp2_with fail
  refine K2.out.mono ?_
  rintro r w7 ⟨rfl, hs7, hf7⟩
  have HS7 := zH hs7
  have HF7 := zH (HF6.out.trans hf7)
  have HBX7 := zH (HBX.out.fr HF7.out (by omega))
  obtain ⟨g0, g1, g2, g3, g4⟩ := box5 HBX7.out
  clear hs7 hf7
  go_wp2_with fail
  have t1 : (1 : Int) <= (N : Int) + 1 := by omega
  have t2 : (N : Int) + 1 <= (cap : Int) := by omega
  have HB7 := zH (zai w7 1)
  go_still_tail 7, (by kernel_rfl)
  change wpList _ _ _ _ _ w7.drew
  have HS8 := zH (HS7.out.below (zai w7 1))
  have HF8 := zH (HF7.out.below (zai w7 1))
  rw [show w7.drewN 1 = w7.drew from rfl] at HS8 HF8
  clear g0 g1 g2 g3 g4
  generalize w7.drew = w8 at *
  generalize (if cap = 1 then some (⟨kb, off, none⟩ : Addr) else some ⟨kb, off + 5, none⟩) = V at *
  go_wp2_with fail
  refine (HM _ HS8.out).out.mono ?_
  rintro r w9 ⟨rfl, hs9, hf9⟩
  have HS9 := zH hs9
  have HF9 := zH ((HA.out.trans HF8.out).trans hf9)
  clear hs9 hf9
  go_wp2_with fail
  go_end0
  exact ⟨rfl, by have := HS9.out; simpa using this, HF9.out⟩
end Wri
namespace Wri
open Go.RowKit
open Strs Tree Bld Prn
set_option maxRecDepth 10000 in
set_option maxHeartbeats 8000000 in
theorem cas_write {w0 : World} {b : Nat} {l : List UInt8} {w : World} (h : St w0 b l w) (n : Int) (t : ByteArray) (a : Option Addr) (p c : Nat) (vk : Value) (e m m2 : E) (ms : List E) (hk : KidsAt 0 w0 (e :: m :: m2 :: ms) vk) (hw : WP w0 b e) (hmt : m.text.size <= 1048576) (hm : ∀ x ∈ m :: m2 :: ms, WM w0 b x.text x.kids /\ pm x = msgX x.text (x.kids.map fm))
    (hlen : l.length + (flat (Prn.part (recvNeed m.text) e) ++ ([32] ++ up [59, 32] (msgsL (m :: m2 :: ms)) (m :: m2 :: ms).length)).length <= 140737488355328) :
    Calls Tryz.prog 303 #[.agg #[.int .i64 7, .string t, .int .i64 n, .slice a p c, vk], .pointer (some ⟨b, 0, none⟩)] w (Wrote w0 b (l ++ (flat (Prn.part (recvNeed m.text) e) ++ ([32] ++ up [59, 32] (msgsL (m :: m2 :: ms)) (m :: m2 :: ms).length))) w) := by
  obtain ⟨kb, off, cap, xa, xl, xc, ya, yl, yc, rfl, hc1, hc2, d0, d1, d2, d3, d4, hnode, htail⟩ := kid_one hk
  have hcap : ¬ cap = 1 := by rw [List.length_cons, List.length_cons] at hc1; omega
  rw [if_neg hcap] at htail
  obtain ⟨a2, cap2, he2, hm2, hc⟩ := htail
  simp only [Value.slice.injEq] at he2
  obtain ⟨rfl, -, rfl⟩ := he2
  have hc := hc (by simp)
  obtain ⟨kb2, off2, he3, -, hrow⟩ := hc
  simp only [Option.some.injEq, Addr.mk.injEq] at he3
  obtain ⟨rfl, rfl, -⟩ := he3
  have HROW : Hid (∀ (i : Nat) (x : E), (m :: m2 :: ms)[i]? = some x -> Spot 0 w0 kb (off + 5 + i * 5) x) := by
    refine zH fun i x hx => ?_
    obtain ⟨hi, rfl⟩ := List.getElem?_eq_some_iff.1 hx
    exact (row_iff _ (off + 5)).1 hrow i hi
  obtain ⟨mn, mk, e0, e1, e2, e3, e4, hmn⟩ := HROW.out 0 m rfl
  rw [Nat.zero_mul, Nat.add_zero] at e1
  have hba : Below w.heap.size w (w.alloc (.cells #[.int .i64 7, .string t, .int .i64 n, .slice a p c, .slice (some ⟨kb, off, none⟩) ((m :: m2 :: ms).length + 1) cap] 192)) := (zB _ _).alloc (zL _) _
  have HA := zH (Fr.of_below (b := b) hba)
  have HS := zH (h.below hba)
  have HBX := zH (Box.new w #[.int .i64 7, .string t, .int .i64 n, .slice a p c, .slice (some ⟨kb, off, none⟩) ((m :: m2 :: ms).length + 1) cap] 192 (by decide))
  have HLE := zH hlen
  have hbw := h.lt
  have c0 := cell_keep (h.below hba).base d0
  have c1 := cell_keep (h.below hba).base d1
  have c2 := cell_keep (h.below hba).base d2
  have c3 := cell_keep (h.below hba).base d3
  have c4 := cell_keep (h.below hba).base d4
  have c5 := cell_keep (h.below hba).base e1
  have D := zH (And.intro d0 (And.intro d1 (And.intro d2 (And.intro d3 (And.intro d4 e1)))))
  have KN := fun w => zH (Form.need_recv m.text w hmt)
  have HTXT : Hid (∀ (i : Nat) (x : E), (m :: m2 :: ms)[i]? = some x -> (msgsL (m :: m2 :: ms))[i]? = some (flat (pm x))) := by
    refine zH fun i x hx => ?_
    unfold msgsL
    rw [List.getElem?_map, hx]; rfl
  have hml : (msgsL (m :: m2 :: ms)).length = (m :: m2 :: ms).length := by simp [msgsL]
  have HMM := zH hm
  have hnd4 : recvNeed m.text <= 4 := by unfold recvNeed; split <;> omega
  generalize hnd : recvNeed m.text = nd at *
  clear hnd
  have KW := fun w h => zH (hw l nd w _ _ hnd4 hnode h (by have := HLE.out; simp at this ⊢; omega))
  clear h hlen d0 d1 d2 d3 d4 e0 e1 e2 e3 e4 hk hw hm hmt hrow hm2 hmn
  generalize hXP : flat (Prn.part nd e) = XP at *
  clear hXP
  generalize hXX : msgsL (m :: m2 :: ms) = XX at *
  clear hXX
  generalize m.text = mt at *
  generalize hL : m :: m2 :: ms = L at *
  have hL3 : 2 <= L.length := by rw [<- hL]; simp
  clear hL
  generalize hN : L.length = N at *
  have HN := zH hN; clear hN
  generalize hW1 : w.alloc (.cells #[.int .i64 7, .string t, .int .i64 n, .slice a p c, .slice (some ⟨kb, off, none⟩) (N + 1) cap] 192) = W1 at *
  have HW1 := zH hW1
  have t1 : (1 : Int) <= (N : Int) + 1 := by omega
  have t2 : (N : Int) + 1 <= (cap : Int) := by omega
  have t3 : (0 : Int) < (N : Int) := by omega
  have t4 : 0 < N := by omega
  obtain ⟨f0, f1, f2, f3, f4⟩ := box5 HBX.out
  go_enter Tryz.func303, Tryz.ntmps303
  go_wp2_with fail
  go_region_held3 (fun w' => w'.cell? ⟨w.heap.size, 4, none⟩ = some (.slice (some ⟨kb, off, none⟩) (N + 1) cap) /\ w'.cell? ⟨kb, off, none⟩ = some (.int .i64 e.kind) /\ w'.cell? ⟨kb, off + 1, none⟩ = some (.string e.text) /\ w'.cell? ⟨kb, off + 2, none⟩ = some (.int .i64 e.num) /\ w'.cell? ⟨kb, off + 3, none⟩ = some (.slice xa xl xc) /\ w'.cell? ⟨kb, off + 4, none⟩ = some (.slice ya yl yc) /\ w'.cell? ⟨kb, off + 5 + 1, none⟩ = some (.string mt))
    (first | exact ⟨f4, c0, c1, c2, c3, c4, c5⟩ | exact ⟨cell_keep hb5 f4, cell_keep hb5 c0, cell_keep hb5 c1, cell_keep hb5 c2, cell_keep hb5 c3, cell_keep hb5 c4, cell_keep hb5 c5⟩ | exact ⟨h6.1, h6.2.1, h6.2.2.1, h6.2.2.2.1, h6.2.2.2.2.1, h6.2.2.2.2.2.1, h6.2.2.2.2.2.2⟩ | go_keep)
    (first
      | (go_at_call 302
         refine (KN _).out.mono ?_
         rintro r w5 ⟨rfl, hb5⟩)
      | (go_at_call 38
         refine (KW _ (HS.out.below (show Below W1.heap.size W1 w5 from ⟨hb5.os, hb5.tape, hb5.output, hb5.size, hb5.block⟩))).out.mono ?_
         rintro r w6 ⟨rfl, hs6, hf6⟩
         have hb5' : Below W1.heap.size W1 w5 := ⟨hb5.os, hb5.tape, hb5.output, hb5.size, hb5.block⟩
         have HS6 := zH hs6
         have HF6 := zH ((Fr.of_below (b := b) hb5').trans hf6)
         have HBX6 := zH (HBX.out.fr HF6.out (by omega))
         have h6 : w6.cell? ⟨w.heap.size, 4, none⟩ = some (.slice (some ⟨kb, off, none⟩) (N + 1) cap) /\ w6.cell? ⟨kb, off, none⟩ = some (.int .i64 e.kind) /\ w6.cell? ⟨kb, off + 1, none⟩ = some (.string e.text) /\ w6.cell? ⟨kb, off + 2, none⟩ = some (.int .i64 e.num) /\ w6.cell? ⟨kb, off + 3, none⟩ = some (.slice xa xl xc) /\ w6.cell? ⟨kb, off + 4, none⟩ = some (.slice ya yl yc) /\ w6.cell? ⟨kb, off + 5 + 1, none⟩ = some (.string mt) :=
           ⟨(box5 HBX6.out).2.2.2.2, cell_keep hs6.base D.out.1, cell_keep hs6.base D.out.2.1, cell_keep hs6.base D.out.2.2.1, cell_keep hs6.base D.out.2.2.2.1, cell_keep hs6.base D.out.2.2.2.2.1, cell_keep hs6.base D.out.2.2.2.2.2⟩))
  have K2 := zH (put_byte HS6.out 32 (by have := HLE.out; simp at this ⊢; omega))
  clear f0 f1 f2 f3 f4 c0 c1 c2 c3 c4 c5 hs6 hf6 hb5 hb5' h6
  go_wp2_with fail
  refine K2.out.mono ?_
  rintro r w7 ⟨rfl, hs7, hf7⟩
  have HS7 := zH hs7
  have HF7 := zH (HA.out.trans (HF6.out.trans hf7))
  clear hs7 hf7
  go_wp2_with fail
  go_loopw [25] (fun j wr => ∃ i : Nat, i <= N /\ j = .int .i64 i /\ St w0 b (l ++ XP ++ [32] ++ up [59, 32] XX i) wr /\ Fr b w wr) (fun j _ => N - (intOf j).toNat)
  case atStart => exact ⟨0, Nat.zero_le _, rfl, by rw [up_zero, List.append_nil]; exact HS7.out, HF7.out⟩
  case round =>
    clear HS6 HBX6 HF6 HS7 HF7 HBX HS
    obtain ⟨i, hi, rfl, hst, hfr⟩ := hrel
    have HST := zH hst
    have HFR := zH hfr
    clear hst hfr
    by_cases hlt : i < N
    · obtain ⟨x, hue⟩ : ∃ x, L[i]? = some x := ⟨L[i]'(by rw [HN.out]; exact hlt), List.getElem?_eq_getElem _⟩
      obtain ⟨xn, xk, d0, d1, d2, d3, d4, hxn⟩ := HROW.out i x hue
      have c0 := cell_keep HST.out.base d0
      have c1 := cell_keep HST.out.base d1
      have c2 := cell_keep HST.out.base d2
      have c3 := cell_keep HST.out.base d3
      have c4 := cell_keep HST.out.base d4
      have HAE := HTXT.out i x hue
      obtain ⟨hwm, hpm⟩ := HMM.out x (List.mem_of_getElem? hue)
      obtain ⟨za, zl, zc, ua, ul, uc, rfl, rfl⟩ := zaq hxn
      obtain ⟨-, -, -, -, hkx⟩ := zaw.1 hxn
      rw [hpm] at HAE
      clear d0 d1 d2 d3 d4 hxn
      have hba5 : Below wr.heap.size wr (wr.alloc (.cells #[.int .i64 x.kind, .string x.text, .int .i64 x.num, .slice za zl zc, .slice ua ul uc] 27)) := (zB _ _).alloc (zL _) _
      have HBE5 := zH (Box.new wr #[.int .i64 x.kind, .string x.text, .int .i64 x.num, .slice za zl zc, .slice ua ul uc] 27 (by decide))
      have HST5 := zH (HST.out.below hba5)
      have HFR5 := zH (HFR.out.below hba5)
      have hbb : b < wr.heap.size := HST.out.lt.2
      have hbn : wr.heap.size ≠ b := by omega
      have HLI := zH (show l.length + XP.length + 1 + (up [59, 32] XX (i + 1)).length <= 140737488355328 by
        have h1 := up_le [59, 32] XX (i + 1)
        rw [hml] at h1
        have h2 := HLE.out
        simp at h2
        omega)
      clear hba5
      rcases Nat.eq_zero_or_pos i with hi0 | hip
      · have HU : Hid (up [59, 32] XX (i + 1) = up [59, 32] XX i ++ flat (msgX x.text (x.kids.map fm))) := by
          rw [hi0] at HAE ⊢
          exact zH (by rw [up_first (sep := [59, 32]) HAE, up_zero]; rfl)
        have ti : decide (0 < i) = false := by rw [decide_eq_false_iff_not]; omega
        rw [HU.out] at HLI
        clear HAE hi0
        have KX := zH (hwm (l ++ XP ++ [32] ++ up [59, 32] XX i) _ x.kind x.num za zl zc _ hkx HST5.out (by have := HLI.out; simp at this ⊢; omega))
        obtain ⟨k0, k1, k2, k3, k4⟩ := box5 HBE5.out
        go_wp2_with fail
        refine KX.out.mono ?_
        rintro r w6 ⟨rfl, hs6, hf6⟩
        have HS6 := zH hs6
        have HF6 := zH (HFR5.out.trans hf6)
        clear hs6 hf6 k0 k1 k2 k3 k4
        go_wp2_with fail
        go_roundw
        case rel =>
          refine ⟨i + 1, hlt, by go_num, ?_, HF6.out⟩
          rw [HU.out]
          have := HS6.out
          simpa using this
        case measure => simp [intOf]; omega
      · have HU : Hid (up [59, 32] XX (i + 1) = up [59, 32] XX i ++ ([59, 32] ++ flat (msgX x.text (x.kids.map fm)))) := zH (up_next hip HAE)
        have ti : decide (0 < i) = true := by rw [decide_eq_true_eq]; omega
        rw [HU.out] at HLI
        clear HAE
        have KZ := zH (put_str HST5.out ⟨#[59, 32]⟩ (by have := HLI.out; rw [<- Tok.zaa]; show _ + [59, 32].length <= _; simp at this ⊢; omega))
        go_wp2_with fail
        refine KZ.out.mono ?_
        rintro r w2 ⟨rfl, hs2, hf2⟩
        have HF2 := zH hf2
        have KX := zH (hwm (l ++ XP ++ [32] ++ up [59, 32] XX i ++ [59, 32]) _ x.kind x.num za zl zc _ hkx hs2 (by have := HLI.out; simp at this ⊢; omega))
        obtain ⟨k0, k1, k2, k3, k4⟩ := box5 (HBE5.out.fr HF2.out hbn)
        clear hs2 hf2
        go_wp2_with fail
        refine KX.out.mono ?_
        rintro r w6 ⟨rfl, hs6, hf6⟩
        have HS6 := zH hs6
        have HF6 := zH (HFR5.out.trans (HF2.out.trans hf6))
        clear hs6 hf6 k0 k1 k2 k3 k4
        go_wp2_with fail
        go_roundw
        case rel =>
          refine ⟨i + 1, hlt, by go_num, ?_, HF6.out⟩
          rw [HU.out]
          have := HS6.out
          simpa using this
        case measure => simp [intOf]; omega
    · have hiN : i = N := by omega
      have HIN := zH hiN
      clear hiN
      go_wp2_with fail
      go_end0
      exact ⟨rfl, by have := HST.out; rw [HIN.out] at this; simpa using this, HFR.out⟩
end Wri
end Go.Proofs.YtbigfeblomfflaaGreatDoor
