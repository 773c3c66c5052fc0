/-
  The cursor of a draw, to the number: what spec.l1New, l1Byte, l1Below, l1Pick, l1Once hand back is a function of the bytes. They write nothing that was there but the cursor's own block.
-/
import Derived.Test.YtamjfbjkdicmcaaGreatDoorBDraw
namespace Go.Proofs.YtamjfbjkdicmcaaGreatDoor.CurF
open Go.RowKit
open Cur (grown_refl grown_set grown_drawn grown_trans cell_lt grown_cell and255)
structure St where
  i : Nat
  h : Int
def Cur (w : World) (g : Nat) (a : Option Addr) (len cap : Nat) (s : St) : Prop :=
  s.i ≤ len ∧ len ≤ maxLen ∧ w.cell? ⟨g, 0, none⟩ = some (.slice a len cap) ∧ w.cell? ⟨g, 1, none⟩ = some (.int .i64 s.i) ∧ w.cell? ⟨g, 2, none⟩ = some (.int .i64 s.h) ∧ ∀ o, w.frozen? ⟨g, o, none⟩ = false
def Bytes (w : World) (g : Nat) (a : Option Addr) (len : Nat) (z : Nat → Int) : Prop :=
  0 < len → ∃ b off, a = some ⟨b, off, none⟩ ∧ b ≠ g ∧ ∀ j, j < len → w.cell? ⟨b, off + j, none⟩ = some (.int .u8 (z j)) ∧ 0 ≤ z j ∧ z j ≤ 255
def Raw (w : World) (a : Option Addr) (len : Nat) (z : Nat → Int) : Prop :=
  0 < len → ∃ b off, a = some ⟨b, off, none⟩ ∧ ∀ j, j < len → w.cell? ⟨b, off + j, none⟩ = some (.int .u8 (z j)) ∧ 0 ≤ z j ∧ z j ≤ 255
theorem raw_of {w : World} {a : Option Addr} {len cap : Nat} {z : List Int} (h : Kit.IsRow .u8 w a len cap z) : Raw w a len (fun j => z.getD j 0) := by
  intro hp
  rcases h with ⟨_, rfl, _, _⟩ | ⟨x, rfl, hl, hm, hz, hc, hw⟩
  · omega
  · obtain ⟨b, off, spot⟩ := x
    have hc0 := hc 0 (by omega)
    have hspot : spot = none := by simpa [Addr.add] using World.cell?_spot hc0
    subst hspot
    refine ⟨b, off, rfl, fun j hj => ?_⟩
    have h1 := hc j (by omega)
    have e : (⟨b, off, none⟩ : Addr).add j = ⟨b, off + j, none⟩ := by unfold Addr.add; split <;> simp_all
    rw [e] at h1
    have hjl : j < z.length := by omega
    have h2 := bounds_u8 (hw (z.getD j 0) (by simp [List.getD, hjl]))
    exact ⟨h1, h2.1, h2.2⟩
theorem Raw.keep {w w' : World} {a : Option Addr} {len : Nat} {z : Nat → Int} (h : Raw w a len z) (hb : Below w.heap.size w w') : Raw w' a len z := by
  intro hp
  obtain ⟨b, off, rfl, hc⟩ := h hp
  refine ⟨b, off, rfl, fun j hj => ?_⟩
  obtain ⟨hn, h1⟩ := hc j hj
  exact ⟨by rw [hb.cell (p := ⟨b, off + j, none⟩) (cell_lt hn)]; exact hn, h1⟩
theorem Raw.bytes {w w' : World} {a : Option Addr} {len : Nat} {z : Nat → Int} (h : Raw w a len z) (hb : Below w.heap.size w w') : Bytes w' w.heap.size a len z := by
  intro hp
  obtain ⟨b, off, rfl, hc⟩ := h hp
  refine ⟨b, off, rfl, ?_, fun j hj => ?_⟩
  · obtain ⟨hn, _⟩ := hc 0 hp
    have := cell_lt hn
    simp at this; omega
  · obtain ⟨hn, h1⟩ := hc j hj
    exact ⟨by rw [hb.cell (p := ⟨b, off + j, none⟩) (cell_lt hn)]; exact hn, h1⟩
theorem Bytes.keep {w w' : World} {g : Nat} {a : Option Addr} {len : Nat} {z : Nat → Int} (h : Bytes w g a len z) (hg : w.grownBy w' (some g)) : Bytes w' g a len z := by
  intro hp
  obtain ⟨b, off, rfl, hne, hc⟩ := h hp
  exact ⟨b, off, rfl, hne, fun j hj => ⟨grown_cell hg hne (hc j hj).1, (hc j hj).2⟩⟩
theorem Bytes.below {w w' : World} {g : Nat} {a : Option Addr} {len : Nat} {z : Nat → Int} (h : Bytes w g a len z) (hb : Below w.heap.size w w') : Bytes w' g a len z := by
  intro hp
  obtain ⟨b, off, rfl, hne, hc⟩ := h hp
  exact ⟨b, off, rfl, hne, fun j hj => ⟨(hb.cell (p := ⟨b, off + j, none⟩) (cell_lt (hc j hj).1)).trans (hc j hj).1, (hc j hj).2⟩⟩
theorem Cur.below {w w' : World} {g : Nat} {a : Option Addr} {len cap : Nat} {s : St} (h : Cur w g a len cap s) (hb : Below w.heap.size w w') : Cur w' g a len cap s := by
  obtain ⟨hi, hm, h0, h1, h2, hf⟩ := h
  have hg : g < w.heap.size := cell_lt h0
  exact ⟨hi, hm, (hb.cell (p := ⟨g, 0, none⟩) hg).trans h0, (hb.cell (p := ⟨g, 1, none⟩) hg).trans h1, (hb.cell (p := ⟨g, 2, none⟩) hg).trans h2, fun o => (hb.frozen (p := ⟨g, o, none⟩) hg).trans (hf o)⟩
theorem Cur.lt {w : World} {g : Nat} {a : Option Addr} {len cap : Nat} {s : St} (h : Cur w g a len cap s) : g < w.heap.size := cell_lt h.2.2.1
def nextH (h : Int) : Int := wrap64 (wrap64 (h * 6364136223846793005) + 1442695040888963407)
def mixH (h : Int) : Int := bits .and .i64 (bits .xor .i64 (h / 8589934592) (h / 35184372088832)) 255
def byteF (len : Nat) (z : Nat → Int) (s : St) : Int × St :=
  if s.i < len then (bits .and .i64 (wrap64 (mixH (nextH s.h) + z s.i)) 255, ⟨s.i + 1, nextH s.h⟩) else (mixH (nextH s.h), ⟨s.i, nextH s.h⟩)
theorem byteF_bd (len : Nat) (z : Nat → Int) (s : St) : 0 ≤ (byteF len z s).1 ∧ (byteF len z s).1 ≤ 255 := by
  unfold byteF
  split
  · exact and255 _
  · exact and255 _
def Gives (v : Value) (s' : St) (g : Nat) (a : Option Addr) (len cap : Nat) (w : World) (e : Ending) (w' : World) : Prop :=
  e = .returned v ∧ Cur w' g a len cap s' ∧ w.grownBy w' (some g)
theorem cur_one {w : World} {g : Nat} {a : Option Addr} {len cap : Nat} {s : St} {x : Int} (hc : Cur w g a len cap s) : Cur (w.setCell ⟨g, 2, none⟩ (.int .i64 x)) g a len cap ⟨s.i, x⟩ := by
  obtain ⟨hi, hm, h0, h1, h2, hf⟩ := hc
  refine ⟨hi, hm, ?_, ?_, ?_, fun o => ?_⟩
  · exact (World.cell?_setCell_other _ _ _ _ (by simp)).trans h0
  · exact (World.cell?_setCell_other _ _ _ _ (by simp)).trans h1
  · exact World.cell?_setCell_same _ _ _ h2
  · exact (World.frozen?_setCell _ _ _ _).trans (hf o)
theorem cur_two {w : World} {g : Nat} {a : Option Addr} {len cap : Nat} {s : St} {y : Int} (hc : Cur w g a len cap s) (hy : y = ((s.i + 1 : Nat) : Int)) (hi : s.i < len) : Cur (w.setCell ⟨g, 1, none⟩ (.int .i64 y)) g a len cap ⟨s.i + 1, s.h⟩ := by
  obtain ⟨_, hm, h0, h1, h2, hf⟩ := hc
  subst hy
  refine ⟨hi, hm, ?_, ?_, ?_, fun o => ?_⟩
  · exact (World.cell?_setCell_other _ _ _ _ (by simp)).trans h0
  · exact World.cell?_setCell_same _ _ _ h1
  · exact (World.cell?_setCell_other _ _ _ _ (by simp)).trans h2
  · exact (World.frozen?_setCell _ _ _ _).trans (hf o)
theorem cur_drawn {w : World} {g : Nat} {a : Option Addr} {len cap : Nat} {s : St} (m : Nat) (h : Cur w g a len cap s) : Cur (w.drewN m) g a len cap s := h
set_option maxHeartbeats 1000000 in
theorem byte_any (g : Nat) (a : Option Addr) (len cap : Nat) (z : Nat → Int) (s : St) (w : World) (hc : Cur w g a len cap s) (hb : Bytes w g a len z) :
    Calls Tryz.prog 63 #[.pointer (some ⟨g, 0, none⟩)] w (Gives (.int .i64 (byteF len z s).1) (byteF len z s).2 g a len cap w) := by
  have HC := Lib.hid hc
  obtain ⟨hi, hm, h0, h1, h2, hf⟩ := hc
  unfold maxLen at hm
  have hf0 := hf 0
  have hf1 := hf 1
  have hf2 := hf 2
  by_cases hlt : s.i < len
  · obtain ⟨b, off, rfl, hne, hcells⟩ := hb (by omega)
    obtain ⟨hn, hn0, hn1⟩ := hcells s.i hlt
    have HV : Hid (byteF len z s = (bits .and .i64 (wrap64 (bits .and .i64 (bits .xor .i64 (wrap64 (wrap64 (s.h * 6364136223846793005) + 1442695040888963407) / 8589934592) (wrap64 (wrap64 (s.h * 6364136223846793005) + 1442695040888963407) / 35184372088832)) 255 + z s.i)) 255, ⟨s.i + 1, nextH s.h⟩)) := by
      show _ = _; unfold byteF; rw [if_pos hlt]; rfl
    clear hcells
    generalize z s.i = n at *
    go_enter Tryz.func63, Tryz.ntmps63
    go_wp2_with fail
    go_quiet (fail)
    go_wp2_with fail
    go_quiet (fail)
    go_wp2_with fail
    generalize bits BinOp.and IntKind.i64 (bits BinOp.xor IntKind.i64 _ _) 255 = X at *
    go_quiet (fail)
    go_wp2_with fail
    go_ret
    rw [HV.out]
    exact ⟨rfl, cur_two (s := ⟨s.i, nextH s.h⟩) (cur_drawn _ <| cur_one HC.out) (by first | omega | (simp)) hlt, grown_set (grown_drawn _ (grown_set (grown_refl _ _) _ _)) _ _⟩
  · have HV : Hid (byteF len z s = (mixH (nextH s.h), ⟨s.i, nextH s.h⟩)) := by show _ = _; unfold byteF; rw [if_neg hlt]
    go_enter Tryz.func63, Tryz.ntmps63
    go_wp2_with fail
    go_quiet (fail)
    go_wp2_with fail
    go_quiet (fail)
    go_wp2_with fail
    go_ret
    rw [HV.out]
    exact ⟨rfl, cur_drawn _ <| cur_drawn _ <| cur_one HC.out, grown_drawn _ (grown_drawn _ (grown_set (grown_refl w (some g)) 2 _))⟩
def belowF (len : Nat) (z : Nat → Int) (n : Int) (s : St) : Int × St := ((byteF len z s).1 % n, (byteF len z s).2)
theorem belowF_bd (len : Nat) (z : Nat → Int) (n : Int) (s : St) (h : 0 < n) : 0 ≤ (belowF len z n s).1 ∧ (belowF len z n s).1 < n := ⟨Int.emod_nonneg _ (by omega), Int.emod_lt_of_pos _ h⟩
set_option maxHeartbeats 1000000 in
theorem below_any (g : Nat) (a : Option Addr) (len cap : Nat) (z : Nat → Int) (n : Int) (s : St) (w : World) (hn : 0 < n) (hn2 : n ≤ 256) (hc : Cur w g a len cap s) (hb : Bytes w g a len z) :
    Calls Tryz.prog 29 #[.pointer (some ⟨g, 0, none⟩), .int .i64 n] w (Gives (.int .i64 (belowF len z n s).1) (belowF len z n s).2 g a len cap w) := by
  have KB := Lib.hid (byte_any g a len cap z s w hc hb)
  have HV : Hid (belowF len z n s = ((byteF len z s).1 % n, (byteF len z s).2)) := rfl
  have hbd := byteF_bd len z s
  clear hc hb
  generalize byteF len z s = r at *
  obtain ⟨x, s'⟩ := r
  obtain ⟨hx0, hx1⟩ := hbd
  simp only at hx0 hx1
  have hnz : (n == 0) = false := by rw [beq_eq_false_iff_ne]; omega
  go_enter Tryz.func29, Tryz.ntmps29
  go_wp2_with fail
  refine KB.out.mono ?_
  rintro e w1 ⟨rfl, hc1, hg1⟩
  have HC1 := Lib.hid hc1
  have HG1 := Lib.hid hg1
  clear hc1 hg1
  go_wp2_with fail
  go_ret
  rw [HV.out]
  exact ⟨rfl, HC1.out, HG1.out⟩
set_option maxHeartbeats 1000000 in
theorem once_any (g : Nat) (a : Option Addr) (len cap : Nat) (z : Nat → Int) (n : Int) (s : St) (w : World) (hn : 0 < n) (hn2 : n ≤ 256) (hc : Cur w g a len cap s) (hb : Bytes w g a len z) :
    Calls Tryz.prog 31 #[.pointer (some ⟨g, 0, none⟩), .int .i64 n] w (Gives (.bool ((belowF len z n s).1 == 0)) (belowF len z n s).2 g a len cap w) := by
  have KB := Lib.hid (below_any g a len cap z n s w hn hn2 hc hb)
  clear hc hb
  generalize belowF len z n s = r at *
  obtain ⟨x, s'⟩ := r
  go_enter Tryz.func31, Tryz.ntmps31
  go_wp2_with fail
  refine KB.out.mono ?_
  rintro e w1 ⟨rfl, hc1, hg1⟩
  have HC1 := Lib.hid hc1
  have HG1 := Lib.hid hg1
  clear hc1 hg1
  go_wp2_with fail
  go_ret
  exact ⟨rfl, HC1.out, HG1.out⟩
def pickF (len : Nat) (z : Nat → Int) (xs : List ByteArray) (s : St) : ByteArray := xs.getD (belowF len z xs.length s).1.toNat ByteArray.empty
theorem pickF_mem (len : Nat) (z : Nat → Int) (xs : List ByteArray) (s : St) (h : 0 < xs.length) : pickF len z xs s ∈ xs := by
  have hb := belowF_bd len z xs.length s (by omega)
  unfold pickF
  have h2 : (belowF len z xs.length s).1.toNat < xs.length := by omega
  rw [List.getD, List.getElem?_eq_getElem h2]; exact List.getElem_mem h2
set_option maxHeartbeats 1000000 in
theorem pick_any (g : Nat) (a : Option Addr) (len cap : Nat) (z : Nat → Int) (b n c : Nat) (xs : List ByteArray) (s : St) (w : World) (hn : xs.length = n) (h0 : 0 < n) (h1 : n ≤ 256) (hne : b ≠ g) (hcells : ∀ j, j < n → w.cell? ⟨b, j, none⟩ = some (.string (xs.getD j ByteArray.empty))) (hc : Cur w g a len cap s) (hb : Bytes w g a len z) :
    Calls Tryz.prog 30 #[.pointer (some ⟨g, 0, none⟩), .slice (some ⟨b, 0, none⟩) n c] w (Gives (.string (pickF len z xs s)) (belowF len z n s).2 g a len cap w) := by
  have KB := Lib.hid (below_any g a len cap z n s w (by omega) (by omega) hc hb)
  have HV : Hid (pickF len z xs s = xs.getD (belowF len z n s).1.toNat ByteArray.empty) := by show _ = _; rw [← hn]; rfl
  have hbd := belowF_bd len z n s (by omega)
  clear hc hb
  have HS := Lib.hid hcells; clear hcells
  generalize belowF len z n s = r at *
  obtain ⟨x, s'⟩ := r
  obtain ⟨hx0, hx1⟩ := hbd
  simp only at hx0 hx1
  obtain ⟨j, rfl⟩ := Int.eq_ofNat_of_zero_le hx0
  have hj : j < n := by omega
  go_enter Tryz.func30, Tryz.ntmps30
  go_wp2_with fail
  refine KB.out.mono ?_
  rintro e w1 ⟨rfl, hc1, hg1⟩
  have hcell := grown_cell hg1 hne (HS.out j hj)
  have HV2 : Hid (pickF len z xs s = xs.getD j ByteArray.empty) := HV.out
  generalize xs.getD j ByteArray.empty = t at *
  clear HS HV
  have HG := Lib.hid hg1
  have HC1 := Lib.hid hc1
  clear hg1 hc1
  go_wp2_with fail
  go_ret
  rw [HV2.out]
  exact ⟨rfl, HC1.out, HG.out⟩
def newF (len : Nat) (z : Nat → Int) : Nat → Int
  | 0 => 124929 + len
  | i + 1 => bits .and .i64 (wrap64 (wrap64 (wrap64 (newF len z i * 131) + z i) + 7)) 1073741823
def newS (len : Nat) (z : Nat → Int) : St := ⟨0, newF len z (min len 4000)⟩
def Made (a : Option Addr) (len cap : Nat) (z : Nat → Int) (w : World) (e : Ending) (w' : World) : Prop :=
  e = .returned (.pointer (some ⟨w.heap.size, 0, none⟩)) ∧ Cur w' w.heap.size a len cap (newS len z) ∧ Below w.heap.size w w' ∧ w.heap.size < w'.heap.size
theorem made_new (a : Option Addr) (len cap : Nat) (z : Nat → Int) (x : Int) (w : World) (hm : len ≤ maxLen) (hx : x = newF len z (min len 4000)) :
    Made a len cap z w (.returned (.pointer (some ⟨w.heap.size, 0, none⟩))) (w.alloc (.cells #[.slice a len cap, .int .i64 0, .int .i64 x] 50)) := by
  subst hx
  refine ⟨rfl, ⟨Nat.zero_le _, hm, ?_, ?_, ?_, fun o => ?_⟩, (Below.refl _ _).alloc (Nat.le_refl _) _, by simp⟩
  · exact World.cell?_alloc_mark w _ _ (0, 0) 0
  · exact World.cell?_alloc_mark w _ _ (0, 0) 1
  · exact World.cell?_alloc_mark w _ _ (0, 0) 2
  · exact (World.frozen?_alloc_mark w _ _ 0 0 o).trans (by simp)
set_option maxHeartbeats 1000000 in
theorem new_any (a : Option Addr) (len cap : Nat) (z : Nat → Int) (w : World) (hl : len ≤ 1048576) (hr : Raw w a len z) :
    Calls Tryz.prog 12 #[.slice a len cap] w (Made a len cap z w) := by
  have HR := Lib.hid hr; clear hr
  go_enter Tryz.func12, Tryz.ntmps12
  go_wp2_with fail
  go_loop [3, 4] (fun h j => ∃ (i : Nat), i ≤ len ∧ i ≤ 4000 ∧ j = .int .i64 i ∧ h = .int .i64 (newF len z i)) (fun _ j => len - (intOf j).toNat)
  case atStart => exact ⟨0, by omega, by omega, rfl, rfl⟩
  case round =>
    obtain ⟨i, hi, hi4, rfl, rfl⟩ := hrel
    have HX : Hid (newF len z (i + 1) = bits .and .i64 (wrap64 (wrap64 (wrap64 (newF len z i * 131) + z i) + 7)) 1073741823) := rfl
    have HY : Hid (i = min len 4000 → newF len z i = newF len z (min len 4000)) := fun h => by rw [← h]
    generalize newF len z i = x at *
    by_cases hlt : i < len
    · by_cases h4 : (i : Int) < 4000
      · obtain ⟨b, off, rfl, hc⟩ := HR.out (by omega)
        obtain ⟨hn, hn0, hn1⟩ := hc i hlt
        clear hc
        generalize z i = n at *
        go_wp2_with fail
        go_round
        case rel => exact ⟨i + 1, by omega, by omega, by go_num, by rw [HX.out]⟩
        case measure => simp [intOf]; omega
      · have hx := Lib.hid (HY.out (by omega))
        go_wp2_with fail
        go_ret
        exact made_new a len cap z x w (by unfold maxLen; omega) hx.out
    · have hx := Lib.hid (HY.out (by omega))
      go_wp2_with fail
      go_ret
      exact made_new a len cap z x w (by unfold maxLen; omega) hx.out
end Go.Proofs.YtamjfbjkdicmcaaGreatDoor.CurF
