/-
  Draws: spec.l1New makes a cursor; l1Pick picks an element of a list. They write nothing that was there but the cursor.
-/
import Derived.Test.YtamjfbjkdicmcaaGreatDoorBCur
import Derived.OpenShut
namespace Go.Proofs.YtamjfbjkdicmcaaGreatDoor.Draw
open Go.RowKit
open Cur
def Raw (w : World) (a : Option Addr) (len : Nat) : Prop :=
  0 < len → ∃ b off, a = some ⟨b, off, none⟩ ∧ ∀ j, j < len → ∃ n : Int, w.cell? ⟨b, off + j, none⟩ = some (.int .u8 n) ∧ 0 ≤ n ∧ n ≤ 255
theorem raw_of {w : World} {a : Option Addr} {len cap : Nat} {z : List Int} (h : Kit.IsRow .u8 w a len cap z) : Raw w a len := by
  intro hp
  rcases h with ⟨_, rfl, _, _⟩ | ⟨x, rfl, hl, hm, hz, hc, hw⟩
  · omega
  · obtain ⟨b, off, spot⟩ := x
    have hc0 := hc 0 (by omega)
    have hspot : spot = none := by simpa [Addr.add] using World.cell?_spot hc0
    subst hspot
    refine ⟨b, off, rfl, fun j hj => ?_⟩
    have h1 := hc j (by omega)
    have e : (⟨b, off, none⟩ : Addr).add j = ⟨b, off + j, none⟩ := by unfold Addr.add; split <;> simp_all
    rw [e] at h1
    have hjl : j < z.length := by omega
    have h2 := bounds_u8 (hw (z.getD j 0) (by simp [List.getD, hjl]))
    exact ⟨_, h1, h2.1, h2.2⟩
theorem Raw.keep {w w' : World} {a : Option Addr} {len : Nat} (h : Raw w a len) (hb : Below w.heap.size w w') : Raw w' a len := by
  intro hp
  obtain ⟨b, off, rfl, hc⟩ := h hp
  refine ⟨b, off, rfl, fun j hj => ?_⟩
  obtain ⟨n, hn, h1⟩ := hc j hj
  exact ⟨n, by rw [hb.cell (p := ⟨b, off + j, none⟩) (cell_lt hn)]; exact hn, h1⟩
theorem Raw.bytes {w w' : World} {a : Option Addr} {len : Nat} (h : Raw w a len) (hb : Below w.heap.size w w') : Bytes w' w.heap.size a len := by
  intro hp
  obtain ⟨b, off, rfl, hc⟩ := h hp
  refine ⟨b, off, rfl, ?_, fun j hj => ?_⟩
  · obtain ⟨n, hn, _⟩ := hc 0 hp
    have := cell_lt hn
    simp at this; omega
  · obtain ⟨n, hn, h1⟩ := hc j hj
    exact ⟨n, by rw [hb.cell (p := ⟨b, off + j, none⟩) (cell_lt hn)]; exact hn, h1⟩
def Made (a : Option Addr) (len cap : Nat) (w : World) (e : Ending) (w' : World) : Prop :=
  e = .returned (.pointer (some ⟨w.heap.size, 0, none⟩)) ∧ Cur w' w.heap.size a len cap ∧ Below w.heap.size w w' ∧ w.heap.size < w'.heap.size
theorem made_new (a : Option Addr) (len cap : Nat) (x : Int) (w : World) (hm : len ≤ maxLen) :
    Made a len cap w (.returned (.pointer (some ⟨w.heap.size, 0, none⟩))) (w.alloc (.cells #[.slice a len cap, .int .i64 0, .int .i64 x] 50)) := by
  refine ⟨rfl, ⟨0, x, Nat.zero_le _, hm, ?_, ?_, ?_, fun o => ?_⟩, (Below.refl _ _).alloc (Nat.le_refl _) _, by simp⟩
  · exact World.cell?_alloc_mark w _ _ (0, 0) 0
  · exact World.cell?_alloc_mark w _ _ (0, 0) 1
  · exact World.cell?_alloc_mark w _ _ (0, 0) 2
  · exact (World.frozen?_alloc_mark w _ _ 0 0 o).trans (by simp)
set_option maxHeartbeats 1000000 in
theorem new_any (a : Option Addr) (len cap : Nat) (w : World) (hl : len ≤ 1048576) (hr : Raw w a len) :
    Calls Tryz.prog 12 #[.slice a len cap] w (Made a len cap w) := by
  have HR := Lib.hid hr; clear hr
  go_enter Tryz.func12, Tryz.ntmps12
  go_wp2_with fail
  go_loop [3, 4] (fun h j => ∃ (i : Nat) (x : Int), i ≤ len ∧ j = .int .i64 i ∧ h = .int .i64 x) (fun _ j => len - (intOf j).toNat)
  case atStart => exact ⟨0, _, by omega, rfl, rfl⟩
  case round =>
    obtain ⟨i, x, hi, rfl, rfl⟩ := hrel
    by_cases hlt : i < len
    · by_cases h4 : (i : Int) < 4000
      · obtain ⟨b, off, rfl, hc⟩ := HR.out (by omega)
        obtain ⟨n, hn, hn0, hn1⟩ := hc i hlt
        clear hc
        go_wp2_with fail
        go_round
        case rel => exact ⟨i + 1, _, by omega, by go_num, rfl⟩
        case measure => simp [intOf]; omega
      · go_wp2_with fail
        go_ret
        exact made_new a len cap x w (by unfold maxLen; omega)
    · go_wp2_with fail
      go_ret
      exact made_new a len cap x w (by unfold maxLen; omega)
def PickStr (xs : List ByteArray) (g : Nat) (a : Option Addr) (len cap : Nat) (w : World) (e : Ending) (w' : World) : Prop :=
  ∃ s : ByteArray, s ∈ xs ∧ e = .returned (.string s) ∧ Cur w' g a len cap ∧ w.grownBy w' (some g)
set_option maxHeartbeats 1000000 in
theorem pick_any (g : Nat) (a : Option Addr) (len cap : Nat) (b n c : Nat) (xs : List ByteArray) (w : World) (hn : xs.length = n) (h0 : 0 < n) (h1 : n ≤ 1048576) (hne : b ≠ g) (hcells : ∀ j, j < n → w.cell? ⟨b, j, none⟩ = some (.string (xs.getD j ByteArray.empty))) (hc : Cur w g a len cap) (hb : Bytes w g a len) :
    Calls Tryz.prog 30 #[.pointer (some ⟨g, 0, none⟩), .slice (some ⟨b, 0, none⟩) n c] w (PickStr xs g a len cap w) := by
  have HC := Lib.hid hc; clear hc
  have HB := Lib.hid hb; clear hb
  have HS := Lib.hid hcells; clear hcells
  have HN := Lib.hid hn; clear hn
  go_enter Tryz.func30, Tryz.ntmps30
  go_wp2_with fail
  refine (below_any g a len cap n w (by omega) (by omega) HC.out HB.out).mono ?_
  rintro e w1 ⟨x, rfl, hx0, hx1, hc1, hg1⟩
  obtain ⟨j, rfl⟩ := Int.eq_ofNat_of_zero_le hx0
  have hj : j < n := by omega
  have hcell := grown_cell hg1 hne (HS.out j hj)
  have HM : Hid (xs.getD j ByteArray.empty ∈ xs) := by
    have h2 : j < xs.length := by rw [HN.out]; exact hj
    show _ ∈ _
    rw [List.getD, List.getElem?_eq_getElem h2]; exact List.getElem_mem h2
  generalize xs.getD j ByteArray.empty = s at *
  clear HS
  have HG := Lib.hid hg1
  have HC1 := Lib.hid hc1
  clear hg1 hc1
  go_wp2_with fail
  go_ret
  exact ⟨s, HM.out, rfl, HC1.out, HG.out⟩
theorem curKeep {w w' : World} {g : Nat} {a : Option Addr} {len cap : Nat} (h : Cur w g a len cap) (hb : Below w.heap.size w w') : Cur w' g a len cap := by
  obtain ⟨i, x, hi, hm, h0, h1, h2, hf⟩ := h
  have hg : g < w.heap.size := cell_lt h0
  exact ⟨i, x, hi, hm, (hb.cell (p := ⟨g, 0, none⟩) hg).trans h0, (hb.cell (p := ⟨g, 1, none⟩) hg).trans h1, (hb.cell (p := ⟨g, 2, none⟩) hg).trans h2, fun o => (hb.frozen (p := ⟨g, o, none⟩) hg).trans (hf o)⟩
theorem bytesKeep {w w' : World} {g : Nat} {a : Option Addr} {len : Nat} (h : Bytes w g a len) (hb : Below w.heap.size w w') : Bytes w' g a len := by
  intro hp
  obtain ⟨b, off, rfl, hne, hc⟩ := h hp
  refine ⟨b, off, rfl, hne, fun j hj => ?_⟩
  obtain ⟨n, hn, h1⟩ := hc j hj
  exact ⟨n, (hb.cell (p := ⟨b, off + j, none⟩) (cell_lt hn)).trans hn, h1⟩
theorem curLt {w : World} {g : Nat} {a : Option Addr} {len cap : Nat} (h : Cur w g a len cap) : g < w.heap.size := by
  obtain ⟨i, x, hi, hm, h0, _⟩ := h
  exact cell_lt h0
theorem alloc_below (w : World) (o : Obj) : Below w.heap.size w (w.alloc o) := (Below.refl _ _).alloc (Nat.le_refl _) o
theorem cur_below {w w1 w2 : World} (h : Below w.heap.size w w1) (hg : w1.grownBy w2 (some w.heap.size)) : Below w.heap.size w w2 :=
  h.grown hg h.size (fun k hk => by rw [Option.some.injEq] at hk; omega)
end Go.Proofs.YtamjfbjkdicmcaaGreatDoor.Draw
