/-
  The cursor of a draw (spec.l1New, l1Byte, l1Below, l1Pick, l1PickInt): what it hands back is in range; it writes nothing that was there but its own block.
-/
import Derived.Test.YtamjfbjkdicmcaaGreatDoorBKit
import Derived.Test.YtamjfbjkdicmcaaGreatDoorRows
import Derived.WalkKit
import Derived.WalkSpells
import Derived.Outline
import Derived.Lib.Hide
import Derived.Deep.QuietTactic
import Derived.BigQuiet
import Derived.WalkSmall
namespace Go.Proofs.YtamjfbjkdicmcaaGreatDoor.Cur
open Go.RowKit
def Cur (w : World) (g : Nat) (a : Option Addr) (len cap : Nat) : Prop :=
  ∃ (i : Nat) (h : Int), i ≤ len ∧ len ≤ maxLen ∧ w.cell? ⟨g, 0, none⟩ = some (.slice a len cap) ∧ w.cell? ⟨g, 1, none⟩ = some (.int .i64 i) ∧ w.cell? ⟨g, 2, none⟩ = some (.int .i64 h) ∧ ∀ o, w.frozen? ⟨g, o, none⟩ = false
def Bytes (w : World) (g : Nat) (a : Option Addr) (len : Nat) : Prop :=
  0 < len → ∃ b off, a = some ⟨b, off, none⟩ ∧ b ≠ g ∧ ∀ j, j < len → ∃ n : Int, w.cell? ⟨b, off + j, none⟩ = some (.int .u8 n) ∧ 0 ≤ n ∧ n ≤ 255
def Byte (g : Nat) (a : Option Addr) (len cap : Nat) (w : World) (e : Ending) (w' : World) : Prop :=
  ∃ x : Int, e = .returned (.int .i64 x) ∧ 0 ≤ x ∧ x ≤ 255 ∧ Cur w' g a len cap ∧ w.grownBy w' (some g)
theorem and255 (x : Int) : 0 ≤ bits .and .i64 x 255 ∧ bits .and .i64 x 255 ≤ 255 := by
  have h : (BitVec.ofInt (IntKind.i64).bits x &&& BitVec.ofInt (IntKind.i64).bits 255).toNat ≤ 255 := by
    rw [BitVec.toNat_and]
    exact Nat.le_trans Nat.and_le_right (by decide)
  show 0 ≤ IntKind.i64.wrap ((BitVec.ofInt (IntKind.i64).bits x &&& BitVec.ofInt (IntKind.i64).bits 255).toNat : Int) ∧ IntKind.i64.wrap ((BitVec.ofInt (IntKind.i64).bits x &&& BitVec.ofInt (IntKind.i64).bits 255).toNat : Int) ≤ 255
  generalize (BitVec.ofInt (IntKind.i64).bits x &&& BitVec.ofInt (IntKind.i64).bits 255).toNat = n at h
  have e : IntKind.i64.wrap (n : Int) = n := by
    simp [IntKind.wrap, IntKind.bits, IntKind.signed]
    omega
  rw [e]; omega
theorem grown_refl (w : World) (g : Option Nat) : w.grownBy w g := ⟨rfl, rfl, rfl, Nat.le_refl _, fun _ _ _ => rfl⟩
theorem grown_set {w w' : World} {g : Nat} (h : w.grownBy w' (some g)) (o : Nat) (v : Value) : w.grownBy (w'.setCell ⟨g, o, none⟩ v) (some g) :=
  ⟨h.os, h.tape, h.output, by simpa [World.setCell] using h.size, fun k hk hne => by
    rw [Below.heap_setCell _ _ _ _ (by intro e; exact hne (by rw [e])), h.block k hk hne]⟩
theorem grown_drawn {w w' : World} {g : Option Nat} (n : Nat) (h : w.grownBy w' g) : w.grownBy (w'.drewN n) g := ⟨h.os, h.tape, h.output, h.size, h.block⟩
theorem grown_trans {w w' w'' : World} {g : Option Nat} (h : w.grownBy w' g) (k : w'.grownBy w'' g) : w.grownBy w'' g :=
  ⟨k.os.trans h.os, k.tape.trans h.tape, k.output.trans h.output, Nat.le_trans h.size k.size, fun i hi hne => (k.block i (Nat.lt_of_lt_of_le hi h.size) hne).trans (h.block i hi hne)⟩
theorem cell_lt {w : World} {a : Addr} {v : Value} (h : w.cell? a = some v) : a.block < w.heap.size := World.block_lt_of_cell? _ _ h
theorem grown_cell {w w' : World} {g b o : Nat} {v : Value} (hg : w.grownBy w' (some g)) (hne : b ≠ g) (h : w.cell? ⟨b, o, none⟩ = some v) : w'.cell? ⟨b, o, none⟩ = some v := by
  rw [World.cell?_of_block (w := w) (hg.block b (cell_lt h) (fun e => hne (Option.some.inj e)))]; exact h
theorem Bytes.keep {w w' : World} {g : Nat} {a : Option Addr} {len : Nat} (h : Bytes w g a len) (hg : w.grownBy w' (some g)) : Bytes w' g a len := by
  intro hp
  obtain ⟨b, off, rfl, hne, hc⟩ := h hp
  refine ⟨b, off, rfl, hne, fun j hj => ?_⟩
  obtain ⟨n, hn, h1⟩ := hc j hj
  exact ⟨n, grown_cell hg hne hn, h1⟩
theorem cur_drawn {w : World} {g : Nat} {a : Option Addr} {len cap : Nat} (m : Nat) (h : Cur w g a len cap) : Cur (w.drewN m) g a len cap := h
theorem cur_one {w : World} {g : Nat} {a : Option Addr} {len cap i : Nat} {h x : Int} (hi : i ≤ len) (hm : len ≤ maxLen) (h0 : w.cell? ⟨g, 0, none⟩ = some (.slice a len cap)) (h1 : w.cell? ⟨g, 1, none⟩ = some (.int .i64 i)) (h2 : w.cell? ⟨g, 2, none⟩ = some (.int .i64 h)) (hf : ∀ o, w.frozen? ⟨g, o, none⟩ = false) :
    Cur (w.setCell ⟨g, 2, none⟩ (.int .i64 x)) g a len cap := by
  refine ⟨i, x, hi, hm, ?_, ?_, ?_, fun o => ?_⟩
  · exact (World.cell?_setCell_other _ _ _ _ (by simp)).trans h0
  · exact (World.cell?_setCell_other _ _ _ _ (by simp)).trans h1
  · exact World.cell?_setCell_same _ _ _ h2
  · exact (World.frozen?_setCell _ _ _ _).trans (hf o)
theorem cur_two {w : World} {g : Nat} {a : Option Addr} {len cap i : Nat} {y : Int} (hy : y = ((i + 1 : Nat) : Int)) (hi : i < len) (hc : Cur w g a len cap) : Cur (w.setCell ⟨g, 1, none⟩ (.int .i64 y)) g a len cap := by
  obtain ⟨i', h, _, hm, h0, h1, h2, hf⟩ := hc
  subst hy
  refine ⟨i + 1, h, hi, hm, ?_, ?_, ?_, fun o => ?_⟩
  · exact (World.cell?_setCell_other _ _ _ _ (by simp)).trans h0
  · exact World.cell?_setCell_same _ _ _ h1
  · exact (World.cell?_setCell_other _ _ _ _ (by simp)).trans h2
  · exact (World.frozen?_setCell _ _ _ _).trans (hf o)
set_option maxHeartbeats 1000000 in
theorem byte_any (g : Nat) (a : Option Addr) (len cap : Nat) (w : World) (hc : Cur w g a len cap) (hb : Bytes w g a len) :
    Calls Tryz.prog 63 #[.pointer (some ⟨g, 0, none⟩)] w (Byte g a len cap w) := by
  obtain ⟨i, h, hi, hm, h0, h1, h2, hf⟩ := hc
  unfold maxLen at hm
  have hf0 := hf 0
  have hf1 := hf 1
  have hf2 := hf 2
  by_cases hlt : i < len
  · obtain ⟨b, off, rfl, hne, hcells⟩ := hb (by omega)
    obtain ⟨n, hn, hn0, hn1⟩ := hcells i hlt
    go_enter Tryz.func63, Tryz.ntmps63
    go_wp2_with fail
    go_quiet (fail)
    go_wp2_with fail
    go_quiet (fail)
    go_wp2_with fail
    generalize bits BinOp.and IntKind.i64 (bits BinOp.xor IntKind.i64 _ _) 255 = X
    go_quiet (fail)
    go_wp2_with fail
    go_ret
    have h255 := and255 (wrap64 (X + n))
    exact ⟨_, rfl, h255.1, h255.2, cur_two (by omega) hlt (cur_drawn _ <| cur_one (by omega) (by unfold maxLen; omega) h0 h1 h2 hf), grown_set (grown_drawn _ (grown_set (grown_refl _ _) _ _)) _ _⟩
  · go_enter Tryz.func63, Tryz.ntmps63
    go_wp2_with fail
    go_quiet (fail)
    go_wp2_with fail
    go_quiet (fail)
    go_wp2_with fail
    go_ret
    have h255 := and255 (bits BinOp.xor IntKind.i64 (wrap64 (wrap64 (h * 6364136223846793005) + 1442695040888963407) / 8589934592) (wrap64 (wrap64 (h * 6364136223846793005) + 1442695040888963407) / 35184372088832))
    exact ⟨_, rfl, h255.1, h255.2, cur_drawn _ <| cur_drawn _ <| cur_one hi (by unfold maxLen; omega) h0 h1 h2 hf, grown_drawn _ (grown_drawn _ (grown_set (grown_refl w (some g)) 2 _))⟩
def Upto (n : Int) (g : Nat) (a : Option Addr) (len cap : Nat) (w : World) (e : Ending) (w' : World) : Prop :=
  ∃ x : Int, e = .returned (.int .i64 x) ∧ 0 ≤ x ∧ x < n ∧ Cur w' g a len cap ∧ w.grownBy w' (some g)
set_option maxHeartbeats 1000000 in
theorem below_small (g : Nat) (a : Option Addr) (len cap : Nat) (n : Int) (w : World) (hn : 0 < n) (hn2 : n ≤ 256) (hc : Cur w g a len cap) (hb : Bytes w g a len) :
    Calls Tryz.prog 29 #[.pointer (some ⟨g, 0, none⟩), .int .i64 n] w (Upto n g a len cap w) := by
  have HC := Lib.hid hc; clear hc
  have HB := Lib.hid hb; clear hb
  go_enter Tryz.func29, Tryz.ntmps29
  go_wp2_with fail
  refine (byte_any g a len cap w HC.out HB.out).mono ?_
  rintro e w1 ⟨x, rfl, hx0, hx1, hc1, hg1⟩
  have hnz : (n == 0) = false := by rw [beq_eq_false_iff_ne]; omega
  go_wp2_with fail
  go_ret
  exact ⟨_, rfl, Int.emod_nonneg _ (by omega), Int.emod_lt_of_pos _ hn, hc1, hg1⟩
set_option maxHeartbeats 1000000 in
theorem below_great (g : Nat) (a : Option Addr) (len cap : Nat) (n : Int) (w : World) (hn : 256 < n) (hn2 : n ≤ 4294967296) (hc : Cur w g a len cap) (hb : Bytes w g a len) :
    Calls Tryz.prog 29 #[.pointer (some ⟨g, 0, none⟩), .int .i64 n] w (Upto n g a len cap w) := by
  have HC := Lib.hid hc; clear hc
  have HB := Lib.hid hb; clear hb
  have hnz : (n == 0) = false := by rw [beq_eq_false_iff_ne]; omega
  go_enter Tryz.func29, Tryz.ntmps29
  go_wp2_with fail
  refine (byte_any g a len cap w HC.out HB.out).mono ?_
  rintro e w1 ⟨x, rfl, hx0, hx1, hc1, hg1⟩
  have HC1 := Lib.hid hc1; clear hc1
  have HG1 := Lib.hid hg1; clear hg1
  go_wp2_with fail
  refine (byte_any g a len cap w1 HC1.out (HB.out.keep HG1.out)).mono ?_
  rintro e w2 ⟨y, rfl, hy0, hy1, hc2, hg2⟩
  have HC2 := Lib.hid hc2; clear hc2
  have HG2 := Lib.hid (grown_trans HG1.out hg2); clear hg2
  go_wp2_with fail
  refine (byte_any g a len cap w2 HC2.out (HB.out.keep HG2.out)).mono ?_
  rintro e w3 ⟨z, rfl, hz0, hz1, hc3, hg3⟩
  have HC3 := Lib.hid hc3; clear hc3
  have HG3 := Lib.hid (grown_trans HG2.out hg3); clear hg3
  go_wp2_with fail
  refine (byte_any g a len cap w3 HC3.out (HB.out.keep HG3.out)).mono ?_
  rintro e w4 ⟨u, rfl, hu0, hu1, hc4, hg4⟩
  have HC4 := Lib.hid hc4; clear hc4
  have HG4 := Lib.hid (grown_trans HG3.out hg4); clear hg4
  go_wp2_with fail
  go_ret
  exact ⟨_, rfl, Int.emod_nonneg _ (by omega), Int.emod_lt_of_pos _ (by omega), HC4.out, HG4.out⟩
theorem below_any (g : Nat) (a : Option Addr) (len cap : Nat) (n : Int) (w : World) (hn : 0 < n) (hn2 : n ≤ 4294967296) (hc : Cur w g a len cap) (hb : Bytes w g a len) :
    Calls Tryz.prog 29 #[.pointer (some ⟨g, 0, none⟩), .int .i64 n] w (Upto n g a len cap w) := by
  by_cases h : n ≤ 256
  · exact below_small g a len cap n w hn h hc hb
  · exact below_great g a len cap n w (by omega) hn2 hc hb
end Go.Proofs.YtamjfbjkdicmcaaGreatDoor.Cur
