/-
  impl.FormatInt answers the decimal form of every integer, and writes nothing that was there; so do its helpers.
-/
import Derived.Test.YtamjfbjkdicmcaaGreatDoorBKit
import Derived.Test.YtamjfbjkdicmcaaGreatDoorBNum
import Derived.Test.YtamjfbjkdicmcaaGreatDoorRows
import Derived.WalkKit
import Derived.WalkSpells
import Derived.Outline
import Derived.Lib.Hide
namespace Go.Proofs.YtamjfbjkdicmcaaGreatDoor.ImplFmt
open Go.RowKit
theorem ret_u {k : IntKind} {a b : Int} (h : a = b) : Ending.returned (.int k a) = .returned (.int k b) := by rw [h]
theorem u64_neg (n : Int) (h1 : n < 0) (h2 : -9223372036854775808 ≤ n) : IntKind.u64.wrap (-IntKind.u64.wrap n) = (n.natAbs : Int) := by
  simp [IntKind.wrap, IntKind.bits, IntKind.signed]
  omega
theorem mag_pos (n : Int) (w : World) (h1 : 0 ≤ n) (h2 : n ≤ 9223372036854775807) :
    Calls Tryz.prog 41 #[.int .i64 n] w fun e w' => e = .returned (.int .u64 n.natAbs) ∧ w = w' := by
  go_enter Tryz.func41, Tryz.ntmps41
  go_wp2_with fail
  go_ret
  exact ⟨ret_u (Int.natAbs_of_nonneg h1).symm, rfl⟩
theorem mag_neg (n : Int) (w : World) (h1 : n < 0) (h2 : -9223372036854775808 ≤ n) :
    Calls Tryz.prog 41 #[.int .i64 n] w fun e w' => e = .returned (.int .u64 n.natAbs) ∧ w = w' := by
  go_enter Tryz.func41, Tryz.ntmps41
  go_wp2_with fail
  go_ret
  exact ⟨ret_u (by rw [u64_neg n h1 h2]), rfl⟩
theorem mag (n : Int) (N : Nat) (w : World) (hN : n.natAbs = N) (h1 : -9223372036854775808 ≤ n) (h2 : n ≤ 9223372036854775807) :
    Calls Tryz.prog 41 #[.int .i64 n] w fun e w' => e = .returned (.int .u64 (N : Nat)) ∧ w = w' := by
  subst hN
  by_cases h : n < 0
  · exact mag_neg n w h h1
  · exact mag_pos n w (by omega) h2
set_option maxHeartbeats 400000 in
theorem cnt (n c : Nat) (w : World) (hc : Num.cnt n = c) (h : n ≤ 18446744073709551615) :
    Calls Tryz.prog 42 #[.int .u64 n] w fun e w' => e = .returned (.int .i64 (c : Nat)) ∧ w = w' := by
  subst hc
  go_enter Tryz.func42, Tryz.ntmps42
  go_wp2_with fail
  go_loop [0, 3] (fun t c => ∃ (m k : Nat), m ≤ n ∧ t = .int .u64 m ∧ c = .int .i64 k ∧ 1 ≤ k ∧ k + Num.cnt m = Num.cnt n + 1)
    (fun t _ => (intOf t).toNat)
  case atStart => exact ⟨n, 1, by omega, rfl, rfl, by omega, by omega⟩
  case round =>
    obtain ⟨m, k, hm, rfl, rfl, hk, hd⟩ := hrel
    have HD := Lib.hid hd; clear hd
    have hk2 : k ≤ 21 := by have := Num.cnt_le n; have := HD.out; omega
    by_cases hz : m < 10
    · go_wp2_with fail
      go_ret
      exact ⟨ret_u (by have := HD.out; rw [Num.cnt_small m hz] at this; omega), rfl⟩
    · go_wp2_with fail
      go_round
      case rel => exact ⟨m / 10, k + 1, by omega, by go_num, by go_num, by omega, by have := HD.out; rw [Num.cnt_step m hz (by omega)] at this; omega⟩
      case measure => simp [intOf]; omega
theorem info5 : (Tryz.prog.info? 5).map (fun i => (i.zero, i.size, i.bytes)) = some (some (.int .u8 0), 1, 1) := by kernel_rfl
set_option maxHeartbeats 400000 in
theorem fmt_any (n : Int) (w : World) (h1 : -9223372036854775808 ≤ n) (h2 : n ≤ 9223372036854775807) :
    Calls Tryz.prog 15 #[.int .i64 n] w fun e w' => e = .returned (.string ⟨(Num.intText n).toArray⟩) ∧ Below w.heap.size w w' := by
  obtain ⟨i0, hi, hz0, hz1, hz2⟩ := info_parts info5
  have hc1 := Num.cnt_pos n.natAbs
  have hc2 := Num.cnt_le n.natAbs
  generalize hN : n.natAbs = N at *
  have HN := Lib.hid hN; clear hN
  generalize hC : Num.cnt N = c at *
  have HC := Lib.hid hC; clear hC
  go_enter Tryz.func15, Tryz.ntmps15
  go_wp2_with fail
  refine (mag n N w HN.out h1 h2).mono ?_
  rintro e w' ⟨rfl, rfl⟩
  go_wp2_with fail
  refine (cnt N c w HC.out (by have := HN.out; omega)).mono ?_
  rintro e w' ⟨rfl, rfl⟩
  go_wp2_with (at_make; refine wpList_make_full _ rfl _ _ 22 rfl w.heap.size 5 i0 (.int .u8 0) 1 Tryz.underlying22 hi hz0 hz1 .i64 .i64 _ _ c rfl rfl rfl rfl ?c2 ?c3 (Nat.le_refl _) ?_)
  case c2 => rw [hz2]; omega
  case c3 => unfold maxLen; omega
  intro w1 hown hgr
  have hbl : Below w.heap.size w w1 := (Below.refl _ _).grown hgr (Nat.le_refl _) (by simp)
  have hown0 : w1.ownsRow w.heap.size 5 1 (.slice (some ⟨w.heap.size, 0, none⟩) c c) c ((List.replicate c 0).map (Value.int .u8)) := by
    have e : (madeCells #[Value.int IntKind.u8 0] c).toList = (List.replicate c 0).map (Value.int .u8) := by
      apply List.ext_getElem <;> simp [madeCells, Nat.mod_one]
    rw [← e]; simpa using hown
  clear hown hgr
  go_wp2_with fail
  go_loopw [3, 14] (fun t s wr => ∃ (m k : Nat) (buf : List Int), k ≤ c ∧ m ≤ N ∧ t = .int .u64 m ∧ s = .int .i64 k ∧ m = N / 10 ^ k ∧ Num.Laid (Num.natText N) c k buf ∧
      wr.ownsRow w.heap.size 5 1 (.slice (some ⟨w.heap.size, 0, none⟩) c c) c (buf.map (Value.int .u8)) ∧ Below w.heap.size w wr)
    (fun _ s _ => c - (intOf s).toNat)
  case atStart => exact ⟨N, 0, _, by omega, by omega, rfl, rfl, by simp, Num.laid_start _ _, hown0, hbl⟩
  case round =>
    obtain ⟨m, k, buf, hk, hm, rfl, rfl, hmk, hlaid, hown, hbw⟩ := hrel
    have HM := Lib.hid hmk; clear hmk
    have HL := Lib.hid hlaid; clear hlaid
    have HO := Lib.hid hown; clear hown
    by_cases hlt : k < c
    · have hcell : ∃ v, wr.cell? ⟨w.heap.size, c - 1 - k, none⟩ = some v := by
        rw [HO.out.cellAt _ (by omega)]
        exact ⟨_, List.getElem?_eq_getElem (by simp [HL.out.1]; omega)⟩
      obtain ⟨v, hcell⟩ := hcell
      have hfr : wr.frozen? ⟨w.heap.size, c - 1 - k, none⟩ = false := HO.out.frozenAt _
      have hmb : m ≤ 18446744073709551615 := by have := HN.out; omega
      go_wp2_with fail
      go_roundw
      case rel =>
        have HO2 := HO.out.stored (c - 1 - k) (.int .u8 (48 + (m : Int) % 10))
        refine ⟨m / 10, k + 1, _, by omega, by omega, by go_num, by go_num, by rw [HM.out, Nat.pow_succ, Nat.div_div_eq_div_mul], Num.laid_step N c k m buf HC.out (by have := HN.out; omega) hlt HM.out HL.out, ?_, hbw.setCell (Nat.le_refl _) _⟩
        rw [List.map_set]; exact HO2.1
      case measure => simp [intOf]; omega
    · have hkc : k = c := by omega
      subst hkc
      have hb := Num.laid_end _ _ _ ((Num.natText_len N).trans HC.out) HL.out
      have hown := HO.out
      rw [hb, List.map_map] at hown
      have hcv := Kit.conv_own wr w.heap.size w.heap.size k k (Num.natText N) ((Num.natText_len N).trans HC.out) hown
      have HT : Hid (Num.intText n = if n < 0 then 45 :: Num.natText N else Num.natText N) := by have := Num.intText_nat n; rw [HN.out] at this; exact this
      have hTl : (Num.natText N).length ≤ 20 := by rw [Num.natText_len]; exact Num.cnt_le N
      clear hb hown
      generalize Num.natText N = T at *
      by_cases hneg : n < 0
      · go_wp2_with fail
        go_ret
        exact ⟨by rw [HT.out, if_pos hneg, ByteArray.mk_append_mk]; rfl, hbw⟩
      · go_wp2_with fail
        go_ret
        exact ⟨by rw [HT.out, if_neg (by omega)]; rfl, hbw⟩
end Go.Proofs.YtamjfbjkdicmcaaGreatDoor.ImplFmt
