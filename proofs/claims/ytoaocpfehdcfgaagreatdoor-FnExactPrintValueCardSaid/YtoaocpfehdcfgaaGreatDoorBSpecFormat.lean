/-
  spec.FormatToken answers the text of a token. It writes nothing that was there. The token's text has at most 1048576 bytes.
-/
import Derived.Test.YtoaocpfehdcfgaaGreatDoorBSpecFmt
import Derived.Test.YtoaocpfehdcfgaaGreatDoorBSpecName
namespace Go.Proofs.YtoaocpfehdcfgaaGreatDoor.SpecFormat
open Go.RowKit
open Strs SpecTok
theorem info5 : (Tryz.prog.info? 5).map (fun i => (i.zero, i.size, i.bytes)) = some (some (.int .u8 0), 1, 1) := by kernel_rfl
set_option maxHeartbeats 1000000 in
theorem fmt_int (t : ByteArray) (n : Int) (w : World) (h1 : -9223372036854775808 ≤ n) (h2 : n ≤ 9223372036854775807) :
    Calls Tryz.prog 35 #[.agg #[.int .i64 3, .string t, .int .i64 n]] w fun e w' => e = .returned (.string ⟨(Tok.fmt 3 t.data.toList n).toArray⟩) ∧ Below w.heap.size w w' := by
  have HV : Hid (Tok.fmt 3 t.data.toList n = Num.intText n) := rfl
  go_enter Tryz.func35, Tryz.ntmps35
  go_wp2_with fail
  refine (SpecFmt.fmt_any n _ h1 h2).mono ?_
  rintro e w1 ⟨rfl, hb1⟩
  go_wp2_with fail
  go_ret
  exact ⟨by rw [HV.out]; rfl, ((Below.refl _ _).alloc (Nat.le_refl _) _).trans (hb1.mono (by simp))⟩
set_option maxHeartbeats 1000000 in
theorem fmt_text (t : ByteArray) (n : Int) (w : World) (ht : t.size ≤ 1048576) :
    Calls Tryz.prog 35 #[.agg #[.int .i64 4, .string t, .int .i64 n]] w fun e w' => e = .returned (.string ⟨(Tok.fmt 4 t.data.toList n).toArray⟩) ∧ Below w.heap.size w w' := by
  obtain ⟨i0, hi, hz0, hz1, hz2⟩ := info_parts info5
  have HV : Hid (Tok.fmt 4 t.data.toList n = 39 :: Tok.esc t.data.toList ++ [39]) := rfl
  go_enter Tryz.func35, Tryz.ntmps35
  go_wp2_with fail
  go_loopw [3, 4] (fun v j wr => ∃ (i : Nat) (l : _root_.List UInt8), i ≤ t.size ∧ j = .int .i64 i ∧ l = 39 :: Tok.esc (t.data.toList.take i) ∧ l.length ≤ 2 * i + 1 ∧ wr.ownsRow (w.heap.size + 1) 5 1 v l.length (l.map (fun b : UInt8 => Value.int .u8 b.toNat)) ∧
      wr.cell? ⟨w.heap.size, 1, none⟩ = some (.string t) ∧ Below w.heap.size w wr ∧ w.heap.size + 1 ≤ wr.heap.size) (fun _ j _ => t.size - (intOf j).toNat)
  case atStart =>
    refine ⟨0, [39], by omega, rfl, rfl, by simp, ?_, ?_, ((Below.refl _ _).alloc (Nat.le_refl _) _).alloc (by simp) _, by simp⟩
    · have := World.ownsRow_lit (base := w.heap.size + 1) (e := 5) (size := 1) (w.alloc (.cells #[.int .i64 4, .string t, .int .i64 n] 77)) #[.int .u8 39] 1 (by simp) (by unfold maxLen; omega) rfl
      simpa using this
    · go_simp
  case round =>
    obtain ⟨i, l, hi', rfl, hl, hln, hown, hcell, hbw, hsz⟩ := hrel
    have HL := Lib.hid hl; clear hl
    have HO := Lib.hid hown; clear hown
    by_cases hlt : i < t.size
    · have hlt' : i < t.data.toList.length := by rw [len_list]; exact hlt
      have hx : t.data.toList[i]'hlt' = t[i]'hlt := rfl
      have HE := Lib.hid (Tok.esc_take t.data.toList i hlt')
      rw [hx] at HE
      clear hx
      by_cases hq : ((t[i]'hlt).toNat : Int) = 39
      · have hqq : (((t[i]'hlt).toNat : Int) == 39) = true := by simpa using hq
        have h39 : (t[i]'hlt) = 39 := UInt8.toNat_inj.1 (by have : (t[i]'hlt).toNat = 39 := by omega
                                                            rw [this]; rfl)
        have HN : Hid (39 :: Tok.esc (t.data.toList.take (i + 1)) = l ++ [39] ++ [t[i]'hlt]) := by
          show _ = _; rw [HE.out, if_pos h39, HL.out, h39]; simp
        clear hq h39
        go_wp2_with (at_builtin; refine wpList_append_own _ rfl _ _ 103 rfl (w.heap.size + 1) 5 i0 (.int .u8 0) 1 1 Tryz.underlying103 hi hz0 hz1 hz2 rfl (by decide) _ _ _ rfl (HO.out.alloc _) ⟨wr.heap.size, 0, none⟩ 1 1 [.int .u8 (39)] rfl rfl ?c1 ?c2 ?c3 ?c4 ?c5 ?_)
        case c1 => exact Kit.one_cells _ _ _
        case c2 => exact Kit.one_byte _
        case c3 => unfold maxLen; omega
        case c4 => omega
        case c5 => have := hsz; simp; omega
        intro v1 w1 hown1 hgr1 _
        have hb1 := Kit.app_below hsz (Below.refl _ _) HO.out hgr1
        have hcell1 : w1.cell? ⟨w.heap.size, 1, none⟩ = some (.string t) := by rw [hb1.cell (p := ⟨w.heap.size, 1, none⟩) (by simp)]; exact hcell
        have hbw1 : Below w.heap.size w w1 := hbw.trans (hb1.mono (by omega))
        have hsz1 : w.heap.size + 1 ≤ w1.heap.size := Nat.le_trans hsz hb1.size
        have HO1 := Lib.hid hown1
        clear hown1 hgr1 hb1 HO hcell hbw hsz
        go_wp2_with (at_builtin; refine wpList_append_own _ rfl _ _ 103 rfl (w.heap.size + 1) 5 i0 (.int .u8 0) 1 1 Tryz.underlying103 hi hz0 hz1 hz2 rfl (by decide) _ _ _ rfl (HO1.out.alloc _) ⟨w1.heap.size, 0, none⟩ 1 1 [.int .u8 (((t[i]'hlt).toNat : Int))] rfl rfl ?d1 ?d2 ?d3 ?d4 ?d5 ?_)
        case d1 => exact Kit.one_cells _ _ _
        case d2 => exact Kit.one_byte _
        case d3 => unfold maxLen; omega
        case d4 => omega
        case d5 => have := hsz1; simp; omega
        intro v2 w2 hown2 hgr2 _
        have hb2 := Kit.app_below hsz1 (Below.refl _ _) HO1.out hgr2
        have hcell2 : w2.cell? ⟨w.heap.size, 1, none⟩ = some (.string t) := by rw [hb2.cell (p := ⟨w.heap.size, 1, none⟩) (by simp)]; exact hcell1
        have hbw2 : Below w.heap.size w w2 := hbw1.trans (hb2.mono (by omega))
        have hsz2 : w.heap.size + 1 ≤ w2.heap.size := Nat.le_trans hsz1 hb2.size
        have HO2 : Hid (w2.ownsRow (w.heap.size + 1) 5 1 v2 (l ++ [39] ++ [t[i]'hlt]).length ((l ++ [39] ++ [t[i]'hlt]).map (fun b : UInt8 => Value.int .u8 b.toNat))) := by
          show World.ownsRow _ _ _ _ _ _ _
          rw [_root_.List.map_append, _root_.List.map_append, _root_.List.length_append, _root_.List.length_append]; simpa using hown2
        clear hown2 hgr2 hb2 HO1 hcell1 hbw1 hsz1
        go_wp2_with fail
        go_roundw
        case rel => exact ⟨i + 1, _, by omega, by go_num, HN.out.symm, by simp; omega, HO2.out, hcell2, hbw2, hsz2⟩
        case measure => simp [intOf]; omega
      · have hqq : (((t[i]'hlt).toNat : Int) == 39) = false := by simpa using hq
        have HN : Hid (39 :: Tok.esc (t.data.toList.take (i + 1)) = l ++ [t[i]'hlt]) := by
          show _ = _; rw [HE.out, if_neg (fun e => hq (by rw [e]; rfl)), HL.out]; simp
        clear hq
        go_wp2_with (at_builtin; refine wpList_append_own _ rfl _ _ 103 rfl (w.heap.size + 1) 5 i0 (.int .u8 0) 1 1 Tryz.underlying103 hi hz0 hz1 hz2 rfl (by decide) _ _ _ rfl (HO.out.alloc _) ⟨wr.heap.size, 0, none⟩ 1 1 [.int .u8 (((t[i]'hlt).toNat : Int))] rfl rfl ?e1 ?e2 ?e3 ?e4 ?e5 ?_)
        case e1 => exact Kit.one_cells _ _ _
        case e2 => exact Kit.one_byte _
        case e3 => unfold maxLen; omega
        case e4 => omega
        case e5 => have := hsz; simp; omega
        intro v2 w2 hown2 hgr2 _
        have hb2 := Kit.app_below hsz (Below.refl _ _) HO.out hgr2
        have hcell2 : w2.cell? ⟨w.heap.size, 1, none⟩ = some (.string t) := by rw [hb2.cell (p := ⟨w.heap.size, 1, none⟩) (by simp)]; exact hcell
        have hbw2 : Below w.heap.size w w2 := hbw.trans (hb2.mono (by omega))
        have hsz2 : w.heap.size + 1 ≤ w2.heap.size := Nat.le_trans hsz hb2.size
        have HO2 : Hid (w2.ownsRow (w.heap.size + 1) 5 1 v2 (l ++ [t[i]'hlt]).length ((l ++ [t[i]'hlt]).map (fun b : UInt8 => Value.int .u8 b.toNat))) := by
          show World.ownsRow _ _ _ _ _ _ _
          rw [_root_.List.map_append, _root_.List.length_append]; simpa using hown2
        clear hown2 hgr2 hb2 HO hcell hbw hsz
        go_wp2_with fail
        go_roundw
        case rel => exact ⟨i + 1, _, by omega, by go_num, HN.out.symm, by simp; omega, HO2.out, hcell2, hbw2, hsz2⟩
        case measure => simp [intOf]; omega
    · have HN : Hid (39 :: Tok.esc t.data.toList ++ [39] = l ++ [39]) := by
        have h1 : t.data.toList.take i = t.data.toList := _root_.List.take_of_length_le (by rw [len_list]; omega)
        show _ = _; rw [HL.out, h1]
      go_wp2_with (at_builtin; refine wpList_append_own _ rfl _ _ 103 rfl (w.heap.size + 1) 5 i0 (.int .u8 0) 1 1 Tryz.underlying103 hi hz0 hz1 hz2 rfl (by decide) _ _ _ rfl (HO.out.alloc _) ⟨wr.heap.size, 0, none⟩ 1 1 [.int .u8 (39)] rfl rfl ?f1 ?f2 ?f3 ?f4 ?f5 ?_)
      case f1 => exact Kit.one_cells _ _ _
      case f2 => exact Kit.one_byte _
      case f3 => unfold maxLen; omega
      case f4 => omega
      case f5 => have := hsz; simp; omega
      intro v2 w2 hown2 hgr2 _
      have hb2 := Kit.app_below hsz (Below.refl _ _) HO.out hgr2
      have hbw2 : Below w.heap.size w w2 := hbw.trans (hb2.mono (by omega))
      have HO2 : Hid (w2.ownsRow (w.heap.size + 1) 5 1 v2 (l ++ [39]).length ((l ++ [39]).map (fun b : UInt8 => Value.int .u8 b.toNat))) := by
        show World.ownsRow _ _ _ _ _ _ _
        rw [_root_.List.map_append, _root_.List.length_append]; simpa using hown2
      have hcv := Kit.conv_row w2 _ v2 (l ++ [39]) HO2.out
      clear hown2 hgr2 hb2 HO hcell hbw
      generalize l ++ [39] = out at *
      go_wp2_with fail
      go_ret
      exact ⟨by rw [HV.out, HN.out]; rfl, hbw2⟩
set_option maxHeartbeats 1000000 in
theorem fmt_symbol (t : ByteArray) (n : Int) (w : World) (ht : t.size ≤ 1048576) :
    Calls Tryz.prog 35 #[.agg #[.int .i64 5, .string t, .int .i64 n]] w fun e w' => e = .returned (.string ⟨(Tok.fmt 5 t.data.toList n).toArray⟩) ∧ Below w.heap.size w w' := by
  have HV : Hid ((⟨(Tok.fmt 5 t.data.toList n).toArray⟩ : ByteArray) = ⟨#[35]⟩ ++ t) := by
    show _ = _
    apply ByteArray.ext
    rw [ByteArray.data_append]
    show (35 :: t.data.toList).toArray = #[35] ++ t.data
    apply Array.toList_inj.1
    simp
  go_enter Tryz.func35, Tryz.ntmps35
  go_wp2_with fail
  go_ret
  exact ⟨by rw [HV.out]; rfl, (Below.refl _ _).alloc (Nat.le_refl _) _⟩
set_option maxHeartbeats 1000000 in
theorem fmt_plain (k : Int) (t : ByteArray) (n : Int) (w : World) (h3 : k ≠ 3) (h4 : k ≠ 4) (h5 : k ≠ 5) :
    Calls Tryz.prog 35 #[.agg #[.int .i64 k, .string t, .int .i64 n]] w fun e w' => e = .returned (.string ⟨(Tok.fmt k t.data.toList n).toArray⟩) ∧ Below w.heap.size w w' := by
  have HV : Hid ((⟨(Tok.fmt k t.data.toList n).toArray⟩ : ByteArray) = t) := by
    show _ = _; unfold Tok.fmt; rw [if_neg h3, if_neg h4, if_neg h5]
  have t3 : (k == 3) = false := by rw [beq_eq_false_iff_ne]; exact h3
  have t4 : (k == 4) = false := by rw [beq_eq_false_iff_ne]; exact h4
  have t5 : (k == 5) = false := by rw [beq_eq_false_iff_ne]; exact h5
  clear h3 h4 h5
  go_enter Tryz.func35, Tryz.ntmps35
  go_wp2_with fail
  go_ret
  exact ⟨by rw [HV.out]; rfl, (Below.refl _ _).alloc (Nat.le_refl _) _⟩
theorem fmt_any (k : Int) (t : ByteArray) (n : Int) (w : World) (ht : t.size ≤ 1048576) (h1 : -9223372036854775808 ≤ n) (h2 : n ≤ 9223372036854775807) :
    Calls Tryz.prog 35 #[.agg #[.int .i64 k, .string t, .int .i64 n]] w fun e w' => e = .returned (.string ⟨(Tok.fmt k t.data.toList n).toArray⟩) ∧ Below w.heap.size w w' := by
  by_cases h3 : k = 3
  · subst h3; exact fmt_int t n w h1 h2
  · by_cases h4 : k = 4
    · subst h4; exact fmt_text t n w ht
    · by_cases h5 : k = 5
      · subst h5; exact fmt_symbol t n w ht
      · exact fmt_plain k t n w h3 h4 h5
end Go.Proofs.YtoaocpfehdcfgaaGreatDoor.SpecFormat
