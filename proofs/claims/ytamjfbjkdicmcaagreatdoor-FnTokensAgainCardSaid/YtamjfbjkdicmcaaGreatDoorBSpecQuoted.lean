/-
  spec.l2Quoted: the text in single quotes that it reads at a place. It writes nothing that was there.
-/
import Derived.Test.YtamjfbjkdicmcaaGreatDoorBSpecRead2
namespace Go.Proofs.YtamjfbjkdicmcaaGreatDoor.SpecQuoted
open Go.RowKit
open Strs SpecTok SpecName SpecRead2
theorem info5 : (Tryz.prog.info? 5).map (fun i => (i.zero, i.size, i.bytes)) = some (some (.int .u8 0), 1, 1) := by kernel_rfl
theorem byte39 (c : UInt8) (h : (c.toNat : Int) = 39) : c = 39 := UInt8.toNat_inj.1 (show c.toNat = 39 by omega)
set_option maxRecDepth 10000 in
set_option maxHeartbeats 4000000 in
theorem quoted_any (s : ByteArray) (A : Int) (p : Nat) (w : World) (hA : A = p) (hp : p < s.size) (hs : s.size ≤ 1048576) :
    Calls Tryz.prog 39 #[.string s, .int .i64 A] w fun e w' => e = .returned (tv (Tok.quoted s.data.toList p)) ∧ Below w.heap.size w w' := by
  subst hA
  obtain ⟨i0, hi, hz0, hz1, hz2⟩ := info_parts info5
  have hL : s.data.toList.length = s.size := len_list s
  have HLEN := Lib.hid hL; clear hL
  go_enter Tryz.func39, Tryz.ntmps39
  go_wp2_with fail
  go_loopw [6, 7] (fun v j wr => ∃ (f i : Nat) (out : _root_.List UInt8), i ≤ s.size ∧ s.size < f + i ∧ out.length ≤ i ∧ j = .int .i64 i ∧ Tok.quo s.data.toList (s.data.toList.length + 1) (p + 1) [] = Tok.quo s.data.toList f i out ∧
      wr.ownsRow (w.heap.size + 1) 5 1 v out.length (out.map (fun b : UInt8 => Value.int .u8 b.toNat)) ∧ Below w.heap.size w wr ∧ w.heap.size + 1 ≤ wr.heap.size ∧
      wr.cell? ⟨w.heap.size, 0, none⟩ = some (.int .i64 0) ∧ wr.cell? ⟨w.heap.size, 1, none⟩ = some (.string ⟨#[]⟩) ∧ wr.cell? ⟨w.heap.size, 2, none⟩ = some (.int .i64 0) ∧ ∀ o, wr.frozen? ⟨w.heap.size, o, none⟩ = false) (fun _ j _ => s.size - (intOf j).toNat)
  case atStart =>
    refine ⟨s.data.toList.length + 1, p + 1, [], by omega, by have := HLEN.out; omega, by simp, by go_num, rfl, ?_, ((Below.refl _ _).alloc (Nat.le_refl _) _).alloc (by simp) _, by simp, ?_, ?_, ?_, ?_⟩
    · have := World.ownsRow_lit (base := w.heap.size + 1) (e := 5) (size := 1) (w.alloc (.cells #[.int .i64 0, .string ⟨#[]⟩, .int .i64 0] 31)) #[] 0 (by simp) (Nat.zero_le _) rfl
      simpa using this
    all_goals first | (intro o; go_simp) | go_simp
  case round =>
    obtain ⟨f, i, out, hil, hf1, hol, rfl, hq, hown, hbw, hsz, c0, c1, c2, hf⟩ := hrel
    have HQ := Lib.hid hq; clear hq
    obtain ⟨ra, rc, rfl⟩ := Kit.row_form hown
    have HO := Lib.hid hown; clear hown
    by_cases hlt : i < s.size
    · have hlt' : i < s.data.toList.length := by rw [HLEN.out]; exact hlt
      have hx : s.data.toList[i]'hlt' = s[i]'hlt := rfl
      obtain ⟨f, rfl⟩ : ∃ g, f = g + 1 := ⟨f - 1, by omega⟩
      by_cases h39 : ((s[i]'hlt).toNat : Int) = 39
      · have hc39 : s.data.toList[i]'hlt' = 39 := by rw [hx]; exact byte39 _ h39
        have t39 : (((s[i]'hlt).toNat : Int) == 39) = true := by simpa using h39
        by_cases hn1 : i + 1 < s.size
        · have hn1' : i + 1 < s.data.toList.length := by rw [HLEN.out]; exact hn1
          have hx1 : s.data.toList[i + 1]'hn1' = s[i + 1]'hn1 := rfl
          have hn1i : (i : Int) + 1 < (s.size : Int) := by omega
          by_cases h392 : ((s[i + 1]'hn1).toNat : Int) = 39
          · have u39 : (((s[i + 1]'hn1).toNat : Int) == 39) = true := by simpa using h392
            have v39 : (39 : Int) = ((s[i + 1]'hn1).toNat : Int) := by omega
            have hcc : s.data.toList[i + 1]? = some 39 := by
              rw [_root_.List.getElem?_eq_getElem hn1', hx1]; rw [byte39 _ h392]
            have HQ2 : Hid (Tok.quo s.data.toList (s.data.toList.length + 1) (p + 1) [] = Tok.quo s.data.toList f (i + 2) (out ++ [s[i + 1]'hn1])) := HQ.out.trans ((Tok.quo_two _ f i out hlt' hc39 hcc).trans (by rw [byte39 _ h392]))
            have w39 : ¬ ((s[i + 1]'hn1).toNat : Int) < 32 := by omega
            have x39 : ¬ (126 : Int) < ((s[i + 1]'hn1).toNat : Int) := by omega
            clear h39 hc39 hx hx1 h392 hcc v39
            go_wp2_with (at_builtin; refine wpList_append_own _ rfl _ _ 22 rfl (w.heap.size + 1) 5 i0 (.int .u8 0) 1 1 Tryz.underlying22 hi hz0 hz1 hz2 rfl (by decide) _ _ _ rfl (HO.out.alloc _) ⟨wr.heap.size, 0, none⟩ 1 1 [.int .u8 (((s[i + 1]'hn1).toNat : Int))] rfl rfl ?c1 ?c2 ?c3 ?c4 ?c5 ?_)
            case c1 => exact Kit.one_cells _ _ _
            case c2 => exact Kit.one_byte _
            case c3 => unfold maxLen; omega
            case c4 => omega
            case c5 => simp; omega
            intro v2 w2 hown2 hgr2 _
            have hb2 := Kit.app_below hsz (Below.refl _ _) HO.out hgr2
            have hbw2 : Below w.heap.size w w2 := hbw.trans (hb2.mono (by omega))
            have hsz2 : w.heap.size + 1 ≤ w2.heap.size := Nat.le_trans hsz hb2.size
            have k0 : w2.cell? ⟨w.heap.size, 0, none⟩ = some (.int .i64 0) := by rw [hb2.cell (p := ⟨w.heap.size, 0, none⟩) (by simp)]; exact c0
            have k1 : w2.cell? ⟨w.heap.size, 1, none⟩ = some (.string ⟨#[]⟩) := by rw [hb2.cell (p := ⟨w.heap.size, 1, none⟩) (by simp)]; exact c1
            have k2 : w2.cell? ⟨w.heap.size, 2, none⟩ = some (.int .i64 0) := by rw [hb2.cell (p := ⟨w.heap.size, 2, none⟩) (by simp)]; exact c2
            have kf : ∀ o, w2.frozen? ⟨w.heap.size, o, none⟩ = false := fun o => (hb2.frozen (p := ⟨w.heap.size, o, none⟩) (by simp)).trans (hf o)
            have HO2 : Hid (w2.ownsRow (w.heap.size + 1) 5 1 v2 (out ++ [s[i + 1]'hn1]).length ((out ++ [s[i + 1]'hn1]).map (fun b : UInt8 => Value.int .u8 b.toNat))) := by
              show World.ownsRow _ _ _ _ _ _ _
              rw [_root_.List.map_append, _root_.List.length_append]; simpa using hown2
            clear hown2 hgr2 hb2 HO hbw hsz c0 c1 c2 hf
            go_wp2_with fail
            go_roundw
            case rel => exact ⟨f, i + 2, _, by omega, by omega, by simp; omega, by go_num, HQ2.out, HO2.out, hbw2, hsz2, k0, k1, k2, kf⟩
            case measure => simp [intOf]; omega
          · have u39 : (((s[i + 1]'hn1).toNat : Int) == 39) = false := by simpa using h392
            have hcc : ¬ s.data.toList[i + 1]? = some 39 := by
              rw [_root_.List.getElem?_eq_getElem hn1', hx1, Option.some.injEq]; intro e; exact h392 (by rw [e]; rfl)
            clear h392 hx1
            have HQ2 : Hid (Tok.quo s.data.toList (s.data.toList.length + 1) (p + 1) [] = some (out, i + 1)) := HQ.out.trans (Tok.quo_one _ f i out hlt' hc39 hcc)
            have HV := Lib.hid (Tok.quoted_some s.data.toList p (i + 1) out HQ2.out)
            clear h39 hc39 hx hcc
            by_cases h40 : (40 : Int) < (out.length : Int)
            · have HN : Hid (Tok.quoted s.data.toList p = none) := HV.out.trans (if_neg (by omega))
              go_wp2_with fail
              exact bodyPost_ret (v := .tuple #[.agg #[.int .i64 0, .string ⟨#[]⟩, .int .i64 0], .int .i64 0]) (by simp [results, Tryz.results39, go_sem, *]) rfl ⟨by rw [HN.out]; rfl, (by repeat (first | exact hbw | refine Below.setCell ?_ (by exact Nat.le_refl _) _))⟩
            · have HN : Hid (Tok.quoted s.data.toList p = some (⟨4, ⟨out.toArray⟩, 0⟩, i + 1)) := HV.out.trans (if_pos (by omega))
              have hcv := Kit.conv_row wr _ _ out HO.out
              go_wp2_with fail
              exact bodyPost_ret (v := .tuple #[.agg #[.int .i64 4, .string ⟨out.toArray⟩, .int .i64 0], .int .i64 ((i : Int) + 1)]) (by simp [results, Tryz.results39, go_sem, *]) rfl ⟨by rw [HN.out]; rfl, (by repeat (first | exact hbw | refine Below.setCell ?_ (by exact Nat.le_refl _) _))⟩
        · have hn1i : ¬ (i : Int) + 1 < (s.size : Int) := by omega
          have hcc : ¬ s.data.toList[i + 1]? = some 39 := by
            rw [_root_.List.getElem?_eq_none (by rw [HLEN.out]; omega)]; simp
          have HQ2 : Hid (Tok.quo s.data.toList (s.data.toList.length + 1) (p + 1) [] = some (out, i + 1)) := HQ.out.trans (Tok.quo_one _ f i out hlt' hc39 hcc)
          have HV := Lib.hid (Tok.quoted_some s.data.toList p (i + 1) out HQ2.out)
          clear h39 hc39 hx hcc
          by_cases h40 : (40 : Int) < (out.length : Int)
          · have HN : Hid (Tok.quoted s.data.toList p = none) := HV.out.trans (if_neg (by omega))
            go_wp2_with fail
            exact bodyPost_ret (v := .tuple #[.agg #[.int .i64 0, .string ⟨#[]⟩, .int .i64 0], .int .i64 0]) (by simp [results, Tryz.results39, go_sem, *]) rfl ⟨by rw [HN.out]; rfl, (by repeat (first | exact hbw | refine Below.setCell ?_ (by exact Nat.le_refl _) _))⟩
          · have HN : Hid (Tok.quoted s.data.toList p = some (⟨4, ⟨out.toArray⟩, 0⟩, i + 1)) := HV.out.trans (if_pos (by omega))
            have hcv := Kit.conv_row wr _ _ out HO.out
            go_wp2_with fail
            exact bodyPost_ret (v := .tuple #[.agg #[.int .i64 4, .string ⟨out.toArray⟩, .int .i64 0], .int .i64 ((i : Int) + 1)]) (by simp [results, Tryz.results39, go_sem, *]) rfl ⟨by rw [HN.out]; rfl, (by repeat (first | exact hbw | refine Below.setCell ?_ (by exact Nat.le_refl _) _))⟩
      · have hc39 : ¬ s.data.toList[i]'hlt' = 39 := by rw [hx]; intro e; exact h39 (by rw [e]; rfl)
        have t39 : (((s[i]'hlt).toNat : Int) == 39) = false := by simpa using h39
        by_cases h32 : ((s[i]'hlt).toNat : Int) < 32
        · have HN : Hid (Tok.quoted s.data.toList p = none) := Tok.quoted_none _ p (HQ.out.trans (Tok.quo_bad _ f i out hlt' hc39 (by rw [hx]; omega)))
          clear h39 hc39 hx
          go_wp2_with fail
          exact bodyPost_ret (v := .tuple #[.agg #[.int .i64 0, .string ⟨#[]⟩, .int .i64 0], .int .i64 0]) (by simp [results, Tryz.results39, go_sem, *]) rfl ⟨by rw [HN.out]; rfl, (by repeat (first | exact hbw | refine Below.setCell ?_ (by exact Nat.le_refl _) _))⟩
        · by_cases h126 : (126 : Int) < ((s[i]'hlt).toNat : Int)
          · have HN : Hid (Tok.quoted s.data.toList p = none) := Tok.quoted_none _ p (HQ.out.trans (Tok.quo_bad _ f i out hlt' hc39 (by rw [hx]; omega)))
            clear h39 hc39 hx
            go_wp2_with fail
            exact bodyPost_ret (v := .tuple #[.agg #[.int .i64 0, .string ⟨#[]⟩, .int .i64 0], .int .i64 0]) (by simp [results, Tryz.results39, go_sem, *]) rfl ⟨by rw [HN.out]; rfl, (by repeat (first | exact hbw | refine Below.setCell ?_ (by exact Nat.le_refl _) _))⟩
          · have HQ2 : Hid (Tok.quo s.data.toList (s.data.toList.length + 1) (p + 1) [] = Tok.quo s.data.toList f (i + 1) (out ++ [s[i]'hlt])) := HQ.out.trans ((Tok.quo_go _ f i out hlt' hc39 (by rw [hx]; omega)).trans (by rw [hx]))
            clear h39 hc39 hx
            go_wp2_with (at_builtin; refine wpList_append_own _ rfl _ _ 22 rfl (w.heap.size + 1) 5 i0 (.int .u8 0) 1 1 Tryz.underlying22 hi hz0 hz1 hz2 rfl (by decide) _ _ _ rfl (HO.out.alloc _) ⟨wr.heap.size, 0, none⟩ 1 1 [.int .u8 (((s[i]'hlt).toNat : Int))] rfl rfl ?gg1 ?gg2 ?gg3 ?gg4 ?gg5 ?_)
            try case gg1 => exact Kit.one_cells _ _ _
            case gg2 => first | exact Kit.one_byte _ | rfl
            case gg3 => unfold maxLen; omega
            case gg4 => omega
            case gg5 => first | omega | (simp; omega)
            intro v2 w2 hown2 hgr2 _
            have hb2 := Kit.app_below hsz (Below.refl _ _) HO.out hgr2
            have hbw2 : Below w.heap.size w w2 := hbw.trans (hb2.mono (by omega))
            have hsz2 : w.heap.size + 1 ≤ w2.heap.size := Nat.le_trans hsz hb2.size
            have k0 : w2.cell? ⟨w.heap.size, 0, none⟩ = some (.int .i64 0) := by rw [hb2.cell (p := ⟨w.heap.size, 0, none⟩) (by simp)]; exact c0
            have k1 : w2.cell? ⟨w.heap.size, 1, none⟩ = some (.string ⟨#[]⟩) := by rw [hb2.cell (p := ⟨w.heap.size, 1, none⟩) (by simp)]; exact c1
            have k2 : w2.cell? ⟨w.heap.size, 2, none⟩ = some (.int .i64 0) := by rw [hb2.cell (p := ⟨w.heap.size, 2, none⟩) (by simp)]; exact c2
            have kf : ∀ o, w2.frozen? ⟨w.heap.size, o, none⟩ = false := fun o => (hb2.frozen (p := ⟨w.heap.size, o, none⟩) (by simp)).trans (hf o)
            have HO2 : Hid (w2.ownsRow (w.heap.size + 1) 5 1 v2 (out ++ [s[i]'hlt]).length ((out ++ [s[i]'hlt]).map (fun b : UInt8 => Value.int .u8 b.toNat))) := by
              show World.ownsRow _ _ _ _ _ _ _
              rw [_root_.List.map_append, _root_.List.length_append]; simpa using hown2
            clear hown2 hgr2 hb2 HO hbw hsz c0 c1 c2 hf
            go_wp2_with fail
            go_roundw
            case rel => exact ⟨f, i + 1, _, by omega, by omega, by simp; omega, by go_num, HQ2.out, HO2.out, hbw2, hsz2, k0, k1, k2, kf⟩
            case measure => simp [intOf]; omega
    · have HN : Hid (Tok.quoted s.data.toList p = none) := Tok.quoted_none _ p (HQ.out.trans (Tok.quo_end _ f i out (by rw [HLEN.out]; exact hlt)))
      go_wp2_with fail
      exact bodyPost_ret (v := .tuple #[.agg #[.int .i64 0, .string ⟨#[]⟩, .int .i64 0], .int .i64 0]) (by simp [results, Tryz.results39, go_sem, *]) rfl ⟨by rw [HN.out]; rfl, (by repeat (first | exact hbw | refine Below.setCell ?_ (by exact Nat.le_refl _) _))⟩
end Go.Proofs.YtamjfbjkdicmcaaGreatDoor.SpecQuoted
