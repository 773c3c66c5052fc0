/-
  impl.leadingSelector: the parts with a colon with which a text begins, or its letters and digits. It writes nothing that was there.
-/
import Derived.Test.YtfhjkicfnehjiaaDoorImplToken
namespace Go.Proofs.YtfhjkicfnehjiaaDoor.ImplRead
open Go.RowKit
open Strs

set_option maxRecDepth 10000 in
set_option maxHeartbeats 400000 in
theorem selector_any (s : ByteArray) (w : World) (hs : s.size ≤ 1048576) :
    Calls Tryd.prog 62 #[.string s] w fun e w' => e = .returned (.string (s.extract 0 (Tok.selLen s.data.toList))) ∧ Below w.heap.size w w' := by
  have hsl := Tok.len_list s
  have HV : Hid (Tok.selLen s.data.toList = if Tok.selGo s.data.toList (s.data.toList.length + 1) 0 = 0 then Tok.run s.data.toList 0 else Tok.selGo s.data.toList (s.data.toList.length + 1) 0) := rfl
  have KW := fun e w => Lib.hid (word_at s e w)
  have KC := fun e b w h => Lib.hid (colon_at s e b w h)
  have KZ := fun w => Lib.hid (ImplTok.word_any s w)
  unfold ImplTok.Word at KZ
  go_enter Tryd.func62, Tryd.ntmps62
  go_wp2_with fail
  go_loopw [3] (fun v wr => ∃ f e : Nat, e ≤ s.size ∧ s.size < f + e ∧ v = .int .i64 e ∧ Tok.selGo s.data.toList (s.data.toList.length + 1) 0 = Tok.selGo s.data.toList f e ∧ Below w.heap.size w wr) (fun v _ => s.size - (intOf v).toNat)
  case atStart => exact ⟨s.data.toList.length + 1, 0, Nat.zero_le _, by omega, rfl, rfl, Below.refl _ _⟩
  case round =>
    obtain ⟨f, e, hel, hfe, rfl, hg, hbw⟩ := hrel
    have HG := Lib.hid hg; clear hg
    obtain ⟨f, rfl⟩ : ∃ g, f = g + 1 := ⟨f - 1, by have := HG; omega⟩
    have hr := Tok.run_le s.data.toList e (by rw [hsl]; exact hel)
    rw [hsl] at hr
    have KW1 := fun w => KW e w
    have KC1 := fun b w h => KC (Tok.run s.data.toList e) b w h
    have hxs : (s.extract e (Tok.run s.data.toList e)).size = Tok.run s.data.toList e - e := by
      rw [← Tok.len_list, Tok.ext_data, List.length_take, List.length_drop, hsl]; omega
    by_cases hre : Tok.run s.data.toList e = e
    · have hx : ((s.extract e (Tok.run s.data.toList e)).toList == []) = true := by
        rw [ByteArray.toList_eq, beq_iff_eq]
        exact List.eq_nil_of_length_eq_zero (by rw [Tok.len_list, hxs]; omega)
      have HS : Hid (Tok.selGo s.data.toList (s.data.toList.length + 1) 0 = e) := HG.out.trans (Tok.selGo_stop _ _ _ (fun h => by omega))
      by_cases he : e = 0
      · have HR : Hid (s.extract 0 (Tok.selLen s.data.toList) = s.extract 0 (Tok.run s.data.toList 0)) := by show _ = _; rw [HV.out, if_pos (by rw [HS.out]; exact he)]
        have e0 : ((e : Int) == 0) = true := by rw [beq_iff_eq]; omega
        clear HG HS he
        clear KC1 KC HV
        generalize s.extract e (Tok.run s.data.toList e) = x at *
        go_wp2_with fail
        refine (KW1 _).out.mono ?_
        rintro e' w3 ⟨rfl, hb3⟩
        have HB3 := hbw.trans (hb3.mono hbw.size)
        clear hb3 hbw
        go_wp2_with fail
        refine (KZ _).out.mono ?_
        rintro e' w5 ⟨rfl, hb5⟩
        go_wp2_with fail
        go_ret
        exact ⟨by rw [HR.out]; rfl, HB3.trans (hb5.mono HB3.size)⟩
      · have HR : Hid (s.extract 0 (Tok.selLen s.data.toList) = s.extract 0 e) := by
          show _ = _
          rw [HV.out, if_neg (by rw [HS.out]; exact he), HS.out]
        have e0 : ((e : Int) == 0) = false := by rw [beq_eq_false_iff_ne]; omega
        clear HG HS he
        clear KC1 KC HV
        generalize s.extract e (Tok.run s.data.toList e) = x at *
        go_wp2_with fail
        refine (KW1 _).out.mono ?_
        rintro e' w3 ⟨rfl, hb3⟩
        have HB3 := hbw.trans (hb3.mono hbw.size)
        clear hb3 hbw
        go_wp2_with fail
        go_ret
        exact ⟨by rw [HR.out]; rfl, HB3⟩
    · have hlt : e < Tok.run s.data.toList e := by omega
      have hx : ((s.extract e (Tok.run s.data.toList e)).toList == []) = false := by
        rw [ByteArray.toList_eq, beq_eq_false_iff_ne]
        intro h
        have h2 := congrArg List.length h
        rw [Tok.len_list, hxs] at h2
        simp at h2; omega
      cases hc : Tok.colon s.data.toList (Tok.run s.data.toList e) with
      | true =>
        have KC2 := fun w => KC1 true w hc
        have hcl := Tok.colon_lt _ _ hc
        rw [hsl] at hcl
        have HG2 : Hid (Tok.selGo s.data.toList (s.data.toList.length + 1) 0 = Tok.selGo s.data.toList f (Tok.run s.data.toList e + 1)) := HG.out.trans (Tok.selGo_go _ _ _ ⟨hlt, hc⟩)
        clear KC1 KC hc HG
        generalize Tok.run s.data.toList e = r at *
        generalize s.extract e r = x at *
        have hxi : (e : Int) + (x.size : Int) = (r : Int) := by omega
        go_wp2_with fail
        refine (KW1 _).out.mono ?_
        rintro e' w3 ⟨rfl, hb3⟩
        have HB3 := hbw.trans (hb3.mono hbw.size)
        go_wp2_with fail
        refine (KC2 _).out.mono ?_
        rintro e' w4 ⟨rfl, hb4⟩
        have HB4 := HB3.trans (hb4.mono HB3.size)
        clear hb3 hb4 HB3
        go_wp2_with fail
        go_roundw
        case rel => exact ⟨f, r + 1, by omega, by omega, by first | go_num | (congr 1; omega), HG2.out, HB4⟩
        case measure => simp [intOf]; omega
      | false =>
        have KC2 := fun w => KC1 false w hc
        have HS : Hid (Tok.selGo s.data.toList (s.data.toList.length + 1) 0 = e) := HG.out.trans (Tok.selGo_stop _ _ _ (fun h => by rw [hc] at h; cases h.2))
        by_cases he : e = 0
        · have HR : Hid (s.extract 0 (Tok.selLen s.data.toList) = s.extract 0 (Tok.run s.data.toList 0)) := by show _ = _; rw [HV.out, if_pos (by rw [HS.out]; exact he)]
          have e0 : ((e : Int) == 0) = true := by rw [beq_iff_eq]; omega
          clear HG HS he
          clear KC1 KC HV hc
          generalize Tok.run s.data.toList e = r at *
          generalize s.extract e r = x at *
          have hxi : (e : Int) + (x.size : Int) = (r : Int) := by omega
          go_wp2_with fail
          refine (KW1 _).out.mono ?_
          rintro e' w3 ⟨rfl, hb3⟩
          have HB3 := hbw.trans (hb3.mono hbw.size)
          clear hb3 hbw
          go_wp2_with fail
          refine (KC2 _).out.mono ?_
          rintro e' w4 ⟨rfl, hb4⟩
          have HB4 := HB3.trans (hb4.mono HB3.size)
          clear HB3 hb4
          go_wp2_with fail
          refine (KZ _).out.mono ?_
          rintro e' w5 ⟨rfl, hb5⟩
          go_wp2_with fail
          go_ret
          exact ⟨by rw [HR.out]; rfl, HB4.trans (hb5.mono HB4.size)⟩
        · have HR : Hid (s.extract 0 (Tok.selLen s.data.toList) = s.extract 0 e) := by
            show _ = _
            rw [HV.out, if_neg (by rw [HS.out]; exact he), HS.out]
          have e0 : ((e : Int) == 0) = false := by rw [beq_eq_false_iff_ne]; omega
          clear HG HS he
          clear KC1 KC HV hc
          generalize Tok.run s.data.toList e = r at *
          generalize s.extract e r = x at *
          have hxi : (e : Int) + (x.size : Int) = (r : Int) := by omega
          go_wp2_with fail
          refine (KW1 _).out.mono ?_
          rintro e' w3 ⟨rfl, hb3⟩
          have HB3 := hbw.trans (hb3.mono hbw.size)
          clear hb3 hbw
          go_wp2_with fail
          refine (KC2 _).out.mono ?_
          rintro e' w4 ⟨rfl, hb4⟩
          have HB4 := HB3.trans (hb4.mono HB3.size)
          clear HB3 hb4
          go_wp2_with fail
          go_ret
          exact ⟨by rw [HR.out]; rfl, HB4⟩
end Go.Proofs.YtfhjkicfnehjiaaDoor.ImplRead
