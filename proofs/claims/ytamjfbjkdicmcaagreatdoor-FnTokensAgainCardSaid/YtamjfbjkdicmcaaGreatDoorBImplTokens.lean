/-
  impl.Tokens: the tokens of a source, in a row of its own. It writes nothing that was there. The source has at most 1048576 bytes.
-/
import Derived.Test.YtamjfbjkdicmcaaGreatDoorBImplNext
import Derived.Test.YtamjfbjkdicmcaaGreatDoorBImplSkip
import Derived.Test.YtamjfbjkdicmcaaGreatDoorBSpecTokens
namespace Go.Proofs.YtamjfbjkdicmcaaGreatDoor.ImplTokens
open Go.RowKit
open Strs SpecTokens
set_option maxRecDepth 10000 in
set_option maxHeartbeats 1000000 in
theorem tokens_big (s : ByteArray) (w : World) (h4 : 4000 < s.size) :
    Calls Tryz.prog 5 #[.string s] w (SpecTokens.Read (Tok.tokens s) w) := by
  have HV := Lib.hid (Tok.tokens_long s h4)
  have h4i : (4000 : Int) < (s.size : Int) := by omega
  go_enter Tryz.func5, Tryz.ntmps5
  go_wp2_with fail
  go_ret2
  rw [HV.out]
  exact ⟨rfl, Below.refl _ _⟩
set_option maxRecDepth 10000 in
set_option maxHeartbeats 4000000 in
theorem tokens_small (s : ByteArray) (w : World) (hM : Max w) (h4 : ¬ 4000 < s.size) :
    Calls Tryz.prog 5 #[.string s] w (SpecTokens.Read (Tok.tokens s) w) := by
  obtain ⟨i0, hi, hz0, hz1, hz2⟩ := info_parts infoT
  have hsl := Tok.len_list s
  have HV : Hid (Tok.tokens s = Tok.from_ s 0 []) := Tok.tokens_short s h4
  have h4i : ¬ (4000 : Int) < (s.size : Int) := by omega
  go_enter Tryz.func5, Tryz.ntmps5
  go_wp2_with fail
  go_loopw [0, 4] (fun x v wr => ∃ (p : Nat) (acc : _root_.List Tok.T), p ≤ s.size ∧ acc.length ≤ 800 ∧ x = .string (Tok.rest s p) ∧ Tok.tokens s = Tok.from_ s p acc ∧
      wr.ownsRow w.heap.size 31 3 v acc.length (row acc) ∧ Below w.heap.size w wr) (fun x _ _ => ImplSkip.strLen x)
  case atStart => exact ⟨0, [], Nat.zero_le _, by simp, by rw [Tok.rest_zero], HV.out, World.ownsRow_nil _ _ _ _, Below.refl _ _⟩
  case round =>
    obtain ⟨p, acc, hpl, hacc, rfl, hgo, hown, hbw⟩ := hrel
    have HGO := Lib.hid hgo; clear hgo
    obtain ⟨ra, rc, rfl⟩ := Kit.row_form hown
    have HO := Lib.hid hown; clear hown
    have hbs := hbw.size
    have HM := Lib.hid (hM.keep hbw)
    have hrz := Tok.rest_size s p
    have KS := Lib.hid (ImplSkip.skip_any (Tok.rest s p) wr HM.out (by omega))
    have HF := Lib.hid (Tok.skip_from s acc ((Tok.rest s p).size + 1) p hpl (by omega))
    rw [Tok.rest_data] at KS
    have HLEN : Hid (ImplSkip.strLen (.string (Tok.rest s p)) = s.size - p) := hrz
    generalize Tok.skip ((Tok.rest s p).size + 1) (s.data.toList.drop p) = r at *
    cases r with
    | none =>
      have HN : Hid (Tok.tokens s = none) := HGO.out.trans HF.out
      go_wp2_with fail
      refine KS.out.mono ?_
      rintro e w1 ⟨rfl, hb1⟩
      have HB1 := hbw.trans (hb1.mono hbs)
      go_wp2_with fail
      go_ret2
      rw [HN.out]
      exact ⟨rfl, HB1⟩
    | some m =>
      obtain ⟨q, hpq, hql, rfl, hfr, hnx⟩ := HF.out
      have HNX := Lib.hid hnx; clear hnx
      have HG2 : Hid (Tok.tokens s = Tok.from_ s q acc) := HGO.out.trans hfr
      clear HGO hfr HF
      have HR : Hid ((⟨(s.data.toList.drop q).toArray⟩ : ByteArray) = Tok.rest s q) := Tok.ba_ext (by rw [Tok.rest_data])
      unfold ImplSkip.Left at KS
      simp only [HR.out] at KS
      have hqz := Tok.rest_size s q
      by_cases hlt : q < s.size
      · have hlt' : q < s.data.toList.length := by rw [hsl]; exact hlt
        have hp0 : 0 < (Tok.rest s q).size := by omega
        have hx : s.data.toList[q]'hlt' = (Tok.rest s q)[0]'hp0 := by
          have h1 : 0 < (Tok.rest s q).data.toList.length := by rw [Tok.len_list]; exact hp0
          show _ = (Tok.rest s q).data.toList[0]'h1
          simp only [Tok.rest_data, _root_.List.getElem_drop, Nat.add_zero]
        have hne : ((Tok.rest s q).toList == []) = false := by
          rw [ByteArray.toList_eq, beq_eq_false_iff_ne]; intro h
          have h2 : (Tok.rest s q).size = 0 := by rw [← Tok.len_list, h]; rfl
          omega
        have HSH := Lib.hid (Tok.next_rest s q (s.data.toList[q]'hlt') hql)
        have KT := fun w h => Lib.hid (ImplRead.token_any (Tok.rest s q) w h (by omega) hp0)
        have HST := fun t e => Lib.hid (Tok.next_step s q hlt' t e)
        obtain ⟨hn1, hn2⟩ := HNX.out hlt'
        have H1 := Lib.hid (Tok.from_none s q acc hlt' hn1 hn2)
        have H2 := fun t e => Lib.hid (Tok.from_full s q acc hlt' hn1 hn2 t e)
        have H3 := fun t e => Lib.hid (Tok.from_more s q acc hlt' hn1 hn2 t e)
        rw [hx] at HSH H1
        simp only [hx] at H2 H3 HST
        have HRR := fun e => Lib.hid (show (Tok.rest s q).extract e (Tok.rest s q).size = Tok.rest s (q + e) from by
          rw [show (Tok.rest s q).extract e (Tok.rest s q).size = Tok.rest (Tok.rest s q) e from rfl, Tok.rest_rest])
        clear hn1 hn2 hx HNX HR
        generalize Tok.next s q ((Tok.rest s q)[0]'hp0) = u at *
        generalize Tok.next (Tok.rest s q) 0 ((Tok.rest s q)[0]'hp0) = r at *
        generalize Tok.rest s q = y at *
        cases r with
        | none =>
          have hu : u = none := HSH.out
          have HN : Hid (Tok.tokens s = none) := HG2.out.trans (H1.out hu)
          clear H1 H2 H3 HST HSH HG2
          go_wp2_with fail
          refine KS.out.mono ?_
          rintro e w1 ⟨rfl, hb1⟩
          have HB1 := hbw.trans (hb1.mono hbs)
          have HM1 := Lib.hid (HM.out.keep hb1)
          go_wp2_with fail
          refine (KT _ HM1.out).out.mono ?_
          rintro e w2 ⟨k, t, n, rfl, hb2⟩
          have HB2 := HB1.trans (hb2.mono HB1.size)
          go_wp2_with fail
          go_ret2
          rw [HN.out]
          exact ⟨rfl, HB2.alloc HB2.size _⟩
        | some z =>
          obtain ⟨t, e0⟩ := z
          have hu : u = some (t, q + e0) := HSH.out
          obtain ⟨hpe, hes, hk⟩ := (HST t (q + e0)).out hu
          have e00 : ((e0 : Int) == 0) = false := by rw [beq_eq_false_iff_ne]; omega
          have HE := HRR e0
          clear HRR
          by_cases h8 : (acc.length : Int) = 800
          · have t8 : ((acc.length : Int) == 800) = true := by rw [beq_iff_eq]; exact h8
            have HN : Hid (Tok.tokens s = none) := HG2.out.trans ((H2 t (q + e0)).out hu (by omega))
            clear H1 H2 H3 HST HSH HG2 hk
            go_wp2_with fail
            refine KS.out.mono ?_
            rintro e w1 ⟨rfl, hb1⟩
            have HB1 := hbw.trans (hb1.mono hbs)
            have HM1 := Lib.hid (HM.out.keep hb1)
            go_wp2_with fail
            refine (KT _ HM1.out).out.mono ?_
            rintro e w2 ⟨rfl, hb2⟩
            have HB2 := HB1.trans (hb2.mono HB1.size)
            go_wp2_with fail
            go_ret2
            rw [HN.out]
            exact ⟨rfl, HB2.alloc HB2.size _⟩
          · have t8 : ((acc.length : Int) == 800) = false := by rw [beq_eq_false_iff_ne]; exact h8
            have HG3 : Hid (Tok.tokens s = Tok.from_ s (q + e0) (acc ++ [t])) := HG2.out.trans ((H3 t (q + e0)).out hu (by omega))
            clear H1 H2 H3 HST HSH HG2 hk
            go_wp2_with fail
            refine KS.out.mono ?_
            rintro e w1 ⟨rfl, hb1⟩
            have HB1 := hbw.trans (hb1.mono hbs)
            have HM1 := Lib.hid (HM.out.keep hb1)
            have HO1 := Lib.hid (own_keep HO.out hb1)
            clear HO
            go_wp2_with fail
            refine (KT _ HM1.out).out.mono ?_
            rintro e w2 ⟨rfl, hb2⟩
            have HB2 : Hid (Below w.heap.size w w2) := HB1.trans (hb2.mono HB1.size)
            have hs2 : w.heap.size ≤ w2.heap.size := HB2.out.size
            have HO2 := Lib.hid (own_keep HO1.out hb2)
            clear HO1 hb1 hb2 HB1 hbw
            go_wp2_with (at_builtin; go_must (refine wpList_append_own _ rfl _ _ 24 rfl w.heap.size 31 i0 (.agg #[.int .i64 0, .string ByteArray.empty, .int .i64 0]) 3 32 Tryz.underlying24 hi hz0 hz1 hz2 rfl (by decide) _ _ _ rfl ((HO2.out.alloc _).alloc _) ⟨w2.heap.size + 1, 0, none⟩ 1 1 [.int .i64 t.kind, .string t.text, .int .i64 t.num] rfl rfl ?c1 ?c2 ?c3 ?c4 ?c5 ?_))
            case c1 => exact three_cells2 w2 _ _ _ _ _
            case c2 => exact three_one _ _ _
            case c3 => unfold maxLen; omega
            case c4 => omega
            case c5 => simp; omega
            intro v' w3 hown' hgr _
            have HOWN := Lib.hid hown'
            have HGR := Lib.hid hgr
            clear hown' hgr
            go_wp2_with fail
            go_roundw
            case rel =>
              refine ⟨q + e0, acc ++ [t], hes, by simp; omega, by first | rw [HE.out] | rw [← hqz, HE.out], HG3.out, ?_, ?_⟩
              · rw [row_snoc]
                simpa [cells] using HOWN.out
              · exact app_below3 (Nat.le_refl _) (HB2.out.alloc hs2 _) (HO2.out.alloc _) HGR.out
            case measure =>
              rw [HLEN.out]
              simp [ImplSkip.strLen]; omega
      · have hnil : ((Tok.rest s q).toList == []) = true := by
          rw [ByteArray.toList_eq, beq_iff_eq]
          exact _root_.List.eq_nil_of_length_eq_zero (by rw [Tok.len_list]; omega)
        have HE : Hid (Tok.tokens s = some acc) := HG2.out.trans (Tok.from_end s q acc hlt)
        clear HNX HG2
        go_wp2_with fail
        refine KS.out.mono ?_
        rintro e w1 ⟨rfl, hb1⟩
        have HB1 := hbw.trans (hb1.mono hbs)
        have HO1 := Lib.hid (own_keep HO.out hb1)
        go_wp2_with fail
        go_ret2
        rw [HE.out]
        exact ⟨_, rfl, HO1.out, HB1⟩
theorem tokens_any (s : ByteArray) (w : World) (hM : Max w) :
    Calls Tryz.prog 5 #[.string s] w (SpecTokens.Read (Tok.tokens s) w) := by
  by_cases h : 4000 < s.size
  · exact tokens_big s w h
  · exact tokens_small s w hM h
end Go.Proofs.YtamjfbjkdicmcaaGreatDoor.ImplTokens
