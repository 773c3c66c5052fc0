/-
  The walk of laws.FnTokensAgain: it returns true at every code.
-/
import Derived.Test.YtamjfbjkdicmcaaGreatDoorBAgain
import Derived.Test.YtamjfbjkdicmcaaGreatDoorBDrawTok
import Derived.Test.YtamjfbjkdicmcaaGreatDoorBImplFormat
import Derived.Test.YtamjfbjkdicmcaaGreatDoorBImplTokens
import Derived.Test.YtamjfbjkdicmcaaGreatDoorBJoinCore
import Derived.Test.YtamjfbjkdicmcaaGreatDoorBRowsT
import Derived.OpenShut
namespace Go.Proofs.YtamjfbjkdicmcaaGreatDoor.fnTokensAgainW
open Go.RowKit
open Strs SpecTokens RowsT JoinMath JoinWalks
theorem info9 : (Tryz.prog.info? 9).map (fun i => (i.zero, i.size, i.bytes)) = some (some (.string ByteArray.empty), 1, 16) := by kernel_rfl
def txt (t : Tok.T) : ByteArray := ⟨(Tok.text t).toArray⟩
theorem total_texts (ts : _root_.List Tok.T) : ∀ i, i ≤ ts.length → total (ts.map txt) i = Tok.texts (ts.take i) := by
  intro i
  induction i with
  | zero => intro _; rfl
  | succ i ih =>
    intro h
    rw [_root_.List.take_succ_eq_append_getElem (by omega), Tok.texts_snoc, total, ih (by omega)]
    congr 1
    have : at_ (ts.map txt) i = txt ts[i] := by
      unfold at_
      rw [_root_.List.getD, _root_.List.getElem?_map, _root_.List.getElem?_eq_getElem (by omega)]; rfl
    rw [this]
    show (txt ts[i]).size = _
    rw [← Tok.len_list]; rfl
theorem map_data (ts : _root_.List Tok.T) : (ts.map txt).map (fun x => x.data.toList) = ts.map Tok.text := by
  rw [_root_.List.map_map]; rfl
theorem lies_own {w : World} {g base cap : Nat} {xs : _root_.List ByteArray} (h : w.ownsRow base 9 1 (.slice (some ⟨g, 0, none⟩) xs.length cap) xs.length (xs.map Value.string)) : Lies w g 0 xs ∧ g < w.heap.size := by
  refine ⟨fun j hj => ?_, (h.lt g rfl).2⟩
  rw [Nat.zero_add, h.cellAt j (by omega)]
  simp [at_, _root_.List.getD, hj]
theorem row_some {w : World} {base n : Nat} {v : Value} {xs : _root_.List Value} (h : w.ownsRow base 9 1 v n xs) (hp : 1 ≤ n) : ∃ g cap, v = .slice (some ⟨g, 0, none⟩) n cap := by
  obtain ⟨_, ⟨_, hn⟩ | ⟨g, cap, cur, rfl, _⟩⟩ := h
  · omega
  · exact ⟨g, cap, rfl⟩
theorem row_cap {w : World} {base g n cap : Nat} {xs : _root_.List Value} (h : w.ownsRow base 9 1 (.slice (some ⟨g, 0, none⟩) n cap) n xs) : n ≤ cap := by
  obtain ⟨_, ⟨h', _⟩ | ⟨g', cap', cur, h', _, _, hn, _⟩⟩ := h
  · simp at h'
  · simp at h'; omega
theorem join_own {w : World} {g base cap : Nat} (ts : _root_.List Tok.T) (ht : Tok.texts ts ≤ 308) (hc : ts.length ≤ 308) (h : w.ownsRow base 9 1 (.slice (some ⟨g, 0, none⟩) ts.length cap) ts.length ((ts.map txt).map Value.string)) :
    Calls Tryz.prog 9 #[.slice (some ⟨g, 0, none⟩) ts.length cap, .string ⟨#[32]⟩] w fun e w' => e = .returned (.string ⟨(Lib.join (ts.map Tok.text) [32]).toArray⟩) ∧ Below w.heap.size w w' := by
  have hl : (ts.map txt).length = ts.length := _root_.List.length_map _
  rw [← hl] at h
  obtain ⟨hL, hg⟩ := lies_own h
  have hcap := row_cap h
  have htot : total (ts.map txt) ts.length ≤ 1048576 := by
    rw [total_texts ts ts.length (Nat.le_refl _), _root_.List.take_length]; omega
  have hout : Out (ts.map txt) ⟨#[32]⟩ = Lib.join (ts.map Tok.text) [32] := by
    have h1 : acc (ts.map txt) ⟨#[32]⟩ (ts.map txt).length = Lib.join (ts.map Tok.text) [32] := by
      rw [acc_all, map_data]
    have h2 : Fits (ts.map txt) ⟨#[32]⟩ = true := by
      have := Tok.joined_len ts
      unfold Fits
      rw [h1, decide_eq_true_eq]; omega
    unfold Out
    rw [if_pos h2, h1]
  have := impl_some g 0 cap ts.length (ts.map txt) ⟨#[32]⟩ w hl hL hg (by omega) htot (by omega) (by show 1 ≤ 1048576; omega)
  rw [hout] at this
  exact this
set_option maxRecDepth 10000 in
set_option maxHeartbeats 4000000 in
theorem walk (w : World) (a : Option Addr) (len cap : Nat) (zs : List Int) (hz : Kit.IsRow .u8 w a len cap zs) (hM : Max w) :
    Calls Tryz.prog 3 #[.slice a len cap] w fun e w' => e = .returned (.bool true) ∧ Below w.heap.size w w' := by
  obtain ⟨i0, hi, hz0, hz1, hz2⟩ := info_parts info9
  have hm : len ≤ maxLen := by
    rcases hz with ⟨_, rfl, _⟩ | ⟨x, _, hl, hm, _⟩
    · exact Nat.zero_le _
    · omega
  have HR := Lib.hid (CurF.raw_of hz)
  clear hz
  unfold maxLen at hm
  by_cases hbig : (1048576 : Int) < (len : Int)
  · go_enter Tryz.func3, Tryz.ntmps3
    go_wp2
    go_ret
    exact ⟨rfl, Below.refl _ _⟩
  · have hlen : len ≤ 1048576 := by omega
    generalize (fun j => zs.getD j 0) = z at *
    have HD := fun w h => Lib.hid (DrawTok.tokens_any a len cap z w hlen h)
    have hds : (DrawTok.drawn len z).size ≤ 308 := DrawTok.textF_size len z _
    generalize DrawTok.drawn len z = S at *
    have HS := fun w => Lib.hid ((SpecTokens.tokens_small S w (by omega)).mono fun e w' h => read_form h)
    have HI := fun w h => Lib.hid ((ImplTokens.tokens_any S w h).mono fun e w' h => read_form h)
    have hgood : (∀ t ∈ (Tok.tokens S).getD [], Tok.Good t) ∧ Tok.texts ((Tok.tokens S).getD []) ≤ 308 := by
      cases h : Tok.tokens S with
      | none => exact ⟨fun t ht => (by cases ht), Nat.zero_le _⟩
      | some r =>
        have := Tok.tokens_good S r h
        exact ⟨this.1, Nat.le_trans this.2 hds⟩
    generalize (Tok.tokens S).getD [] = ts at *
    generalize (Tok.tokens S).isSome = ok at *
    obtain ⟨hg, ht⟩ := hgood
    have hcount := Nat.le_trans (Tok.texts_count ts hg) ht
    have HG := Lib.hid hg
    have hjl := Tok.joined_len ts
    have HJ : Hid (Tok.tokens ⟨(Lib.join (ts.map Tok.text) [32]).toArray⟩ = some ts) :=
      Tok.read_joined _ ts hg (by omega) (by rw [← Tok.len_list]; show (Lib.join (ts.map Tok.text) [32]).length ≤ 4000; omega) rfl
    have HA : Hid (∀ w, Strs.Max w → Calls Tryz.prog 5 #[.string ⟨(Lib.join (ts.map Tok.text) [32]).toArray⟩] w fun e w' => ∃ v, e = .returned (.tuple #[v, .bool true]) ∧ w'.ownsRow w.heap.size 31 3 v ts.length (row ts) ∧ Below w.heap.size w w') := fun w h => by
      refine (ImplTokens.tokens_any ⟨(Lib.join (ts.map Tok.text) [32]).toArray⟩ w h).mono fun e w' h => ?_
      have := read_form h
      rw [HJ.out] at this
      exact this
    clear HJ hg
    go_enter Tryz.func3, Tryz.ntmps3
    go_wp2_with (first | (go_at_call 4; go_in) | fail)
    refine (HD w HR.out).out.mono ?_
    rintro e w1 ⟨rfl, hb1⟩
    have R1 := Lib.hid (HR.out.keep hb1)
    have M1 := Lib.hid (hM.keep hb1)
    clear HR
    go_wp2_with fail
    refine (HI w1 M1.out).out.mono ?_
    rintro e w2 ⟨v1, rfl, ho1, hb2⟩
    have A1 := Lib.hid (at_own ho1)
    obtain ⟨va, vc, rfl⟩ := Kit.row_form ho1
    have B2 := Lib.hid (hb1.trans (hb2.mono hb1.size))
    have R2 := Lib.hid (R1.out.keep hb2)
    have M2 := Lib.hid (M1.out.keep hb2)
    clear ho1 hb1 hb2 R1 M1
    go_wp2_with fail
    refine (HD w2 R2.out).out.mono ?_
    rintro e w3 ⟨rfl, hb3⟩
    have A3 := Lib.hid (A1.out.keep hb3)
    have B3 := Lib.hid (B2.out.trans (hb3.mono B2.out.size))
    have M3 := Lib.hid (M2.out.keep hb3)
    clear hb3 A1 B2 M2 R2
    go_wp2_with fail
    refine (HS w3).out.mono ?_
    rintro e w4 ⟨v2, rfl, _, hb4⟩
    have A4 := Lib.hid (A3.out.keep hb4)
    have B4 := Lib.hid (B3.out.trans (hb4.mono B3.out.size))
    have M4 := Lib.hid (M3.out.keep hb4)
    clear hb4 A3 B3 M3 HD HS HI
    go_wp2_with fail
    generalize hn : ts.length = n at *
    have HN := Lib.hid hn; clear hn
    go_loopw [7, 8] (fun v j wr => ∃ (i g c : Nat), i ≤ n ∧ j = .int .i64 i ∧ v = .slice (some ⟨g, 0, none⟩) i c ∧ wr.ownsRow w4.heap.size 9 1 v i (((ts.take i).map txt).map Value.string) ∧ Below w4.heap.size w4 wr) (fun _ j _ => n - (intOf j).toNat)
    case atStart => exact ⟨0, w4.heap.size, 0, by omega, rfl, rfl, World.ownsRow_lit w4 #[] 0 (Nat.le_refl _) (Nat.zero_le _) rfl, (Below.refl _ _).alloc (Nat.le_refl _) _⟩
    case round =>
      obtain ⟨i, g, c, hin, rfl, rfl, hown, hbw⟩ := hrel
      have HO := Lib.hid hown; clear hown
      have hbs := hbw.size
      have AR := A4.out.keep hbw
      have MR := Lib.hid (M4.out.keep hbw)
      by_cases hlt : i < n
      · obtain ⟨_, _, heq, hcc⟩ := AR
        rw [HN.out] at heq
        have hil : i < ts.length := by rw [HN.out]; exact hlt
        obtain ⟨b, hab, hcell⟩ := hcc (by omega)
        simp only [Value.slice.injEq, true_and] at heq
        obtain ⟨rfl, rfl⟩ := heq
        subst hab
        obtain ⟨a0, a1, a2⟩ := hcell i hil
        obtain ⟨-, hsz, hn0, hn9⟩ := HG.out ts[i] (_root_.List.getElem_mem hil)
        have htl : (Tok.text ts[i]).length ≤ 308 := by
          have h1 := total_texts ts ts.length (Nat.le_refl _)
          have h2 := at_le (ts.map txt) i ts.length hil
          rw [h1, _root_.List.take_length] at h2
          have h3 : at_ (ts.map txt) i = txt ts[i] := by
            unfold at_
            rw [_root_.List.getD, _root_.List.getElem?_map, _root_.List.getElem?_eq_getElem hil]; rfl
          rw [h3] at h2
          have h4 : (txt ts[i]).size = (Tok.text ts[i]).length := by rw [← Tok.len_list]; rfl
          omega
        have KF := fun h => Lib.hid (ImplFormat.fmt_any ts[i].kind ts[i].text ts[i].num wr h (by omega) (by omega) (by omega))
        have HT : Hid (txt ts[i] = (⟨(Tok.fmt ts[i].kind ts[i].text.data.toList ts[i].num).toArray⟩ : ByteArray)) := rfl
        have HTK : Hid (((ts.take (i + 1)).map txt).map Value.string = ((ts.take i).map txt).map Value.string ++ [.string (txt ts[i])]) := by
          show _ = _
          rw [_root_.List.take_succ_eq_append_getElem hil, _root_.List.map_append, _root_.List.map_append]; rfl
        rw [← HT.out] at KF
        clear hcell hcc HT hsz htl hn0 hn9
        generalize hys1 : ((ts.take (i + 1)).map txt).map Value.string = ys1 at *
        have HTK1 := Lib.hid hys1.symm; clear hys1
        generalize ((ts.take i).map txt).map Value.string = ys at *
        generalize txt ts[i] = x at *
        generalize ts[i] = t at *
        go_wp2_with fail
        refine (KF MR.out).out.mono ?_
        rintro e w5 ⟨rfl, hb5⟩
        have HO5 := Lib.hid (own_keep HO.out hb5)
        have HB5 : Hid (Below w4.heap.size w4 w5) := hbw.trans (hb5.mono hbs)
        have hs5 : w4.heap.size ≤ w5.heap.size := HB5.out.size
        clear hb5 hbw HO KF MR
        go_wp2_with (at_builtin; go_must (refine wpList_append_own _ rfl _ _ 28 rfl w4.heap.size 9 i0 (.string ByteArray.empty) 1 16 Tryz.underlying28 hi hz0 hz1 hz2 rfl (by decide) _ _ _ rfl (HO5.out.alloc _) ⟨w5.heap.size, 0, none⟩ 1 1 [.string x] rfl rfl ?c1 ?c2 ?c3 ?c4 ?c5 ?_))
        case c1 => exact Kit.one_cells _ _ _
        case c2 => exact Kit.one_str _
        case c3 => unfold maxLen; omega
        case c4 => omega
        case c5 => simp; omega
        intro v' w6 hown' hgr _
        have HOWN := Lib.hid hown'
        obtain ⟨g', c', hv'⟩ := row_some hown' (by omega)
        have HB6 : Hid (Below w4.heap.size w4 w6) := Kit.app_below (Nat.le_refl _) HB5.out HO5.out hgr
        clear hown' hgr HO5 HB5
        subst hv'
        go_wp2_with fail
        go_roundw
        case rel =>
          refine ⟨i + 1, g', c', by omega, by go_num, rfl, ?_, HB6.out⟩
          rw [← HTK1.out, HTK.out]
          exact HOWN.out
        case measure => simp [intOf]; omega
      · obtain rfl : i = n := by omega
        have HO2 : Hid (wr.ownsRow w4.heap.size 9 1 (.slice (some ⟨g, 0, none⟩) i c) i ((ts.map txt).map Value.string)) := by
          have := HO.out
          rw [_root_.List.take_of_length_le (by rw [HN.out]; exact Nat.le_refl _)] at this
          exact this
        have AR2 := Lib.hid AR
        have HBR := Lib.hid (B4.out.trans (hbw.mono B4.out.size))
        have KJ : Hid (Calls Tryz.prog 9 #[.slice (some ⟨g, 0, none⟩) i c, .string ⟨#[32]⟩] wr fun e w' => e = .returned (.string ⟨(Lib.join (ts.map Tok.text) [32]).toArray⟩) ∧ Below wr.heap.size wr w') := by
          have h1 := HO2.out
          have h2 := HN.out
          have h3 : i ≤ 308 := hcount
          subst h2
          exact join_own ts ht h3 h1
        clear HO HO2 AR hbw A4 B4 M4 HG
        generalize (⟨(Lib.join (ts.map Tok.text) [32]).toArray⟩ : ByteArray) = J at *
        go_wp2_with fail
        refine KJ.out.mono ?_
        rintro e w5 ⟨rfl, hb5⟩
        have A5 := Lib.hid (AR2.out.keep hb5)
        have B5 := Lib.hid (HBR.out.trans (hb5.mono HBR.out.size))
        have M5 := Lib.hid (MR.out.keep hb5)
        clear hb5 AR2 HBR MR KJ
        go_wp2_with fail
        refine (HA.out _ M5.out).mono ?_
        rintro e w6 ⟨v3, rfl, ho6, hb6⟩
        have A6 := Lib.hid (A5.out.keep hb6)
        have B6 := Lib.hid (B5.out.trans (hb6.mono B5.out.size))
        have C6 : AtT w6 v3 ts := at_own (by rw [HN.out]; exact ho6)
        obtain ⟨xa, xc, rfl⟩ := Kit.row_form ho6
        have CH := Lib.hid C6
        clear ho6 hb6 A5 B5 M5 C6 HA
        cases ok with
        | false =>
          go_wp2_with fail
          go_ret
          exact ⟨rfl, B6.out⟩
        | true =>
          have tn : ((i : Int) != (i : Int)) = false := by simp
          go_wp2_with fail
          go_loopw [11] (fun j wz => ∃ k : Nat, k ≤ i ∧ j = .int .i64 k ∧ Below w6.heap.size w6 wz) (fun j _ => i - (intOf j).toNat)
          case atStart => exact ⟨0, by omega, rfl, Below.refl _ _⟩
          case round =>
            obtain ⟨k, hki, rfl, hbz⟩ := hrel
            by_cases hkl : k < i
            · have hkt : k < ts.length := by rw [HN.out]; exact hkl
              obtain ⟨_, _, heq1, hcc1⟩ := A6.out
              obtain ⟨_, _, heq2, hcc2⟩ := CH.out
              rw [HN.out] at heq1 heq2
              obtain ⟨b1, hab1, hcell1⟩ := hcc1 (by omega)
              obtain ⟨b2, hab2, hcell2⟩ := hcc2 (by omega)
              simp only [Value.slice.injEq, true_and] at heq1 heq2
              obtain ⟨rfl, rfl⟩ := heq1
              obtain ⟨rfl, rfl⟩ := heq2
              subst hab1 hab2
              obtain ⟨p0, p1, p2⟩ := hcell1 k hkt
              obtain ⟨q0, q1, q2⟩ := hcell2 k hkt
              clear hcell1 hcell2 hcc1 hcc2
              generalize ts[k] = t at *
              have r0 := cell_keep hbz p0
              have r1 := cell_keep hbz p1
              have r2 := cell_keep hbz p2
              have s0 := cell_keep hbz q0
              have s1 := cell_keep hbz q1
              have s2 := cell_keep hbz q2
              clear p0 p1 p2 q0 q1 q2
              go_wp2_with fail
              go_quiet (fail)
              go_wp2_with fail
              go_roundw
              case rel => exact ⟨k + 1, by omega, by go_num, below_drewN hbz _⟩
              case measure => simp [intOf]; omega
            · go_wp2_with fail
              go_ret
              exact ⟨rfl, B6.out.trans (hbz.mono B6.out.size)⟩
end Go.Proofs.YtamjfbjkdicmcaaGreatDoor.fnTokensAgainW
