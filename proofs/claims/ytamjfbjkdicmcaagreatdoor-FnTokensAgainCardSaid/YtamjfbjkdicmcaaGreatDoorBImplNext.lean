/-
  impl.leadingSelector: the parts with a colon with which a text begins, or its letters and digits. It writes nothing that was there.
-/
import Derived.Test.YtamjfbjkdicmcaaGreatDoorBImplToken
namespace Go.Proofs.YtamjfbjkdicmcaaGreatDoor.ImplRead
open Go.RowKit
open Strs
set_option maxRecDepth 10000 in
set_option maxHeartbeats 400000 in
theorem selector_any (s : ByteArray) (w : World) (hs : s.size ≤ 1048576) :
    Calls Tryz.prog 60 #[.string s] w fun e w' => e = .returned (.string (s.extract 0 (Tok.selLen s.data.toList))) ∧ Below w.heap.size w w' := by
  have hsl := Tok.len_list s
  have HV : Hid (Tok.selLen s.data.toList = if Tok.selGo s.data.toList (s.data.toList.length + 1) 0 = 0 then Tok.run s.data.toList 0 else Tok.selGo s.data.toList (s.data.toList.length + 1) 0) := rfl
  have KW := fun e w => Lib.hid (word_at s e w)
  have KC := fun e b w h => Lib.hid (colon_at s e b w h)
  have KZ := fun w => Lib.hid (ImplTok.word_any s w)
  unfold ImplTok.Word at KZ
  go_enter Tryz.func60, Tryz.ntmps60
  go_wp2_with fail
  go_loopw [3] (fun v wr => ∃ f e : Nat, e ≤ s.size ∧ s.size < f + e ∧ v = .int .i64 e ∧ Tok.selGo s.data.toList (s.data.toList.length + 1) 0 = Tok.selGo s.data.toList f e ∧ Below w.heap.size w wr) (fun v _ => s.size - (intOf v).toNat)
  case atStart => exact ⟨s.data.toList.length + 1, 0, Nat.zero_le _, by omega, rfl, rfl, Below.refl _ _⟩
  case round =>
    obtain ⟨f, e, hel, hfe, rfl, hg, hbw⟩ := hrel
    have HG := Lib.hid hg; clear hg
    obtain ⟨f, rfl⟩ : ∃ g, f = g + 1 := ⟨f - 1, by have := HG; omega⟩
    have hr := Tok.run_le s.data.toList e (by rw [hsl]; exact hel)
    rw [hsl] at hr
    have KW1 := fun w => KW e w
    have KC1 := fun b w h => KC (Tok.run s.data.toList e) b w h
    have hxs : (s.extract e (Tok.run s.data.toList e)).size = Tok.run s.data.toList e - e := by
      rw [← Tok.len_list, Tok.ext_data, List.length_take, List.length_drop, hsl]; omega
    by_cases hre : Tok.run s.data.toList e = e
    · have hx : ((s.extract e (Tok.run s.data.toList e)).toList == []) = true := by
        rw [ByteArray.toList_eq, beq_iff_eq]
        exact List.eq_nil_of_length_eq_zero (by rw [Tok.len_list, hxs]; omega)
      have HS : Hid (Tok.selGo s.data.toList (s.data.toList.length + 1) 0 = e) := HG.out.trans (Tok.selGo_stop _ _ _ (fun h => by omega))
      by_cases he : e = 0
      · have HR : Hid (s.extract 0 (Tok.selLen s.data.toList) = s.extract 0 (Tok.run s.data.toList 0)) := by show _ = _; rw [HV.out, if_pos (by rw [HS.out]; exact he)]
        have e0 : ((e : Int) == 0) = true := by rw [beq_iff_eq]; omega
        clear HG HS he
        clear KC1 KC HV
        generalize s.extract e (Tok.run s.data.toList e) = x at *
        go_wp2_with fail
        refine (KW1 _).out.mono ?_
        rintro e' w3 ⟨rfl, hb3⟩
        have HB3 := hbw.trans (hb3.mono hbw.size)
        clear hb3 hbw
        go_wp2_with fail
        refine (KZ _).out.mono ?_
        rintro e' w5 ⟨rfl, hb5⟩
        go_wp2_with fail
        go_ret
        exact ⟨by rw [HR.out]; rfl, HB3.trans (hb5.mono HB3.size)⟩
      · have HR : Hid (s.extract 0 (Tok.selLen s.data.toList) = s.extract 0 e) := by
          show _ = _
          rw [HV.out, if_neg (by rw [HS.out]; exact he), HS.out]
        have e0 : ((e : Int) == 0) = false := by rw [beq_eq_false_iff_ne]; omega
        clear HG HS he
        clear KC1 KC HV
        generalize s.extract e (Tok.run s.data.toList e) = x at *
        go_wp2_with fail
        refine (KW1 _).out.mono ?_
        rintro e' w3 ⟨rfl, hb3⟩
        have HB3 := hbw.trans (hb3.mono hbw.size)
        clear hb3 hbw
        go_wp2_with fail
        go_ret
        exact ⟨by rw [HR.out]; rfl, HB3⟩
    · have hlt : e < Tok.run s.data.toList e := by omega
      have hx : ((s.extract e (Tok.run s.data.toList e)).toList == []) = false := by
        rw [ByteArray.toList_eq, beq_eq_false_iff_ne]
        intro h
        have h2 := congrArg List.length h
        rw [Tok.len_list, hxs] at h2
        simp at h2; omega
      cases hc : Tok.colon s.data.toList (Tok.run s.data.toList e) with
      | true =>
        have KC2 := fun w => KC1 true w hc
        have hcl := Tok.colon_lt _ _ hc
        rw [hsl] at hcl
        have HG2 : Hid (Tok.selGo s.data.toList (s.data.toList.length + 1) 0 = Tok.selGo s.data.toList f (Tok.run s.data.toList e + 1)) := HG.out.trans (Tok.selGo_go _ _ _ ⟨hlt, hc⟩)
        clear KC1 KC hc HG
        generalize Tok.run s.data.toList e = r at *
        generalize s.extract e r = x at *
        have hxi : (e : Int) + (x.size : Int) = (r : Int) := by omega
        go_wp2_with fail
        refine (KW1 _).out.mono ?_
        rintro e' w3 ⟨rfl, hb3⟩
        have HB3 := hbw.trans (hb3.mono hbw.size)
        go_wp2_with fail
        refine (KC2 _).out.mono ?_
        rintro e' w4 ⟨rfl, hb4⟩
        have HB4 := HB3.trans (hb4.mono HB3.size)
        clear hb3 hb4 HB3
        go_wp2_with fail
        go_roundw
        case rel => exact ⟨f, r + 1, by omega, by omega, by first | go_num | (congr 1; omega), HG2.out, HB4⟩
        case measure => simp [intOf]; omega
      | false =>
        have KC2 := fun w => KC1 false w hc
        have HS : Hid (Tok.selGo s.data.toList (s.data.toList.length + 1) 0 = e) := HG.out.trans (Tok.selGo_stop _ _ _ (fun h => by rw [hc] at h; cases h.2))
        by_cases he : e = 0
        · have HR : Hid (s.extract 0 (Tok.selLen s.data.toList) = s.extract 0 (Tok.run s.data.toList 0)) := by show _ = _; rw [HV.out, if_pos (by rw [HS.out]; exact he)]
          have e0 : ((e : Int) == 0) = true := by rw [beq_iff_eq]; omega
          clear HG HS he
          clear KC1 KC HV hc
          generalize Tok.run s.data.toList e = r at *
          generalize s.extract e r = x at *
          have hxi : (e : Int) + (x.size : Int) = (r : Int) := by omega
          go_wp2_with fail
          refine (KW1 _).out.mono ?_
          rintro e' w3 ⟨rfl, hb3⟩
          have HB3 := hbw.trans (hb3.mono hbw.size)
          clear hb3 hbw
          go_wp2_with fail
          refine (KC2 _).out.mono ?_
          rintro e' w4 ⟨rfl, hb4⟩
          have HB4 := HB3.trans (hb4.mono HB3.size)
          clear HB3 hb4
          go_wp2_with fail
          refine (KZ _).out.mono ?_
          rintro e' w5 ⟨rfl, hb5⟩
          go_wp2_with fail
          go_ret
          exact ⟨by rw [HR.out]; rfl, HB4.trans (hb5.mono HB4.size)⟩
        · have HR : Hid (s.extract 0 (Tok.selLen s.data.toList) = s.extract 0 e) := by
            show _ = _
            rw [HV.out, if_neg (by rw [HS.out]; exact he), HS.out]
          have e0 : ((e : Int) == 0) = false := by rw [beq_eq_false_iff_ne]; omega
          clear HG HS he
          clear KC1 KC HV hc
          generalize Tok.run s.data.toList e = r at *
          generalize s.extract e r = x at *
          have hxi : (e : Int) + (x.size : Int) = (r : Int) := by omega
          go_wp2_with fail
          refine (KW1 _).out.mono ?_
          rintro e' w3 ⟨rfl, hb3⟩
          have HB3 := hbw.trans (hb3.mono hbw.size)
          clear hb3 hbw
          go_wp2_with fail
          refine (KC2 _).out.mono ?_
          rintro e' w4 ⟨rfl, hb4⟩
          have HB4 := HB3.trans (hb4.mono HB3.size)
          clear HB3 hb4
          go_wp2_with fail
          go_ret
          exact ⟨by rw [HR.out]; rfl, HB4⟩
end Go.Proofs.YtamjfbjkdicmcaaGreatDoor.ImplRead
namespace Go.Proofs.YtamjfbjkdicmcaaGreatDoor.ImplRead
open Go.RowKit
open Strs
set_option maxRecDepth 10000 in
set_option maxHeartbeats 1000000 in
theorem symbol_any (s : ByteArray) (w : World) (hs : s.size ≤ 1048576) (hp : 0 < s.size) :
    Calls Tryz.prog 27 #[.string s] w (Tv (Tok.selectorAt s 1) w) := by
  have HV := Lib.hid (Tok.selector_read s hp)
  have hxz : (Tok.rest s 1).size ≤ 1048576 := by rw [Tok.rest_size]; omega
  have hX : s.extract 1 s.size = Tok.rest s 1 := rfl
  generalize Tok.rest s 1 = x at *
  have HP : Hid (Tok.pick x = if (Tok.starts x 0 Tok.binaries).toList.isEmpty = false then Tok.starts x 0 Tok.binaries else x.extract 0 (Tok.selLen x.data.toList)) := rfl
  have KS := fun v w h => Lib.hid (ImplSigns.sign_any x v Tok.binaries w h)
  have KL := fun w => Lib.hid (selector_any x w hxz)
  have hop : (Tok.starts x 0 Tok.binaries).size ≤ 1048576 := Tok.starts_size x 0 Tok.binaries _ (by
    intro y hy
    simp only [Tok.binaries, List.mem_cons, List.not_mem_nil, or_false] at hy
    rcases hy with rfl | rfl | rfl | rfl | rfl | rfl | rfl | rfl | rfl | rfl | rfl | rfl | rfl | rfl | rfl <;> (show _ ≤ _; simp [ByteArray.size]))
  have hsl : (x.extract 0 (Tok.selLen x.data.toList)).size ≤ 1048576 := by rw [← Tok.len_list, Tok.ext_data, List.length_take, List.length_drop, Tok.len_list]; omega
  generalize Tok.starts x 0 Tok.binaries = op at *
  generalize x.extract 0 (Tok.selLen x.data.toList) = y at *
  have BX := Lib.hid (box_new w)
  have hpi : (1 : Int) ≤ (s.size : Int) := by omega
  by_cases he : op.toList.isEmpty = false
  · have hP : Tok.pick x = op := HP.out.trans (if_pos he)
    rw [hP] at HV
    have KI := fun w => Lib.hid (ImplCount.sel_any op w hop)
    have hne : (op.toList == []) = false := by rw [beq_eq_false_iff_ne]; intro h; rw [h] at he; cases he
    clear HP hP he KL hsl
    cases hsel : Tok.sel op with
    | true =>
      rw [hsel] at KI
      rw [HV.out, hsel]
      clear hsel HV
      go_enter Tryz.func27, Tryz.ntmps27
      go_wp2_with fail
      obtain ⟨W, hW, BXW⟩ : ∃ W, W = (w.alloc (.cells #[.int .i64 0, .string ⟨#[]⟩, .int .i64 0] 31)) ∧ Box w w.heap.size W := ⟨_, rfl, BX.out⟩
      rw [← hW]; clear hW BX
      go_region_held3 (fun w' => Box w w.heap.size w')
        (first | exact BXW.step (Below.refl _ _).drew | exact (BXW.step (Below.refl _ _).drew).step hb3 | go_keep)
        (first | (go_at_call 59; refine (ImplSigns.binaries_any _).mono ?_; rintro e' w3 ⟨la, lc, rfl, hat, hb3⟩) | (go_at_call 58; refine (KS _ _ hat).out.mono ?_; rintro e' w4 ⟨rfl, rfl⟩))
      have BX3 := Lib.hid ((BXW.step (Below.refl _ _).drew).step hb3)
      clear hat hb3 BXW KS
      go_wp2_with fail
      refine (KI _).out.mono ?_
      rintro e w5 ⟨rfl, hb5⟩
      obtain ⟨hbw, hz, c0, c1, c2, hf⟩ := BX3.out.step hb5
      clear hb5 BX3
      go_wp2_with fail
      exact bodyPost_ret (v := .tuple #[.agg #[.int .i64 5, .string op, .int .i64 0], .int .i64 (1 + (op.size : Int))]) (by simp [results, Tryz.results27, go_sem, *]) rfl ⟨rfl, (by repeat (first | assumption | refine Below.setCell ?_ (by exact Nat.le_refl _) _))⟩
    | false =>
      rw [hsel] at KI
      rw [HV.out, hsel]
      clear hsel HV
      go_enter Tryz.func27, Tryz.ntmps27
      go_wp2_with fail
      obtain ⟨W, hW, BXW⟩ : ∃ W, W = (w.alloc (.cells #[.int .i64 0, .string ⟨#[]⟩, .int .i64 0] 31)) ∧ Box w w.heap.size W := ⟨_, rfl, BX.out⟩
      rw [← hW]; clear hW BX
      go_region_held3 (fun w' => Box w w.heap.size w')
        (first | exact BXW.step (Below.refl _ _).drew | exact (BXW.step (Below.refl _ _).drew).step hb3 | go_keep)
        (first | (go_at_call 59; refine (ImplSigns.binaries_any _).mono ?_; rintro e' w3 ⟨la, lc, rfl, hat, hb3⟩) | (go_at_call 58; refine (KS _ _ hat).out.mono ?_; rintro e' w4 ⟨rfl, rfl⟩))
      have BX3 := Lib.hid ((BXW.step (Below.refl _ _).drew).step hb3)
      clear hat hb3 BXW KS
      go_wp2_with fail
      refine (KI _).out.mono ?_
      rintro e w5 ⟨rfl, hb5⟩
      obtain ⟨hbw, hz, c0, c1, c2, hf⟩ := BX3.out.step hb5
      clear hb5 BX3
      go_wp2_with fail
      exact bodyPost_ret (v := .tuple #[.agg #[.int .i64 0, .string ⟨#[]⟩, .int .i64 0], .int .i64 0]) (by simp [results, Tryz.results27, go_sem, *]) rfl ⟨0, _, 0, rfl, (by repeat (first | assumption | refine Below.setCell ?_ (by exact Nat.le_refl _) _))⟩
  · have hP : Tok.pick x = y := HP.out.trans (if_neg he)
    rw [hP] at HV
    have KI := fun w => Lib.hid (ImplCount.sel_any y w hsl)
    have hne : (op.toList == []) = true := by
      rw [Bool.not_eq_false, List.isEmpty_iff] at he
      rw [he]; rfl
    clear HP hP he
    cases hsel : Tok.sel y with
    | true =>
      rw [hsel] at KI
      rw [HV.out, hsel]
      clear hsel HV
      go_enter Tryz.func27, Tryz.ntmps27
      go_wp2_with fail
      obtain ⟨W, hW, BXW⟩ : ∃ W, W = (w.alloc (.cells #[.int .i64 0, .string ⟨#[]⟩, .int .i64 0] 31)) ∧ Box w w.heap.size W := ⟨_, rfl, BX.out⟩
      rw [← hW]; clear hW BX
      go_region_held3 (fun w' => Box w w.heap.size w')
        (first | exact BXW.step (Below.refl _ _).drew | exact (BXW.step (Below.refl _ _).drew).step hb3 | go_keep)
        (first | (go_at_call 59; refine (ImplSigns.binaries_any _).mono ?_; rintro e' w3 ⟨la, lc, rfl, hat, hb3⟩) | (go_at_call 58; refine (KS _ _ hat).out.mono ?_; rintro e' w4 ⟨rfl, rfl⟩))
      have BX3 := Lib.hid ((BXW.step (Below.refl _ _).drew).step hb3)
      clear hat hb3 BXW KS
      go_wp2_with fail
      refine (KL _).out.mono ?_
      rintro e w4 ⟨rfl, hb4⟩
      have BX4 := Lib.hid (BX3.out.step hb4)
      clear BX3 hb4
      go_wp2_with fail
      refine (KI _).out.mono ?_
      rintro e w5 ⟨rfl, hb5⟩
      obtain ⟨hbw, hz, c0, c1, c2, hf⟩ := BX4.out.step hb5
      clear hb5 BX4
      go_wp2_with fail
      exact bodyPost_ret (v := .tuple #[.agg #[.int .i64 5, .string y, .int .i64 0], .int .i64 (1 + (y.size : Int))]) (by simp [results, Tryz.results27, go_sem, *]) rfl ⟨rfl, (by repeat (first | assumption | refine Below.setCell ?_ (by exact Nat.le_refl _) _))⟩
    | false =>
      rw [hsel] at KI
      rw [HV.out, hsel]
      clear hsel HV
      go_enter Tryz.func27, Tryz.ntmps27
      go_wp2_with fail
      obtain ⟨W, hW, BXW⟩ : ∃ W, W = (w.alloc (.cells #[.int .i64 0, .string ⟨#[]⟩, .int .i64 0] 31)) ∧ Box w w.heap.size W := ⟨_, rfl, BX.out⟩
      rw [← hW]; clear hW BX
      go_region_held3 (fun w' => Box w w.heap.size w')
        (first | exact BXW.step (Below.refl _ _).drew | exact (BXW.step (Below.refl _ _).drew).step hb3 | go_keep)
        (first | (go_at_call 59; refine (ImplSigns.binaries_any _).mono ?_; rintro e' w3 ⟨la, lc, rfl, hat, hb3⟩) | (go_at_call 58; refine (KS _ _ hat).out.mono ?_; rintro e' w4 ⟨rfl, rfl⟩))
      have BX3 := Lib.hid ((BXW.step (Below.refl _ _).drew).step hb3)
      clear hat hb3 BXW KS
      go_wp2_with fail
      refine (KL _).out.mono ?_
      rintro e w4 ⟨rfl, hb4⟩
      have BX4 := Lib.hid (BX3.out.step hb4)
      clear BX3 hb4
      go_wp2_with fail
      refine (KI _).out.mono ?_
      rintro e w5 ⟨rfl, hb5⟩
      obtain ⟨hbw, hz, c0, c1, c2, hf⟩ := BX4.out.step hb5
      clear hb5 BX4
      go_wp2_with fail
      exact bodyPost_ret (v := .tuple #[.agg #[.int .i64 0, .string ⟨#[]⟩, .int .i64 0], .int .i64 0]) (by simp [results, Tryz.results27, go_sem, *]) rfl ⟨0, _, 0, rfl, (by repeat (first | assumption | refine Below.setCell ?_ (by exact Nat.le_refl _) _))⟩
set_option maxRecDepth 10000 in
set_option maxHeartbeats 1000000 in
theorem sign_tok (s : ByteArray) (w : World) :
    Calls Tryz.prog 28 #[.string s] w (Tv (if (Tok.starts s 0 Tok.binaries).toList.isEmpty = false then some (⟨6, Tok.starts s 0 Tok.binaries, 0⟩, (Tok.starts s 0 Tok.binaries).size) else if (Tok.starts s 0 Tok.marks).toList.isEmpty = false then some (⟨7, Tok.starts s 0 Tok.marks, 0⟩, (Tok.starts s 0 Tok.marks).size) else none) w) := by
  have KS := fun v xs w h => Lib.hid (ImplSigns.sign_any s v xs w h)
  have KB := fun v w h => KS v Tok.binaries w h
  have KM := fun v w h => KS v Tok.marks w h
  generalize Tok.starts s 0 Tok.binaries = op at *
  generalize Tok.starts s 0 Tok.marks = mk at *
  have BX := Lib.hid (box_new w)
  clear KS
  by_cases he : op.toList.isEmpty = false
  · rw [if_pos he]
    have hne : (op.toList == []) = false := by rw [beq_eq_false_iff_ne]; intro h; rw [h] at he; cases he
    clear he
    go_enter Tryz.func28, Tryz.ntmps28
    go_wp2_with fail
    refine (ImplSigns.binaries_any _).mono ?_
    rintro e w1 ⟨a, c, rfl, hat, hb1⟩
    have BX1 := Lib.hid (BX.out.step hb1)
    clear BX hb1
    go_wp2_with fail
    refine (KB _ _ hat).out.mono ?_
    rintro e w2 ⟨rfl, rfl⟩
    obtain ⟨hbw, hz, c0, c1, c2, hf⟩ := BX1.out
    clear hat BX1
    go_wp2_with fail
    exact bodyPost_ret (v := .tuple #[.agg #[.int .i64 6, .string op, .int .i64 0], .int .i64 op.size]) (by simp [results, Tryz.results28, go_sem, *]) rfl ⟨rfl, (by repeat (first | assumption | refine Below.setCell ?_ (by exact Nat.le_refl _) _))⟩
  · rw [if_neg he]
    have hne : (op.toList == []) = true := by
      rw [Bool.not_eq_false, List.isEmpty_iff] at he
      rw [he]; rfl
    clear he
    by_cases hm : mk.toList.isEmpty = false
    · rw [if_pos hm]
      clear hm
      go_enter Tryz.func28, Tryz.ntmps28
      go_wp2_with fail
      refine (ImplSigns.binaries_any _).mono ?_
      rintro e w1 ⟨a, c, rfl, hat, hb1⟩
      have BX1 := Lib.hid (BX.out.step hb1)
      clear BX hb1
      go_wp2_with fail
      refine (KB _ _ hat).out.mono ?_
      rintro e w2 ⟨rfl, rfl⟩
      clear hat
      go_wp2_with fail
      refine (marks_any _).mono ?_
      rintro e w3 ⟨a, c, rfl, hat, hb3⟩
      have BX3 := Lib.hid (BX1.out.step hb3)
      clear BX1 hb3
      go_wp2_with fail
      refine (KM _ _ hat).out.mono ?_
      rintro e w4 ⟨rfl, rfl⟩
      obtain ⟨hbw, hz, c0, c1, c2, hf⟩ := BX3.out
      clear hat BX3
      go_wp2_with fail
      exact bodyPost_ret (v := .tuple #[.agg #[.int .i64 7, .string mk, .int .i64 0], .int .i64 mk.size]) (by simp [results, Tryz.results28, go_sem, *]) rfl ⟨rfl, (by repeat (first | assumption | refine Below.setCell ?_ (by exact Nat.le_refl _) _))⟩
    · rw [if_neg hm]
      have hmz : mk.size = 0 := Tok.empty_size mk (by rw [Bool.not_eq_false] at hm; exact hm)
      clear hm
      go_enter Tryz.func28, Tryz.ntmps28
      go_wp2_with fail
      refine (ImplSigns.binaries_any _).mono ?_
      rintro e w1 ⟨a, c, rfl, hat, hb1⟩
      have BX1 := Lib.hid (BX.out.step hb1)
      clear BX hb1
      go_wp2_with fail
      refine (KB _ _ hat).out.mono ?_
      rintro e w2 ⟨rfl, rfl⟩
      clear hat
      go_wp2_with fail
      refine (marks_any _).mono ?_
      rintro e w3 ⟨a, c, rfl, hat, hb3⟩
      have BX3 := Lib.hid (BX1.out.step hb3)
      clear BX1 hb3
      go_wp2_with fail
      refine (KM _ _ hat).out.mono ?_
      rintro e w4 ⟨rfl, rfl⟩
      obtain ⟨hbw, hz, c0, c1, c2, hf⟩ := BX3.out
      clear hat BX3
      go_wp2_with fail
      exact bodyPost_ret (v := .tuple #[.agg #[.int .i64 7, .string mk, .int .i64 0], .int .i64 0]) (by simp [results, Tryz.results28, go_sem, *]) rfl ⟨7, mk, 0, rfl, (by repeat (first | assumption | refine Below.setCell ?_ (by exact Nat.le_refl _) _))⟩
end Go.Proofs.YtamjfbjkdicmcaaGreatDoor.ImplRead
namespace Go.Proofs.YtamjfbjkdicmcaaGreatDoor.ImplRead
open Go.RowKit
open Strs
theorem Tv.form {r : Option (Tok.T × Nat)} {w w' : World} {e : Ending} (h : Tv r w e w') : ∃ (k : Int) (t : ByteArray) (n m : Int), e = .returned (.tuple #[.agg #[.int .i64 k, .string t, .int .i64 n], .int .i64 m]) ∧ Below w.heap.size w w' ∧ ∀ w0 w2, Below w0.heap.size w0 w2 → Tv r w0 (.returned (.tuple #[.agg #[.int .i64 k, .string t, .int .i64 n], .int .i64 m])) w2 := by
  cases r with
  | none =>
    obtain ⟨k, t, n, rfl, hb⟩ := h
    exact ⟨k, t, n, 0, rfl, hb, fun w0 w2 hb2 => ⟨k, t, n, rfl, hb2⟩⟩
  | some x =>
    obtain ⟨x, m⟩ := x
    obtain ⟨rfl, hb⟩ := h
    exact ⟨_, _, _, _, rfl, hb, fun w0 w2 hb2 => ⟨rfl, hb2⟩⟩
set_option maxRecDepth 10000 in
set_option maxHeartbeats 1000000 in
theorem token_any (s : ByteArray) (w : World) (hM : Max w) (hs : s.size ≤ 1048576) (hp : 0 < s.size) :
    Calls Tryz.prog 11 #[.string s] w (Tv (Tok.next s 0 (s[0]'hp)) w) := by
  have HV : Hid (Tok.next s 0 (s[0]'hp) = if Tok.letter (s[0]'hp) = true then Tok.nameAt s 0 else if Tok.digit (s[0]'hp) = true then Tok.number s.data.toList 0 else if (s[0]'hp) = 39 then Tok.quoted s.data.toList 0 else if (s[0]'hp) = 35 then Tok.selectorAt s 1 else (if (Tok.starts s 0 Tok.binaries).toList.isEmpty = false then some (⟨6, Tok.starts s 0 Tok.binaries, 0⟩, (Tok.starts s 0 Tok.binaries).size) else if (Tok.starts s 0 Tok.marks).toList.isEmpty = false then some (⟨7, Tok.starts s 0 Tok.marks, 0⟩, (Tok.starts s 0 Tok.marks).size) else none)) := by
    show _ = _
    unfold Tok.next
    simp only [Nat.zero_add]
  have hpi : (0 : Int) < (s.size : Int) := by omega
  have KW := fun w => Lib.hid (word_any s w)
  have KI := fun w => Lib.hid (int_any s w)
  have KQ := fun w h hz => Lib.hid (text_any s w h hs hp hz)
  have KY := fun w => Lib.hid (symbol_any s w hs hp)
  have KG := fun w => Lib.hid (sign_tok s w)
  have KL := fun b w h => Lib.hid (ImplTok.letter_is (s[0]'hp) b w h)
  have KD := fun b w h => Lib.hid (ImplTok.digit_is (s[0]'hp) b w h)
  have BX := Lib.hid (box_new w)
  cases hl : Tok.letter (s[0]'hp) with
  | true =>
    have HR : Hid (Tok.next s 0 (s[0]'hp) = Tok.nameAt s 0) := HV.out.trans (if_pos hl)
    rw [HR.out]
    have KL1 := fun w => KL true w hl
    clear hl KL KD HV HR KI KQ KY KG
    generalize Tok.nameAt s 0 = r at *
    go_enter Tryz.func11, Tryz.ntmps11
    go_wp2_with fail
    rw [ImplTok.wrap_byte]
    refine (KL1 _).out.mono ?_
    rintro e w1 ⟨rfl, rfl⟩
    go_wp2_with fail
    refine (KW _).out.mono ?_
    intro e w2 h
    obtain ⟨k, t, n, m, rfl, hb2, hT⟩ := h.form
    clear h
    obtain ⟨hbw, hz, c0, c1, c2, hf⟩ := BX.out.step hb2
    clear BX hb2
    go_wp2_with fail
    exact bodyPost_ret (v := .tuple #[.agg #[.int .i64 k, .string t, .int .i64 n], .int .i64 m]) (by simp [results, Tryz.results11, go_sem, *]) rfl (hT _ _ (by repeat (first | assumption | refine Below.setCell ?_ (by exact Nat.le_refl _) _)))
  | false =>
    have KL1 := fun w => KL false w hl
    cases hd : Tok.digit (s[0]'hp) with
    | true =>
      have HR : Hid (Tok.next s 0 (s[0]'hp) = Tok.number s.data.toList 0) := by show _ = _; rw [HV.out, hl, hd]; rfl
      rw [HR.out]
      have KD1 := fun w => KD true w hd
      clear hl hd KL KD HV HR KW KQ KY KG
      generalize Tok.number s.data.toList 0 = r at *
      go_enter Tryz.func11, Tryz.ntmps11
      go_wp2_with fail
      rw [ImplTok.wrap_byte]
      refine (KL1 _).out.mono ?_
      rintro e w1 ⟨rfl, rfl⟩
      go_wp2_with fail
      refine (KD1 _).out.mono ?_
      rintro e w1 ⟨rfl, rfl⟩
      go_wp2_with fail
      refine (KI _).out.mono ?_
      intro e w2 h
      obtain ⟨k, t, n, m, rfl, hb2, hT⟩ := h.form
      clear h
      obtain ⟨hbw, hz, c0, c1, c2, hf⟩ := BX.out.step hb2
      clear BX hb2
      go_wp2_with fail
      exact bodyPost_ret (v := .tuple #[.agg #[.int .i64 k, .string t, .int .i64 n], .int .i64 m]) (by simp [results, Tryz.results11, go_sem, *]) rfl (hT _ _ (by repeat (first | assumption | refine Below.setCell ?_ (by exact Nat.le_refl _) _)))
    | false =>
      have KD1 := fun w => KD false w hd
      by_cases h39 : (s[0]'hp).toNat = 39
      · have hc : s[0]'hp = (39 : UInt8) := UInt8.toNat_inj.1 (by rw [h39]; rfl)
        have HR : Hid (Tok.next s 0 (s[0]'hp) = Tok.quoted s.data.toList 0) := by show _ = _; rw [HV.out, hl, hd, if_pos hc]; rfl
        rw [HR.out]
        have t39 : (((s[0]'hp).toNat : Int) == 39) = true := by rw [beq_iff_eq]; omega
        have KQ1 := fun w h => KQ w h h39
        clear hl hd KL KD HV HR KW KI KQ KY KG hc h39
        generalize Tok.quoted s.data.toList 0 = r at *
        go_enter Tryz.func11, Tryz.ntmps11
        go_wp2_with fail
        rw [ImplTok.wrap_byte]
        refine (KL1 _).out.mono ?_
        rintro e w1 ⟨rfl, rfl⟩
        go_wp2_with fail
        refine (KD1 _).out.mono ?_
        rintro e w1 ⟨rfl, rfl⟩
        go_wp2_with fail
        refine (KQ1 _ (hM.keep ((Below.refl _ _).alloc (Nat.le_refl _) _))).out.mono ?_
        intro e w2 h
        obtain ⟨k, t, n, m, rfl, hb2, hT⟩ := h.form
        clear h
        obtain ⟨hbw, hz, c0, c1, c2, hf⟩ := BX.out.step hb2
        clear BX hb2
        go_wp2_with fail
        exact bodyPost_ret (v := .tuple #[.agg #[.int .i64 k, .string t, .int .i64 n], .int .i64 m]) (by simp [results, Tryz.results11, go_sem, *]) rfl (hT _ _ (by repeat (first | assumption | refine Below.setCell ?_ (by exact Nat.le_refl _) _)))
      · have t39 : (((s[0]'hp).toNat : Int) == 39) = false := by rw [beq_eq_false_iff_ne]; omega
        have hn39 : ¬ s[0]'hp = (39 : UInt8) := fun h => h39 (by rw [h]; rfl)
        by_cases h35 : (s[0]'hp).toNat = 35
        · have hc : s[0]'hp = (35 : UInt8) := UInt8.toNat_inj.1 (by rw [h35]; rfl)
          have HR : Hid (Tok.next s 0 (s[0]'hp) = Tok.selectorAt s 1) := by show _ = _; rw [HV.out, hl, hd, if_neg hn39, if_pos hc]; rfl
          rw [HR.out]
          have t35 : (((s[0]'hp).toNat : Int) == 35) = true := by rw [beq_iff_eq]; omega
          clear hl hd KL KD HV HR KW KI KQ KG hc h39 hn39 h35
          generalize Tok.selectorAt s 1 = r at *
          go_enter Tryz.func11, Tryz.ntmps11
          go_wp2_with fail
          rw [ImplTok.wrap_byte]
          refine (KL1 _).out.mono ?_
          rintro e w1 ⟨rfl, rfl⟩
          go_wp2_with fail
          refine (KD1 _).out.mono ?_
          rintro e w1 ⟨rfl, rfl⟩
          go_wp2_with fail
          refine (KY _).out.mono ?_
          intro e w2 h
          obtain ⟨k, t, n, m, rfl, hb2, hT⟩ := h.form
          clear h
          obtain ⟨hbw, hz, c0, c1, c2, hf⟩ := BX.out.step hb2
          clear BX hb2
          go_wp2_with fail
          exact bodyPost_ret (v := .tuple #[.agg #[.int .i64 k, .string t, .int .i64 n], .int .i64 m]) (by simp [results, Tryz.results11, go_sem, *]) rfl (hT _ _ (by repeat (first | assumption | refine Below.setCell ?_ (by exact Nat.le_refl _) _)))
        · have t35 : (((s[0]'hp).toNat : Int) == 35) = false := by rw [beq_eq_false_iff_ne]; omega
          have hn35 : ¬ s[0]'hp = (35 : UInt8) := fun h => h35 (by rw [h]; rfl)
          rw [hl, hd, if_neg hn39, if_neg hn35] at HV
          simp only [Bool.false_eq_true, if_false] at HV
          rw [HV.out]
          clear hl hd KL KD HV KW KI KQ KY h39 hn39 h35 hn35
          generalize (if (Tok.starts s 0 Tok.binaries).toList.isEmpty = false then some ((⟨6, Tok.starts s 0 Tok.binaries, 0⟩ : Tok.T), (Tok.starts s 0 Tok.binaries).size) else if (Tok.starts s 0 Tok.marks).toList.isEmpty = false then some (⟨7, Tok.starts s 0 Tok.marks, 0⟩, (Tok.starts s 0 Tok.marks).size) else none) = r at *
          go_enter Tryz.func11, Tryz.ntmps11
          go_wp2_with fail
          rw [ImplTok.wrap_byte]
          refine (KL1 _).out.mono ?_
          rintro e w1 ⟨rfl, rfl⟩
          go_wp2_with fail
          refine (KD1 _).out.mono ?_
          rintro e w1 ⟨rfl, rfl⟩
          go_wp2_with fail
          refine (KG _).out.mono ?_
          intro e w2 h
          obtain ⟨k, t, n, m, rfl, hb2, hT⟩ := h.form
          clear h
          obtain ⟨hbw, hz, c0, c1, c2, hf⟩ := BX.out.step hb2
          clear BX hb2
          go_wp2_with fail
          exact bodyPost_ret (v := .tuple #[.agg #[.int .i64 k, .string t, .int .i64 n], .int .i64 m]) (by simp [results, Tryz.results11, go_sem, *]) rfl (hT _ _ (by repeat (first | assumption | refine Below.setCell ?_ (by exact Nat.le_refl _) _)))
end Go.Proofs.YtamjfbjkdicmcaaGreatDoor.ImplRead
