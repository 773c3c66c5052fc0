/-
  impl.readText, leadingSelector, readSymbol, readSign, readToken: the token with which a text begins. They write nothing that was there.
-/
import Derived.Test.YtamjfbjkdicmcaaGreatDoorBImplCount
import Derived.Test.YtamjfbjkdicmcaaGreatDoorBImplInt
import Derived.Test.YtamjfbjkdicmcaaGreatDoorBImplText
namespace Go.Proofs.YtamjfbjkdicmcaaGreatDoor.ImplRead
open Go.RowKit
open Strs
set_option maxRecDepth 10000 in
set_option maxHeartbeats 4000000 in
theorem text_any (s : ByteArray) (w : World) (hM : Max w) (hs : s.size ≤ 1048576) (hp : 0 < s.size) (h0 : (s[0]'hp).toNat = 39) :
    Calls Tryz.prog 26 #[.string s] w (Tv (Tok.quoted s.data.toList 0) w) := by
  have hsl := Tok.len_list s
  have KQ := fun w => Lib.hid (quoted_len s w hs (fun _ => h0))
  have h39 : s[0]'hp = (39 : UInt8) := UInt8.toNat_inj.1 (by rw [h0]; rfl)
  obtain ⟨l, hl⟩ : ∃ l, s.data.toList = 39 :: l := by
    have h1 : 0 < s.data.toList.length := by rw [hsl]; exact hp
    refine ⟨s.data.toList.drop 1, ?_⟩
    have h2 := List.drop_eq_getElem_cons h1
    rw [List.drop_zero] at h2
    have h3 : s.data.toList[0]'h1 = 39 := h39
    rw [h3] at h2; exact h2
  have hq : Tok.qlen s.data.toList 0 false = match Tok.unq l with | none => 0 | some x => 1 + x.2 := by
    rw [hl, Tok.qlen]
    simp only [if_true, Bool.not_false, Bool.true_eq_false, false_and, if_false, Nat.zero_add]
    exact Tok.qlen_unq l 1
  have HV : Hid (Tok.quoted s.data.toList 0 = match Tok.unq l with | none => none | some x => if x.1.all Tok.plain = true ∧ x.1.length ≤ 40 then some (⟨4, ⟨x.1.toArray⟩, 0⟩, 1 + x.2) else none) := by
    show _ = _
    rw [hl]; exact Tok.quoted_unq 39 l
  have BX := Lib.hid (box_new w)
  cases hu : Tok.unq l with
  | none =>
    rw [hu] at hq
    simp only at hq
    rw [hq] at KQ
    have HR : Hid (Tok.quoted s.data.toList 0 = none) := by show _ = _; rw [HV.out, hu]
    rw [HR.out]
    clear HV hu hq hl h39 h0 HR
    go_enter Tryz.func26, Tryz.ntmps26
    go_wp2_with fail
    refine (KQ _).out.mono ?_
    rintro e w1 ⟨rfl, hb1⟩
    obtain ⟨hbw, hz, c0, c1, c2, hf⟩ := BX.out.step hb1
    clear hb1
    go_wp2_with fail
    exact bodyPost_ret (v := .tuple #[.agg #[.int .i64 0, .string ⟨#[]⟩, .int .i64 0], .int .i64 0]) (by simp [results, Tryz.results26, go_sem, *]) rfl ⟨0, _, 0, rfl, (by repeat (first | assumption | refine Below.setCell ?_ (by exact Nat.le_refl _) _))⟩
  | some x =>
    obtain ⟨o, n⟩ := x
    obtain ⟨hn1, hn2, hrep⟩ := Tok.unq_rep l o n hu
    rw [hu] at hq
    simp only at hq
    rw [hq] at KQ
    have hll : l.length + 1 = s.size := by rw [← hsl, hl]; rfl
    have HT : Hid (Lib.replaceAll (s.extract 1 n).data.toList (⟨#[39, 39]⟩ : ByteArray).data.toList (⟨#[39]⟩ : ByteArray).data.toList = o) := by
      show _ = _
      rw [Tok.ext_data, hl]; exact hrep
    have hts : (s.extract 1 n).size ≤ 1048576 := by rw [← Tok.len_list, Tok.ext_data, List.length_take]; omega
    have KR := fun w h => Lib.hid (rep_any (s.extract 1 n) ⟨#[39, 39]⟩ ⟨#[39]⟩ w h hts (by decide) (by decide))
    simp only [HT.out] at KR
    have HV2 : Hid (Tok.quoted s.data.toList 0 = if o.all Tok.plain = true ∧ o.length ≤ 40 then some (⟨4, ⟨o.toArray⟩, 0⟩, 1 + n) else none) := by show _ = _; rw [HV.out, hu]
    have KI := fun b w h => Lib.hid (quotable_is (⟨o.toArray⟩ : ByteArray) b w h)
    have hos : (⟨o.toArray⟩ : ByteArray).size = o.length := by rw [← Tok.len_list]
    simp only [hos] at KI
    have e1 : (((1 + n : Nat) : Int) == 0) = false := by rw [beq_eq_false_iff_ne]; omega
    have e2 : ((1 + n : Nat) : Int) - 1 = (n : Int) := by omega
    clear HV hu hq hl h39 h0 HT hrep
    by_cases hok : o.all Tok.plain = true ∧ o.length ≤ 40
    · have HR : Hid (Tok.quoted s.data.toList 0 = some (⟨4, ⟨o.toArray⟩, 0⟩, 1 + n)) := by show _ = _; rw [HV2.out, if_pos hok]
      have KI1 := fun w => KI true w (by show (o.all Tok.plain && decide (o.length ≤ 40)) = true; rw [hok.1, decide_eq_true hok.2]; rfl)
      rw [HR.out]
      clear HV2 KI hok HR
      generalize (⟨o.toArray⟩ : ByteArray) = x at *
      go_enter Tryz.func26, Tryz.ntmps26
      go_wp2_with fail
      refine (KQ _).out.mono ?_
      rintro e w1 ⟨rfl, hb1⟩
      have BX1 := Lib.hid (BX.out.step hb1)
      have HM1 : Hid (Max w1) := (hM.keep ((Below.refl _ _).alloc (Nat.le_refl _) _)).keep hb1
      clear BX hb1
      go_wp2_with fail
      refine (KR _ HM1.out).out.mono ?_
      rintro e w2 ⟨rfl, hb2⟩
      have BX2 := Lib.hid (BX1.out.step hb2)
      clear BX1 hb2
      go_wp2_with fail
      refine (KI1 _).out.mono ?_
      rintro e w3 ⟨rfl, hb3⟩
      obtain ⟨hbw, hz, c0, c1, c2, hf⟩ := BX2.out.step hb3
      clear hb3 BX2
      go_wp2_with fail
      exact bodyPost_ret (v := .tuple #[.agg #[.int .i64 4, .string x, .int .i64 0], .int .i64 (1 + (n : Int))]) (by simp [results, Tryz.results26, go_sem, *]) rfl ⟨rfl, (by repeat (first | assumption | refine Below.setCell ?_ (by exact Nat.le_refl _) _))⟩
    · have HR : Hid (Tok.quoted s.data.toList 0 = none) := by show _ = _; rw [HV2.out, if_neg hok]
      have KI1 := fun w => KI false w (by
        show (o.all Tok.plain && decide (o.length ≤ 40)) = false
        rw [← Bool.not_eq_true, Bool.and_eq_true, decide_eq_true_eq]; exact hok)
      rw [HR.out]
      clear HV2 KI hok HR
      generalize (⟨o.toArray⟩ : ByteArray) = x at *
      go_enter Tryz.func26, Tryz.ntmps26
      go_wp2_with fail
      refine (KQ _).out.mono ?_
      rintro e w1 ⟨rfl, hb1⟩
      have BX1 := Lib.hid (BX.out.step hb1)
      have HM1 : Hid (Max w1) := (hM.keep ((Below.refl _ _).alloc (Nat.le_refl _) _)).keep hb1
      clear BX hb1
      go_wp2_with fail
      refine (KR _ HM1.out).out.mono ?_
      rintro e w2 ⟨rfl, hb2⟩
      have BX2 := Lib.hid (BX1.out.step hb2)
      clear BX1 hb2
      go_wp2_with fail
      refine (KI1 _).out.mono ?_
      rintro e w3 ⟨rfl, hb3⟩
      obtain ⟨hbw, hz, c0, c1, c2, hf⟩ := BX2.out.step hb3
      clear hb3 BX2
      go_wp2_with fail
      exact bodyPost_ret (v := .tuple #[.agg #[.int .i64 0, .string ⟨#[]⟩, .int .i64 0], .int .i64 0]) (by simp [results, Tryz.results26, go_sem, *]) rfl ⟨0, _, 0, rfl, (by repeat (first | assumption | refine Below.setCell ?_ (by exact Nat.le_refl _) _))⟩
theorem piece_word (s : ByteArray) (e : Nat) : (s.extract e s.size).extract 0 (Tok.run (s.extract e s.size).data.toList 0) = s.extract e (Tok.run s.data.toList e) := by
  have h := Tok.run_rest s.data.toList e 0
  rw [Nat.add_zero] at h
  rw [show s.extract e s.size = Tok.rest s e from rfl, Tok.extract_rest, Tok.rest_data, ← h, Nat.add_zero]
theorem word_at (s : ByteArray) (e : Nat) (w : World) :
    Calls Tryz.prog 53 #[.string (s.extract e s.size)] w fun e' w' => e' = .returned (.string (s.extract e (Tok.run s.data.toList e))) ∧ Below w.heap.size w w' := by
  have h := ImplTok.word_any (s.extract e s.size) w
  unfold ImplTok.Word at h
  rw [piece_word] at h
  exact h
end Go.Proofs.YtamjfbjkdicmcaaGreatDoor.ImplRead
