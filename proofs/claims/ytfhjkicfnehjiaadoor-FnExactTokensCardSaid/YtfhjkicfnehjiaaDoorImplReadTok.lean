/-
  impl.readToken: the token with which a text begins. It writes nothing that was there.
-/
import Derived.Test.YtfhjkicfnehjiaaDoorImplNext
namespace Go.Proofs.YtfhjkicfnehjiaaDoor.ImplRead
open Go.RowKit
open Strs

theorem Tv.form {r : Option (Tok.T × Nat)} {w w' : World} {e : Ending} (h : Tv r w e w') : ∃ (k : Int) (t : ByteArray) (n m : Int), e = .returned (.tuple #[.agg #[.int .i64 k, .string t, .int .i64 n], .int .i64 m]) ∧ Below w.heap.size w w' ∧ ∀ w0 w2, Below w0.heap.size w0 w2 → Tv r w0 (.returned (.tuple #[.agg #[.int .i64 k, .string t, .int .i64 n], .int .i64 m])) w2 := by
  cases r with
  | none =>
    obtain ⟨k, t, n, rfl, hb⟩ := h
    exact ⟨k, t, n, 0, rfl, hb, fun w0 w2 hb2 => ⟨k, t, n, rfl, hb2⟩⟩
  | some x =>
    obtain ⟨x, m⟩ := x
    obtain ⟨rfl, hb⟩ := h
    exact ⟨_, _, _, _, rfl, hb, fun w0 w2 hb2 => ⟨rfl, hb2⟩⟩

set_option maxRecDepth 10000 in
set_option maxHeartbeats 1000000 in
theorem token_any (s : ByteArray) (w : World) (hM : Max w) (hs : s.size ≤ 1048576) (hp : 0 < s.size) :
    Calls Tryd.prog 16 #[.string s] w (Tv (Tok.next s 0 (s[0]'hp)) w) := by
  have HV : Hid (Tok.next s 0 (s[0]'hp) = if Tok.letter (s[0]'hp) = true then Tok.nameAt s 0 else if Tok.digit (s[0]'hp) = true then Tok.number s.data.toList 0 else if (s[0]'hp) = 39 then Tok.quoted s.data.toList 0 else if (s[0]'hp) = 35 then Tok.selectorAt s 1 else (if (Tok.starts s 0 Tok.binaries).toList.isEmpty = false then some (⟨6, Tok.starts s 0 Tok.binaries, 0⟩, (Tok.starts s 0 Tok.binaries).size) else if (Tok.starts s 0 Tok.marks).toList.isEmpty = false then some (⟨7, Tok.starts s 0 Tok.marks, 0⟩, (Tok.starts s 0 Tok.marks).size) else none)) := by
    show _ = _
    unfold Tok.next
    simp only [Nat.zero_add]
  have hpi : (0 : Int) < (s.size : Int) := by omega
  have KW := fun w => Lib.hid (word_any s w)
  have KI := fun w => Lib.hid (int_any s w)
  have KQ := fun w h hz => Lib.hid (text_any s w h hs hp hz)
  have KY := fun w => Lib.hid (symbol_any s w hs hp)
  have KG := fun w => Lib.hid (sign_tok s w)
  have KL := fun b w h => Lib.hid (ImplTok.letter_is (s[0]'hp) b w h)
  have KD := fun b w h => Lib.hid (ImplTok.digit_is (s[0]'hp) b w h)
  have BX := Lib.hid (box_new w)
  cases hl : Tok.letter (s[0]'hp) with
  | true =>
    have HR : Hid (Tok.next s 0 (s[0]'hp) = Tok.nameAt s 0) := HV.out.trans (if_pos hl)
    rw [HR.out]
    have KL1 := fun w => KL true w hl
    clear hl KL KD HV HR KI KQ KY KG
    generalize Tok.nameAt s 0 = r at *
    go_enter Tryd.func16, Tryd.ntmps16
    go_wp2_with fail
    rw [ImplTok.wrap_byte]
    refine (KL1 _).out.mono ?_
    rintro e w1 ⟨rfl, rfl⟩
    go_wp2_with fail
    refine (KW _).out.mono ?_
    intro e w2 h
    obtain ⟨k, t, n, m, rfl, hb2, hT⟩ := h.form
    clear h
    obtain ⟨hbw, hz, c0, c1, c2, hf⟩ := BX.out.step hb2
    clear BX hb2
    go_wp2_with fail
    exact bodyPost_ret (v := .tuple #[.agg #[.int .i64 k, .string t, .int .i64 n], .int .i64 m]) (by simp [results, Tryd.results16, go_sem, *]) rfl (hT _ _ (by repeat (first | assumption | refine Below.setCell ?_ (by exact Nat.le_refl _) _)))
  | false =>
    have KL1 := fun w => KL false w hl
    cases hd : Tok.digit (s[0]'hp) with
    | true =>
      have HR : Hid (Tok.next s 0 (s[0]'hp) = Tok.number s.data.toList 0) := by show _ = _; rw [HV.out, hl, hd]; rfl
      rw [HR.out]
      have KD1 := fun w => KD true w hd
      clear hl hd KL KD HV HR KW KQ KY KG
      generalize Tok.number s.data.toList 0 = r at *
      go_enter Tryd.func16, Tryd.ntmps16
      go_wp2_with fail
      rw [ImplTok.wrap_byte]
      refine (KL1 _).out.mono ?_
      rintro e w1 ⟨rfl, rfl⟩
      go_wp2_with fail
      refine (KD1 _).out.mono ?_
      rintro e w1 ⟨rfl, rfl⟩
      go_wp2_with fail
      refine (KI _).out.mono ?_
      intro e w2 h
      obtain ⟨k, t, n, m, rfl, hb2, hT⟩ := h.form
      clear h
      obtain ⟨hbw, hz, c0, c1, c2, hf⟩ := BX.out.step hb2
      clear BX hb2
      go_wp2_with fail
      exact bodyPost_ret (v := .tuple #[.agg #[.int .i64 k, .string t, .int .i64 n], .int .i64 m]) (by simp [results, Tryd.results16, go_sem, *]) rfl (hT _ _ (by repeat (first | assumption | refine Below.setCell ?_ (by exact Nat.le_refl _) _)))
    | false =>
      have KD1 := fun w => KD false w hd
      by_cases h39 : (s[0]'hp).toNat = 39
      · have hc : s[0]'hp = (39 : UInt8) := UInt8.toNat_inj.1 (by rw [h39]; rfl)
        have HR : Hid (Tok.next s 0 (s[0]'hp) = Tok.quoted s.data.toList 0) := by show _ = _; rw [HV.out, hl, hd, if_pos hc]; rfl
        rw [HR.out]
        have t39 : (((s[0]'hp).toNat : Int) == 39) = true := by rw [beq_iff_eq]; omega
        have KQ1 := fun w h => KQ w h h39
        clear hl hd KL KD HV HR KW KI KQ KY KG hc h39
        generalize Tok.quoted s.data.toList 0 = r at *
        go_enter Tryd.func16, Tryd.ntmps16
        go_wp2_with fail
        rw [ImplTok.wrap_byte]
        refine (KL1 _).out.mono ?_
        rintro e w1 ⟨rfl, rfl⟩
        go_wp2_with fail
        refine (KD1 _).out.mono ?_
        rintro e w1 ⟨rfl, rfl⟩
        go_wp2_with fail
        refine (KQ1 _ (hM.keep ((Below.refl _ _).alloc (Nat.le_refl _) _))).out.mono ?_
        intro e w2 h
        obtain ⟨k, t, n, m, rfl, hb2, hT⟩ := h.form
        clear h
        obtain ⟨hbw, hz, c0, c1, c2, hf⟩ := BX.out.step hb2
        clear BX hb2
        go_wp2_with fail
        exact bodyPost_ret (v := .tuple #[.agg #[.int .i64 k, .string t, .int .i64 n], .int .i64 m]) (by simp [results, Tryd.results16, go_sem, *]) rfl (hT _ _ (by repeat (first | assumption | refine Below.setCell ?_ (by exact Nat.le_refl _) _)))
      · have t39 : (((s[0]'hp).toNat : Int) == 39) = false := by rw [beq_eq_false_iff_ne]; omega
        have hn39 : ¬ s[0]'hp = (39 : UInt8) := fun h => h39 (by rw [h]; rfl)
        by_cases h35 : (s[0]'hp).toNat = 35
        · have hc : s[0]'hp = (35 : UInt8) := UInt8.toNat_inj.1 (by rw [h35]; rfl)
          have HR : Hid (Tok.next s 0 (s[0]'hp) = Tok.selectorAt s 1) := by show _ = _; rw [HV.out, hl, hd, if_neg hn39, if_pos hc]; rfl
          rw [HR.out]
          have t35 : (((s[0]'hp).toNat : Int) == 35) = true := by rw [beq_iff_eq]; omega
          clear hl hd KL KD HV HR KW KI KQ KG hc h39 hn39 h35
          generalize Tok.selectorAt s 1 = r at *
          go_enter Tryd.func16, Tryd.ntmps16
          go_wp2_with fail
          rw [ImplTok.wrap_byte]
          refine (KL1 _).out.mono ?_
          rintro e w1 ⟨rfl, rfl⟩
          go_wp2_with fail
          refine (KD1 _).out.mono ?_
          rintro e w1 ⟨rfl, rfl⟩
          go_wp2_with fail
          refine (KY _).out.mono ?_
          intro e w2 h
          obtain ⟨k, t, n, m, rfl, hb2, hT⟩ := h.form
          clear h
          obtain ⟨hbw, hz, c0, c1, c2, hf⟩ := BX.out.step hb2
          clear BX hb2
          go_wp2_with fail
          exact bodyPost_ret (v := .tuple #[.agg #[.int .i64 k, .string t, .int .i64 n], .int .i64 m]) (by simp [results, Tryd.results16, go_sem, *]) rfl (hT _ _ (by repeat (first | assumption | refine Below.setCell ?_ (by exact Nat.le_refl _) _)))
        · have t35 : (((s[0]'hp).toNat : Int) == 35) = false := by rw [beq_eq_false_iff_ne]; omega
          have hn35 : ¬ s[0]'hp = (35 : UInt8) := fun h => h35 (by rw [h]; rfl)
          rw [hl, hd, if_neg hn39, if_neg hn35] at HV
          simp only [Bool.false_eq_true, if_false] at HV
          rw [HV.out]
          clear hl hd KL KD HV KW KI KQ KY h39 hn39 h35 hn35
          generalize (if (Tok.starts s 0 Tok.binaries).toList.isEmpty = false then some ((⟨6, Tok.starts s 0 Tok.binaries, 0⟩ : Tok.T), (Tok.starts s 0 Tok.binaries).size) else if (Tok.starts s 0 Tok.marks).toList.isEmpty = false then some (⟨7, Tok.starts s 0 Tok.marks, 0⟩, (Tok.starts s 0 Tok.marks).size) else none) = r at *
          go_enter Tryd.func16, Tryd.ntmps16
          go_wp2_with fail
          rw [ImplTok.wrap_byte]
          refine (KL1 _).out.mono ?_
          rintro e w1 ⟨rfl, rfl⟩
          go_wp2_with fail
          refine (KD1 _).out.mono ?_
          rintro e w1 ⟨rfl, rfl⟩
          go_wp2_with fail
          refine (KG _).out.mono ?_
          intro e w2 h
          obtain ⟨k, t, n, m, rfl, hb2, hT⟩ := h.form
          clear h
          obtain ⟨hbw, hz, c0, c1, c2, hf⟩ := BX.out.step hb2
          clear BX hb2
          go_wp2_with fail
          exact bodyPost_ret (v := .tuple #[.agg #[.int .i64 k, .string t, .int .i64 n], .int .i64 m]) (by simp [results, Tryd.results16, go_sem, *]) rfl (hT _ _ (by repeat (first | assumption | refine Below.setCell ?_ (by exact Nat.le_refl _) _)))
end Go.Proofs.YtfhjkicfnehjiaaDoor.ImplRead
