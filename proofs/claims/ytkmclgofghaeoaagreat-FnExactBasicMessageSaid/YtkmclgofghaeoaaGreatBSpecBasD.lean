/-
  The model's messages to booleans and texts.
-/
import Derived.Test.YtkmclgofghaeoaaGreatBSpecBasC
import Derived.Test.YtkmclgofghaeoaaGreatBSpecPint
namespace Go.Proofs.YtkmclgofghaeoaaGreat.SpecBas
open Go.RowKit
open Strs Sto Bas Go.Proofs.YtkmclgofghaeoaaGreat.Data
set_option linter.unusedVariables false
set_option maxHeartbeats 4000000 in
theorem bool_any (v : V) (b : Bool) (sel : ByteArray) (args : List V) (s : Value) (lo : Nat) (w : World) (hk : v.kind = 1) (hv : valB v = true) (hbb : b = decide (v.num = 1)) (hs : VsAt lo w s args) (ha : args.all valB = true) (h1 : sel = ⟨#[38]⟩ → args.length = 1) :
    Calls Tryz.prog 26 #[.bool b, .string sel, s] w fun e w' => e = .returned (act v sel (headV args)).val ∧ Below w.heap.size w w' := by
  have BX := Lib.hid (rb_new w 29)
  have hop : opsOf v.kind = boolOps := by rw [hk]; rfl
  have hvn := bool_cases hv hk
  obtain ⟨a, c, rfl, hm, hcell⟩ := hs
  unfold maxLen at hm
  by_cases hn : sel = ⟨#[110, 111, 116]⟩
  · rw [act_does (e := ⟨⟨#[110, 111, 116]⟩, 0, fun v _ => doneR (boolV (decide (v.num = 0)))⟩) (by rw [hop, hn]; rfl) (.inl rfl)]
    rw [show (E.f ⟨⟨#[110, 111, 116]⟩, 0, fun v _ => doneR (boolV (decide (v.num = 0)))⟩ v (headV args)) = doneR (boolV (decide (v.num = 0))) from rfl]
    have e : decide (v.num = 0) = !b := by rw [hbb]; rcases hvn with h | h <;> rw [h] <;> rfl
    rw [e]
    have g := lit_eq (l := [110, 111, 116]) hn
    clear e hn hcell h1 ha hop hvn hv hk hbb
    go_enter Tryz.func26, Tryz.ntmps26
    go_wp2_with fail
    refine (bool_is (!b) _).mono ?_
    rintro e w1 ⟨rfl, hb1⟩
    have BX1 := Lib.hid (BX.out.step hb1)
    clear hb1 BX
    go_wp2_with fail
    refine (done_is _ _).mono ?_
    rintro e w2 ⟨rfl, hb2⟩
    have BX2 := Lib.hid (BX1.out.step hb2)
    clear hb2 BX1
    obtain ⟨hB, hge, hlt, a0, a1, a2, a3, a4, fz⟩ := BX2.out
    unfold R.val
    go_wp2_with fail
    exact bodyPost_ret (v := (doneR (boolV (!b))).val) (by simp [results, Tryz.results26, go_sem, *]; try rfl) rfl ⟨rfl, BX2.out.put _ _ _ _ _⟩
  have g0 := lit_ne (l := [110, 111, 116]) hn
  by_cases hand : sel = ⟨#[38]⟩
  · have g := lit_eq (l := [38]) hand
    have hl := h1 hand
    obtain ⟨x, rfl⟩ := List.length_eq_one_iff.1 hl
    obtain ⟨bb, o, rfl, -, hx⟩ := hcell (by simp)
    have hx := hx 0 x rfl
    rw [Nat.zero_mul, Nat.add_zero] at hx
    obtain ⟨c0, c1, c2, -⟩ := hx.below BX.out.below
    have hvx : valB x = true := by simpa using ha
    rw [show headV [x] = x from rfl]
    simp only [List.length_singleton] at hm ⊢
    have he : seekE (opsOf v.kind) sel = some ⟨⟨#[38]⟩, 1, fun v a => doneR (boolV (decide (v.num = 1) && decide (a.num = 1)))⟩ := by rw [hop, hand]; rfl
    by_cases hkx : x.kind = 1
    · rw [act_does he (.inr hkx)]
      rw [show (E.f ⟨⟨#[38]⟩, 1, fun v a => doneR (boolV (decide (v.num = 1) && decide (a.num = 1)))⟩ v x) = doneR (boolV (decide (v.num = 1) && decide (x.num = 1))) from rfl, ← hbb]
      have z := (SpecSto.eq_yes hkx).2
      clear hkx hl h1 hcell hx ha hvx hv hk hop he hn hand hbb hvn
      cases b with
      | false =>
        rw [show (false && decide (x.num = 1)) = false from rfl]
        go_enter Tryz.func26, Tryz.ntmps26
        go_wp2_with fail
        refine (bool_is _ _).mono ?_
        rintro e w1 ⟨rfl, hb1⟩
        have BX1 := Lib.hid (BX.out.step hb1)
        clear hb1 BX
        go_wp2_with fail
        refine (done_is _ _).mono ?_
        rintro e w2 ⟨rfl, hb2⟩
        have BX2 := Lib.hid (BX1.out.step hb2)
        clear hb2 BX1
        obtain ⟨hB, hge, hlt, a0, a1, a2, a3, a4, fz⟩ := BX2.out
        unfold R.val
        go_wp2_with fail
        exact bodyPost_ret (v := (doneR (boolV false)).val) (by simp [results, Tryz.results26, go_sem, *]; try rfl) rfl ⟨rfl, BX2.out.put _ _ _ _ _⟩
      | true =>
        rw [show (true && decide (x.num = 1)) = decide (x.num = 1) from rfl]
        rw [show decide (x.num = 1) = (x.num == 1) by rw [Bool.eq_iff_iff]; simp]
        go_enter Tryz.func26, Tryz.ntmps26
        go_wp2_with fail
        refine (bool_is _ _).mono ?_
        rintro e w1 ⟨rfl, hb1⟩
        have BX1 := Lib.hid (BX.out.step hb1)
        clear hb1 BX
        go_wp2_with fail
        refine (done_is _ _).mono ?_
        rintro e w2 ⟨rfl, hb2⟩
        have BX2 := Lib.hid (BX1.out.step hb2)
        clear hb2 BX1
        obtain ⟨hB, hge, hlt, a0, a1, a2, a3, a4, fz⟩ := BX2.out
        unfold R.val
        go_wp2_with fail
        exact bodyPost_ret (v := (doneR (boolV (x.num == 1))).val) (by simp [results, Tryz.results26, go_sem, *]; try rfl) rfl ⟨rfl, BX2.out.put _ _ _ _ _⟩
    · rw [act_needs he (by decide) hkx]
      have z := (SpecSto.eq_no hkx).2
      clear hkx hl h1 hcell hx ha hvx hv hk hop he hn hand hbb hvn
      go_enter Tryz.func26, Tryz.ntmps26
      go_wp2_with fail
      refine (error_is _ _).mono ?_
      rintro e w1 ⟨rfl, hb1⟩
      have BX1 := Lib.hid (BX.out.step hb1)
      clear hb1 BX
      obtain ⟨hB, hge, hlt, a0, a1, a2, a3, a4, fz⟩ := BX1.out
      unfold R.val
      go_wp2_with fail
      exact bodyPost_ret (v := (failR (missed 1)).val) (by simp [results, Tryz.results26, go_sem, *]; try rfl) rfl ⟨rfl, BX1.out.put _ _ _ _ _⟩
  have g1 := lit_ne (l := [38]) hand
  rw [act_none (by
    rw [hop]
    refine seek_no fun e he => ?_
    unfold boolOps at he
    simp only [List.mem_cons, List.not_mem_nil, or_false] at he
    rcases he with rfl | rfl
    · exact hand
    · exact hn)]
  clear hcell h1 ha hop hvn hv hk hbb hn hand
  go_enter Tryz.func26, Tryz.ntmps26
  go_wp2_with fail
  refine (miss_is _).mono ?_
  rintro e w1 ⟨rfl, hb1⟩
  have BX1 := Lib.hid (BX.out.step hb1)
  clear hb1 BX
  obtain ⟨hB, hge, hlt, a0, a1, a2, a3, a4, fz⟩ := BX1.out
  unfold R.val
  go_wp2_with fail
  exact bodyPost_ret (v := (missR).val) (by simp [results, Tryz.results26, go_sem, *]; try rfl) rfl ⟨rfl, BX1.out.put _ _ _ _ _⟩
set_option maxHeartbeats 8000000 in
theorem text_any (v : V) (sel : ByteArray) (args : List V) (s : Value) (lo : Nat) (w : World) (hk : v.kind = 3) (hv : valB v = true) (hs : VsAt lo w s args) (ha : args.all valB = true) (h1 : sel = ⟨#[44]⟩ ∨ sel = ⟨#[60]⟩ ∨ sel = ⟨#[97, 116, 58]⟩ → args.length = 1) :
    Calls Tryz.prog 28 #[.string v.text, .string sel, s] w fun e w' => e = .returned (act v sel (headV args)).val ∧ Below w.heap.size w w' := by
  have BX := Lib.hid (rb_new w 29)
  have hop : opsOf v.kind = textOps := by rw [hk]; rfl
  have hsz := text_size hv hk
  have hszI : (v.text.size : Int) ≤ 200 := by omega
  obtain ⟨a, c, rfl, hm, hcell⟩ := hs
  unfold maxLen at hm
  by_cases hn0 : sel = ⟨#[115, 105, 122, 101]⟩
  · rw [act_does (e := (⟨⟨#[115, 105, 122, 101]⟩, 0, fun v _ => doneR (intV v.text.size)⟩ : E)) (by rw [hop, hn0]; rfl) (.inl rfl)]
    show Calls _ _ _ _ (fun e w' => e = .returned (doneR (intV v.text.size)).val ∧ Below w.heap.size w w')
    have g := lit_eq (l := [115, 105, 122, 101]) hn0
    clear hn0 hcell h1 ha hop hv hk
    go_enter Tryz.func28, Tryz.ntmps28
    go_wp2_with fail
    refine (int_is _ _).mono ?_
    rintro e w1 ⟨rfl, hb1⟩
    have BX1 := Lib.hid (BX.out.step hb1)
    clear hb1 BX
    go_wp2_with fail
    refine (done_is _ _).mono ?_
    rintro e w2 ⟨rfl, hb2⟩
    have BX2 := Lib.hid (BX1.out.step hb2)
    clear hb2 BX1
    obtain ⟨hB, hge, hlt, a0, a1, a2, a3, a4, fz⟩ := BX2.out
    unfold R.val
    go_wp2_with fail
    exact bodyPost_ret (v := (doneR (intV v.text.size)).val) (by simp [results, Tryz.results28, go_sem, *]; try rfl) rfl ⟨rfl, BX2.out.put _ _ _ _ _⟩
  have g0 := lit_ne (l := [115, 105, 122, 101]) hn0
  by_cases hn1 : sel = ⟨#[44]⟩
  · have g := lit_eq (l := [44]) hn1
    have g' := lit_ne (s := sel) (l := [60]) (by rw [hn1]; decide)
    have hl := h1 (.inl hn1)
    obtain ⟨x, rfl⟩ := List.length_eq_one_iff.1 hl
    obtain ⟨bb, o, rfl, -, hx⟩ := hcell (by simp)
    have hx := hx 0 x rfl
    rw [Nat.zero_mul, Nat.add_zero] at hx
    obtain ⟨c0, c1, c2, -⟩ := hx.below BX.out.below
    have hvx : valB x = true := by simpa using ha
    rw [show headV [x] = x from rfl]
    simp only [List.length_singleton] at hm ⊢
    have he : seekE (opsOf v.kind) sel = some (⟨⟨#[44]⟩, 3, fun v a => if 200 < v.text.size + a.text.size then failR ⟨#[116, 111, 111, 32, 108, 111, 110, 103]⟩ else doneR (textV (v.text ++ a.text))⟩ : E) := by rw [hop, hn1]; rfl
    by_cases hkx : x.kind = 3
    · rw [act_does he (.inr hkx)]
      have hxs := text_size hvx hkx
      show Calls _ _ _ _ (fun e w' => e = .returned (if 200 < v.text.size + x.text.size then failR ⟨#[116, 111, 111, 32, 108, 111, 110, 103]⟩ else doneR (textV (v.text ++ x.text))).val ∧ Below w.heap.size w w')
      have z := (SpecSto.eq_yes hkx).2
      clear hkx hvx he hn1 hn0 hcell h1 ha hop hv hk hl hx
      by_cases hb : 200 < v.text.size + x.text.size
      · rw [if_pos hb]
        have hbI : decide ((200 : Int) < (v.text.size : Int) + (x.text.size : Int)) = true := decide_eq_true (by omega)
        go_enter Tryz.func28, Tryz.ntmps28
        go_wp2_with fail
        refine (error_is _ _).mono ?_
        rintro e w1 ⟨rfl, hb1⟩
        have BX1 := Lib.hid (BX.out.step hb1)
        clear hb1 BX
        obtain ⟨hB, hge, hlt, a0, a1, a2, a3, a4, fz⟩ := BX1.out
        unfold R.val
        go_wp2_with fail
        exact bodyPost_ret (v := (failR ⟨#[116, 111, 111, 32, 108, 111, 110, 103]⟩).val) (by simp [results, Tryz.results28, go_sem, *]; try rfl) rfl ⟨rfl, BX1.out.put _ _ _ _ _⟩
      · rw [if_neg hb]
        have hbI : decide ((200 : Int) < (v.text.size : Int) + (x.text.size : Int)) = false := decide_eq_false (by omega)
        go_enter Tryz.func28, Tryz.ntmps28
        go_wp2_with fail
        refine (text_is _ _).mono ?_
        rintro e w1 ⟨rfl, hb1⟩
        have BX1 := Lib.hid (BX.out.step hb1)
        clear hb1 BX
        go_wp2_with fail
        refine (done_is _ _).mono ?_
        rintro e w2 ⟨rfl, hb2⟩
        have BX2 := Lib.hid (BX1.out.step hb2)
        clear hb2 BX1
        obtain ⟨hB, hge, hlt, a0, a1, a2, a3, a4, fz⟩ := BX2.out
        unfold R.val
        go_wp2_with fail
        exact bodyPost_ret (v := (doneR (textV (v.text ++ x.text))).val) (by simp [results, Tryz.results28, go_sem, *]; try rfl) rfl ⟨rfl, BX2.out.put _ _ _ _ _⟩
    · rw [act_needs he (by show ¬ (3 : Int) = 0; decide) hkx]
      show Calls _ _ _ _ (fun e w' => e = .returned (failR (missed 3)).val ∧ Below w.heap.size w w')
      have z := (SpecSto.eq_no hkx).2
      clear hkx hvx he hn1 hn0 hcell h1 ha hop hv hk hl hx
      go_enter Tryz.func28, Tryz.ntmps28
      go_wp2_with fail
      refine (error_is _ _).mono ?_
      rintro e w1 ⟨rfl, hb1⟩
      have BX1 := Lib.hid (BX.out.step hb1)
      clear hb1 BX
      obtain ⟨hB, hge, hlt, a0, a1, a2, a3, a4, fz⟩ := BX1.out
      unfold R.val
      go_wp2_with fail
      exact bodyPost_ret (v := (failR (missed 3)).val) (by simp [results, Tryz.results28, go_sem, *]; try rfl) rfl ⟨rfl, BX1.out.put _ _ _ _ _⟩
  have g1 := lit_ne (l := [44]) hn1
  by_cases hn2 : sel = ⟨#[60]⟩
  · have g := lit_eq (l := [60]) hn2
    have hl := h1 (.inr (.inl hn2))
    obtain ⟨x, rfl⟩ := List.length_eq_one_iff.1 hl
    obtain ⟨bb, o, rfl, -, hx⟩ := hcell (by simp)
    have hx := hx 0 x rfl
    rw [Nat.zero_mul, Nat.add_zero] at hx
    obtain ⟨c0, c1, c2, -⟩ := hx.below BX.out.below
    have hvx : valB x = true := by simpa using ha
    rw [show headV [x] = x from rfl]
    simp only [List.length_singleton] at hm ⊢
    have he : seekE (opsOf v.kind) sel = some (⟨⟨#[60]⟩, 3, fun v a => doneR (boolV (ltB v.text a.text))⟩ : E) := by rw [hop, hn2]; rfl
    by_cases hkx : x.kind = 3
    · rw [act_does he (.inr hkx)]
      show Calls _ _ _ _ (fun e w' => e = .returned (doneR (boolV (ltB v.text x.text))).val ∧ Below w.heap.size w w')
      have z := (SpecSto.eq_yes hkx).2
      clear hkx hvx he hn2 hn1 hn0 hcell h1 ha hop hv hk hl hx
      have KB := fun w' => Lib.hid (bool_is (ltB v.text x.text) w')
      unfold ltB at *
      go_enter Tryz.func28, Tryz.ntmps28
      go_wp2_with fail
      refine ((KB _).out).mono ?_
      rintro e w1 ⟨rfl, hb1⟩
      have BX1 := Lib.hid (BX.out.step hb1)
      clear hb1 BX
      go_wp2_with fail
      refine (done_is _ _).mono ?_
      rintro e w2 ⟨rfl, hb2⟩
      have BX2 := Lib.hid (BX1.out.step hb2)
      clear hb2 BX1
      clear KB
      obtain ⟨hB, hge, hlt, a0, a1, a2, a3, a4, fz⟩ := BX2.out
      unfold R.val
      go_wp2_with fail
      exact bodyPost_ret (v := (doneR (boolV (Op.bytesLess v.text.toList x.text.toList))).val) (by simp [results, Tryz.results28, go_sem, *]; try rfl) rfl ⟨rfl, BX2.out.put _ _ _ _ _⟩
    · rw [act_needs he (by show ¬ (3 : Int) = 0; decide) hkx]
      show Calls _ _ _ _ (fun e w' => e = .returned (failR (missed 3)).val ∧ Below w.heap.size w w')
      have z := (SpecSto.eq_no hkx).2
      clear hkx hvx he hn2 hn1 hn0 hcell h1 ha hop hv hk hl hx
      go_enter Tryz.func28, Tryz.ntmps28
      go_wp2_with fail
      refine (error_is _ _).mono ?_
      rintro e w1 ⟨rfl, hb1⟩
      have BX1 := Lib.hid (BX.out.step hb1)
      clear hb1 BX
      obtain ⟨hB, hge, hlt, a0, a1, a2, a3, a4, fz⟩ := BX1.out
      unfold R.val
      go_wp2_with fail
      exact bodyPost_ret (v := (failR (missed 3)).val) (by simp [results, Tryz.results28, go_sem, *]; try rfl) rfl ⟨rfl, BX1.out.put _ _ _ _ _⟩
  have g2 := lit_ne (l := [60]) hn2
  by_cases hn3 : sel = ⟨#[97, 116, 58]⟩
  · have g := lit_eq (l := [97, 116, 58]) hn3
    have hl := h1 (.inr (.inr hn3))
    obtain ⟨x, rfl⟩ := List.length_eq_one_iff.1 hl
    obtain ⟨bb, o, rfl, -, hx⟩ := hcell (by simp)
    have hx := hx 0 x rfl
    rw [Nat.zero_mul, Nat.add_zero] at hx
    obtain ⟨c0, c1, c2, -⟩ := hx.below BX.out.below
    have hvx : valB x = true := by simpa using ha
    rw [show headV [x] = x from rfl]
    simp only [List.length_singleton] at hm ⊢
    have he : seekE (opsOf v.kind) sel = some (⟨⟨#[97, 116, 58]⟩, 0, fun v a => if a.kind = 2 ∧ 1 ≤ a.num ∧ a.num ≤ v.text.size then doneR (textV (v.text.extract (a.num - 1).toNat a.num.toNat)) else failR ⟨#[111, 117, 116, 32, 111, 102, 32, 114, 97, 110, 103, 101]⟩⟩ : E) := by rw [hop, hn3]; rfl
    rw [act_does he (.inl rfl)]
    show Calls _ _ _ _ (fun e w' => e = .returned (if x.kind = 2 ∧ 1 ≤ x.num ∧ x.num ≤ v.text.size then doneR (textV (v.text.extract (x.num - 1).toNat x.num.toNat)) else failR ⟨#[111, 117, 116, 32, 111, 102, 32, 114, 97, 110, 103, 101]⟩).val ∧ Below w.heap.size w w')
    have BY := Lib.hid (BX.out.step ((Below.refl _ _).alloc (Nat.le_refl _) (.cells #[.int .i64 x.kind, .int .i64 x.num, .string x.text] 27)))
    clear hvx he hn3 hn2 hn1 hn0 hcell h1 ha hop hv hk hl hx
    by_cases hkx : x.kind = 2
    · have z := (SpecSto.eq_yes hkx).2
      by_cases h5 : x.num < 1
      · rw [if_neg (by omega)]
        clear hkx
        go_enter Tryz.func28, Tryz.ntmps28
        go_wp2_with fail
        refine (error_is _ _).mono ?_
        rintro e w1 ⟨rfl, hb1⟩
        have BX1 := Lib.hid (BY.out.step hb1)
        clear hb1 BY
        clear BX
        obtain ⟨hB, hge, hlt, a0, a1, a2, a3, a4, fz⟩ := BX1.out
        unfold R.val
        go_wp2_with fail
        exact bodyPost_ret (v := (failR ⟨#[111, 117, 116, 32, 111, 102, 32, 114, 97, 110, 103, 101]⟩).val) (by simp [results, Tryz.results28, go_sem, *]; try rfl) rfl ⟨rfl, BX1.out.put _ _ _ _ _⟩
      · by_cases h6 : x.num ≤ v.text.size
        · rw [if_pos ⟨hkx, by omega, h6⟩]
          have h5' : 1 ≤ x.num := by omega
          clear hkx
          go_enter Tryz.func28, Tryz.ntmps28
          go_wp2_with fail
          refine (text_is _ _).mono ?_
          rintro e w1 ⟨rfl, hb1⟩
          have BX1 := Lib.hid (BY.out.step hb1)
          clear hb1 BY
          go_wp2_with fail
          refine (done_is _ _).mono ?_
          rintro e w2 ⟨rfl, hb2⟩
          have BX2 := Lib.hid (BX1.out.step hb2)
          clear hb2 BX1
          clear BX
          obtain ⟨hB, hge, hlt, a0, a1, a2, a3, a4, fz⟩ := BX2.out
          unfold R.val
          go_wp2_with fail
          exact bodyPost_ret (v := (doneR (textV (v.text.extract (x.num - 1).toNat x.num.toNat))).val) (by simp [results, Tryz.results28, go_sem, *]; try rfl) rfl ⟨rfl, BX2.out.put _ _ _ _ _⟩
        · rw [if_neg (by omega)]
          clear hkx
          go_enter Tryz.func28, Tryz.ntmps28
          go_wp2_with fail
          refine (error_is _ _).mono ?_
          rintro e w1 ⟨rfl, hb1⟩
          have BX1 := Lib.hid (BY.out.step hb1)
          clear hb1 BY
          clear BX
          obtain ⟨hB, hge, hlt, a0, a1, a2, a3, a4, fz⟩ := BX1.out
          unfold R.val
          go_wp2_with fail
          exact bodyPost_ret (v := (failR ⟨#[111, 117, 116, 32, 111, 102, 32, 114, 97, 110, 103, 101]⟩).val) (by simp [results, Tryz.results28, go_sem, *]; try rfl) rfl ⟨rfl, BX1.out.put _ _ _ _ _⟩
    · have z := (SpecSto.eq_no hkx).2
      rw [if_neg (fun h => hkx h.1)]
      clear hkx
      go_enter Tryz.func28, Tryz.ntmps28
      go_wp2_with fail
      refine (error_is _ _).mono ?_
      rintro e w1 ⟨rfl, hb1⟩
      have BX1 := Lib.hid (BY.out.step hb1)
      clear hb1 BY
      clear BX
      obtain ⟨hB, hge, hlt, a0, a1, a2, a3, a4, fz⟩ := BX1.out
      unfold R.val
      go_wp2_with fail
      exact bodyPost_ret (v := (failR ⟨#[111, 117, 116, 32, 111, 102, 32, 114, 97, 110, 103, 101]⟩).val) (by simp [results, Tryz.results28, go_sem, *]; try rfl) rfl ⟨rfl, BX1.out.put _ _ _ _ _⟩
  have g3 := lit_ne (l := [97, 116, 58]) hn3
  by_cases hn4 : sel = ⟨#[97, 115, 83, 121, 109, 98, 111, 108]⟩
  · rw [act_does (e := (⟨⟨#[97, 115, 83, 121, 109, 98, 111, 108]⟩, 0, fun v _ => if Tok.sel v.text then doneR (symV v.text) else failR ⟨#[110, 111, 116, 32, 97, 32, 115, 101, 108, 101, 99, 116, 111, 114]⟩⟩ : E)) (by rw [hop, hn4]; rfl) (.inl rfl)]
    show Calls _ _ _ _ (fun e w' => e = .returned (if Tok.sel v.text then doneR (symV v.text) else failR ⟨#[110, 111, 116, 32, 97, 32, 115, 101, 108, 101, 99, 116, 111, 114]⟩).val ∧ Below w.heap.size w w')
    have g := lit_eq (l := [97, 115, 83, 121, 109, 98, 111, 108]) hn4
    have KS := fun w' => Lib.hid (SpecSel.sel_any v.text w' (by omega))
    clear hn4 hn3 hn2 hn1 hn0 hcell h1 ha hop hv hk
    cases hq : Tok.sel v.text with
    | true =>
      rw [if_pos rfl]
      rw [hq] at KS
      go_enter Tryz.func28, Tryz.ntmps28
      go_wp2_with fail
      refine ((KS _).out).mono ?_
      rintro e w1 ⟨rfl, hb1⟩
      have BX1 := Lib.hid (BX.out.step hb1)
      clear hb1 BX
      go_wp2_with fail
      refine (done_is (symV v.text) _).mono ?_
      rintro e w2 ⟨rfl, hb2⟩
      have BX2 := Lib.hid (BX1.out.step hb2)
      clear hb2 BX1
      clear KS
      obtain ⟨hB, hge, hlt, a0, a1, a2, a3, a4, fz⟩ := BX2.out
      unfold R.val
      go_wp2_with fail
      exact bodyPost_ret (v := (doneR (symV v.text)).val) (by simp [results, Tryz.results28, go_sem, *]; try rfl) rfl ⟨rfl, BX2.out.put _ _ _ _ _⟩
    | false =>
      rw [if_neg Bool.false_ne_true]
      rw [hq] at KS
      go_enter Tryz.func28, Tryz.ntmps28
      go_wp2_with fail
      refine ((KS _).out).mono ?_
      rintro e w1 ⟨rfl, hb1⟩
      have BX1 := Lib.hid (BX.out.step hb1)
      clear hb1 BX
      go_wp2_with fail
      refine (error_is _ _).mono ?_
      rintro e w2 ⟨rfl, hb2⟩
      have BX2 := Lib.hid (BX1.out.step hb2)
      clear hb2 BX1
      clear KS
      obtain ⟨hB, hge, hlt, a0, a1, a2, a3, a4, fz⟩ := BX2.out
      unfold R.val
      go_wp2_with fail
      exact bodyPost_ret (v := (failR ⟨#[110, 111, 116, 32, 97, 32, 115, 101, 108, 101, 99, 116, 111, 114]⟩).val) (by simp [results, Tryz.results28, go_sem, *]; try rfl) rfl ⟨rfl, BX2.out.put _ _ _ _ _⟩
  have g4 := lit_ne (l := [97, 115, 83, 121, 109, 98, 111, 108]) hn4
  by_cases hn5 : sel = ⟨#[97, 115, 73, 110, 116, 101, 103, 101, 114]⟩
  · rw [act_does (e := (⟨⟨#[97, 115, 73, 110, 116, 101, 103, 101, 114]⟩, 0, fun v _ => if (pint v.text).2 && numB (pint v.text).1 then doneR (intV (pint v.text).1) else doneR nilV⟩ : E)) (by rw [hop, hn5]; rfl) (.inl rfl)]
    show Calls _ _ _ _ (fun e w' => e = .returned (if (pint v.text).2 && numB (pint v.text).1 then doneR (intV (pint v.text).1) else doneR nilV).val ∧ Below w.heap.size w w')
    have g := lit_eq (l := [97, 115, 73, 110, 116, 101, 103, 101, 114]) hn5
    have KS := fun w' => Lib.hid (Pint.spec_int v.text w' (by omega))
    have KI := fun w' => Lib.hid (SpecTree.in_any (pint v.text).1 (-999999999) 999999999 w')
    rw [show decide (-999999999 ≤ (pint v.text).1 ∧ (pint v.text).1 ≤ 999999999) = numB (pint v.text).1 from rfl] at KI
    generalize (pint v.text).1 = n at *
    generalize (pint v.text).2 = ok at *
    generalize numB n = b at *
    clear hn5 hn4 hn3 hn2 hn1 hn0 hcell h1 ha hop hv hk
    cases ok with
    | true =>
      cases b with
      | true =>
        rw [show (true && true) = true from rfl, if_pos rfl]
        go_enter Tryz.func28, Tryz.ntmps28
        go_wp2_with fail
        refine ((KS _).out).mono ?_
        rintro e w1 ⟨rfl, hb1⟩
        have BX1 := Lib.hid (BX.out.step hb1)
        clear hb1 BX
        go_wp2_with fail
        refine ((KI _).out).mono ?_
        rintro e w2 ⟨rfl, rfl⟩
        go_wp2_with fail
        refine (int_is _ _).mono ?_
        rintro e w3 ⟨rfl, hb3⟩
        have BX3 := Lib.hid (BX1.out.step hb3)
        clear hb3 BX1
        go_wp2_with fail
        refine (done_is _ _).mono ?_
        rintro e w4 ⟨rfl, hb4⟩
        have BX4 := Lib.hid (BX3.out.step hb4)
        clear hb4 BX3
        clear KS KI
        obtain ⟨hB, hge, hlt, a0, a1, a2, a3, a4, fz⟩ := BX4.out
        unfold R.val
        go_wp2_with fail
        exact bodyPost_ret (v := (doneR (intV n)).val) (by simp [results, Tryz.results28, go_sem, *]; try rfl) rfl ⟨rfl, BX4.out.put _ _ _ _ _⟩
      | false =>
        rw [show (true && false) = false from rfl, if_neg Bool.false_ne_true]
        go_enter Tryz.func28, Tryz.ntmps28
        go_wp2_with fail
        refine ((KS _).out).mono ?_
        rintro e w1 ⟨rfl, hb1⟩
        have BX1 := Lib.hid (BX.out.step hb1)
        clear hb1 BX
        go_wp2_with fail
        refine ((KI _).out).mono ?_
        rintro e w2 ⟨rfl, rfl⟩
        go_wp2_with fail
        refine (done_is nilV _).mono ?_
        rintro e w3 ⟨rfl, hb3⟩
        have BX3 := Lib.hid (BX1.out.step hb3)
        clear hb3 BX1
        clear KS KI
        obtain ⟨hB, hge, hlt, a0, a1, a2, a3, a4, fz⟩ := BX3.out
        unfold R.val
        go_wp2_with fail
        exact bodyPost_ret (v := (doneR nilV).val) (by simp [results, Tryz.results28, go_sem, *]; try rfl) rfl ⟨rfl, BX3.out.put _ _ _ _ _⟩
    | false =>
      rw [show (false && b) = false from rfl, if_neg Bool.false_ne_true]
      clear KI
      go_enter Tryz.func28, Tryz.ntmps28
      go_wp2_with fail
      refine ((KS _).out).mono ?_
      rintro e w1 ⟨rfl, hb1⟩
      have BX1 := Lib.hid (BX.out.step hb1)
      clear hb1 BX
      go_wp2_with fail
      refine (done_is nilV _).mono ?_
      rintro e w2 ⟨rfl, hb2⟩
      have BX2 := Lib.hid (BX1.out.step hb2)
      clear hb2 BX1
      clear KS
      obtain ⟨hB, hge, hlt, a0, a1, a2, a3, a4, fz⟩ := BX2.out
      unfold R.val
      go_wp2_with fail
      exact bodyPost_ret (v := (doneR nilV).val) (by simp [results, Tryz.results28, go_sem, *]; try rfl) rfl ⟨rfl, BX2.out.put _ _ _ _ _⟩
  have g5 := lit_ne (l := [97, 115, 73, 110, 116, 101, 103, 101, 114]) hn5
  rw [act_none (by
    rw [hop]
    refine seek_no fun e he => ?_
    unfold textOps at he
    simp only [List.mem_cons, List.not_mem_nil, or_false] at he
    rcases he with rfl | rfl | rfl | rfl | rfl | rfl
    · exact hn5
    · exact hn4
    · exact hn3
    · exact hn2
    · exact hn1
    · exact hn0)]
  clear hn5 hn4 hn3 hn2 hn1 hn0 hcell h1 ha hop hv hk
  go_enter Tryz.func28, Tryz.ntmps28
  go_wp2_with fail
  refine (miss_is _).mono ?_
  rintro e w1 ⟨rfl, hb1⟩
  have BX1 := Lib.hid (BX.out.step hb1)
  clear hb1 BX
  obtain ⟨hB, hge, hlt, a0, a1, a2, a3, a4, fz⟩ := BX1.out
  unfold R.val
  go_wp2_with fail
  exact bodyPost_ret (v := (missR).val) (by simp [results, Tryz.results28, go_sem, *]; try rfl) rfl ⟨rfl, BX1.out.put _ _ _ _ _⟩
end Go.Proofs.YtkmclgofghaeoaaGreat.SpecBas
