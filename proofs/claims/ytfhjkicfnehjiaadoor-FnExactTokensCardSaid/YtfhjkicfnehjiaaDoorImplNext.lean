/-
  impl.readSymbol, readSign, readToken: the token with which a text begins. They write nothing that was there.
-/
import Derived.Test.YtfhjkicfnehjiaaDoorImplSelector
namespace Go.Proofs.YtfhjkicfnehjiaaDoor.ImplRead
open Go.RowKit
open Strs

set_option maxRecDepth 10000 in
set_option maxHeartbeats 1000000 in
theorem symbol_any (s : ByteArray) (w : World) (hs : s.size ≤ 1048576) (hp : 0 < s.size) :
    Calls Tryd.prog 39 #[.string s] w (Tv (Tok.selectorAt s 1) w) := by
  have HV := Lib.hid (Tok.selector_read s hp)
  have hxz : (Tok.rest s 1).size ≤ 1048576 := by rw [Tok.rest_size]; omega
  have hX : s.extract 1 s.size = Tok.rest s 1 := rfl
  generalize Tok.rest s 1 = x at *
  have HP : Hid (Tok.pick x = if (Tok.starts x 0 Tok.binaries).toList.isEmpty = false then Tok.starts x 0 Tok.binaries else x.extract 0 (Tok.selLen x.data.toList)) := rfl
  have KS := fun v w h => Lib.hid (ImplSigns.sign_any x v Tok.binaries w h)
  have KL := fun w => Lib.hid (selector_any x w hxz)
  have hop : (Tok.starts x 0 Tok.binaries).size ≤ 1048576 := Tok.starts_size x 0 Tok.binaries _ (by
    intro y hy
    simp only [Tok.binaries, List.mem_cons, List.not_mem_nil, or_false] at hy
    rcases hy with rfl | rfl | rfl | rfl | rfl | rfl | rfl | rfl | rfl | rfl | rfl | rfl | rfl | rfl | rfl <;> (show _ ≤ _; simp [ByteArray.size]))
  have hsl : (x.extract 0 (Tok.selLen x.data.toList)).size ≤ 1048576 := by rw [← Tok.len_list, Tok.ext_data, List.length_take, List.length_drop, Tok.len_list]; omega
  generalize Tok.starts x 0 Tok.binaries = op at *
  generalize x.extract 0 (Tok.selLen x.data.toList) = y at *
  have BX := Lib.hid (box_new w)
  have hpi : (1 : Int) ≤ (s.size : Int) := by omega
  by_cases he : op.toList.isEmpty = false
  · have hP : Tok.pick x = op := HP.out.trans (if_pos he)
    rw [hP] at HV
    have KI := fun w => Lib.hid (ImplCount.sel_any op w hop)
    have hne : (op.toList == []) = false := by rw [beq_eq_false_iff_ne]; intro h; rw [h] at he; cases he
    clear HP hP he KL hsl
    cases hsel : Tok.sel op with
    | true =>
      rw [hsel] at KI
      rw [HV.out, hsel]
      clear hsel HV
      go_enter Tryd.func39, Tryd.ntmps39
      go_wp2_with fail
      obtain ⟨W, hW, BXW⟩ : ∃ W, W = (w.alloc (.cells #[.int .i64 0, .string ⟨#[]⟩, .int .i64 0] 32)) ∧ Box w w.heap.size W := ⟨_, rfl, BX.out⟩
      rw [← hW]; clear hW BX
      go_region_held3 (fun w' => Box w w.heap.size w')
        (first | exact BXW.step (Below.refl _ _).drew | exact (BXW.step (Below.refl _ _).drew).step hb3 | go_keep)
        (first | (go_at_call 61; refine (ImplSigns.binaries_any _).mono ?_; rintro e' w3 ⟨la, lc, rfl, hat, hb3⟩) | (go_at_call 60; refine (KS _ _ hat).out.mono ?_; rintro e' w4 ⟨rfl, rfl⟩))
      have BX3 := Lib.hid ((BXW.step (Below.refl _ _).drew).step hb3)
      clear hat hb3 BXW KS
      go_wp2_with fail
      refine (KI _).out.mono ?_
      rintro e w5 ⟨rfl, hb5⟩
      obtain ⟨hbw, hz, c0, c1, c2, hf⟩ := BX3.out.step hb5
      clear hb5 BX3
      go_wp2_with fail
      exact bodyPost_ret (v := .tuple #[.agg #[.int .i64 5, .string op, .int .i64 0], .int .i64 (1 + (op.size : Int))]) (by simp [results, Tryd.results39, go_sem, *]) rfl ⟨rfl, (by repeat (first | assumption | refine Below.setCell ?_ (by exact Nat.le_refl _) _))⟩
    | false =>
      rw [hsel] at KI
      rw [HV.out, hsel]
      clear hsel HV
      go_enter Tryd.func39, Tryd.ntmps39
      go_wp2_with fail
      obtain ⟨W, hW, BXW⟩ : ∃ W, W = (w.alloc (.cells #[.int .i64 0, .string ⟨#[]⟩, .int .i64 0] 32)) ∧ Box w w.heap.size W := ⟨_, rfl, BX.out⟩
      rw [← hW]; clear hW BX
      go_region_held3 (fun w' => Box w w.heap.size w')
        (first | exact BXW.step (Below.refl _ _).drew | exact (BXW.step (Below.refl _ _).drew).step hb3 | go_keep)
        (first | (go_at_call 61; refine (ImplSigns.binaries_any _).mono ?_; rintro e' w3 ⟨la, lc, rfl, hat, hb3⟩) | (go_at_call 60; refine (KS _ _ hat).out.mono ?_; rintro e' w4 ⟨rfl, rfl⟩))
      have BX3 := Lib.hid ((BXW.step (Below.refl _ _).drew).step hb3)
      clear hat hb3 BXW KS
      go_wp2_with fail
      refine (KI _).out.mono ?_
      rintro e w5 ⟨rfl, hb5⟩
      obtain ⟨hbw, hz, c0, c1, c2, hf⟩ := BX3.out.step hb5
      clear hb5 BX3
      go_wp2_with fail
      exact bodyPost_ret (v := .tuple #[.agg #[.int .i64 0, .string ⟨#[]⟩, .int .i64 0], .int .i64 0]) (by simp [results, Tryd.results39, go_sem, *]) rfl ⟨0, _, 0, rfl, (by repeat (first | assumption | refine Below.setCell ?_ (by exact Nat.le_refl _) _))⟩
  · have hP : Tok.pick x = y := HP.out.trans (if_neg he)
    rw [hP] at HV
    have KI := fun w => Lib.hid (ImplCount.sel_any y w hsl)
    have hne : (op.toList == []) = true := by
      rw [Bool.not_eq_false, List.isEmpty_iff] at he
      rw [he]; rfl
    clear HP hP he
    cases hsel : Tok.sel y with
    | true =>
      rw [hsel] at KI
      rw [HV.out, hsel]
      clear hsel HV
      go_enter Tryd.func39, Tryd.ntmps39
      go_wp2_with fail
      obtain ⟨W, hW, BXW⟩ : ∃ W, W = (w.alloc (.cells #[.int .i64 0, .string ⟨#[]⟩, .int .i64 0] 32)) ∧ Box w w.heap.size W := ⟨_, rfl, BX.out⟩
      rw [← hW]; clear hW BX
      go_region_held3 (fun w' => Box w w.heap.size w')
        (first | exact BXW.step (Below.refl _ _).drew | exact (BXW.step (Below.refl _ _).drew).step hb3 | go_keep)
        (first | (go_at_call 61; refine (ImplSigns.binaries_any _).mono ?_; rintro e' w3 ⟨la, lc, rfl, hat, hb3⟩) | (go_at_call 60; refine (KS _ _ hat).out.mono ?_; rintro e' w4 ⟨rfl, rfl⟩))
      have BX3 := Lib.hid ((BXW.step (Below.refl _ _).drew).step hb3)
      clear hat hb3 BXW KS
      go_wp2_with fail
      refine (KL _).out.mono ?_
      rintro e w4 ⟨rfl, hb4⟩
      have BX4 := Lib.hid (BX3.out.step hb4)
      clear BX3 hb4
      go_wp2_with fail
      refine (KI _).out.mono ?_
      rintro e w5 ⟨rfl, hb5⟩
      obtain ⟨hbw, hz, c0, c1, c2, hf⟩ := BX4.out.step hb5
      clear hb5 BX4
      go_wp2_with fail
      exact bodyPost_ret (v := .tuple #[.agg #[.int .i64 5, .string y, .int .i64 0], .int .i64 (1 + (y.size : Int))]) (by simp [results, Tryd.results39, go_sem, *]) rfl ⟨rfl, (by repeat (first | assumption | refine Below.setCell ?_ (by exact Nat.le_refl _) _))⟩
    | false =>
      rw [hsel] at KI
      rw [HV.out, hsel]
      clear hsel HV
      go_enter Tryd.func39, Tryd.ntmps39
      go_wp2_with fail
      obtain ⟨W, hW, BXW⟩ : ∃ W, W = (w.alloc (.cells #[.int .i64 0, .string ⟨#[]⟩, .int .i64 0] 32)) ∧ Box w w.heap.size W := ⟨_, rfl, BX.out⟩
      rw [← hW]; clear hW BX
      go_region_held3 (fun w' => Box w w.heap.size w')
        (first | exact BXW.step (Below.refl _ _).drew | exact (BXW.step (Below.refl _ _).drew).step hb3 | go_keep)
        (first | (go_at_call 61; refine (ImplSigns.binaries_any _).mono ?_; rintro e' w3 ⟨la, lc, rfl, hat, hb3⟩) | (go_at_call 60; refine (KS _ _ hat).out.mono ?_; rintro e' w4 ⟨rfl, rfl⟩))
      have BX3 := Lib.hid ((BXW.step (Below.refl _ _).drew).step hb3)
      clear hat hb3 BXW KS
      go_wp2_with fail
      refine (KL _).out.mono ?_
      rintro e w4 ⟨rfl, hb4⟩
      have BX4 := Lib.hid (BX3.out.step hb4)
      clear BX3 hb4
      go_wp2_with fail
      refine (KI _).out.mono ?_
      rintro e w5 ⟨rfl, hb5⟩
      obtain ⟨hbw, hz, c0, c1, c2, hf⟩ := BX4.out.step hb5
      clear hb5 BX4
      go_wp2_with fail
      exact bodyPost_ret (v := .tuple #[.agg #[.int .i64 0, .string ⟨#[]⟩, .int .i64 0], .int .i64 0]) (by simp [results, Tryd.results39, go_sem, *]) rfl ⟨0, _, 0, rfl, (by repeat (first | assumption | refine Below.setCell ?_ (by exact Nat.le_refl _) _))⟩

set_option maxRecDepth 10000 in
set_option maxHeartbeats 1000000 in
theorem sign_tok (s : ByteArray) (w : World) :
    Calls Tryd.prog 40 #[.string s] w (Tv (if (Tok.starts s 0 Tok.binaries).toList.isEmpty = false then some (⟨6, Tok.starts s 0 Tok.binaries, 0⟩, (Tok.starts s 0 Tok.binaries).size) else if (Tok.starts s 0 Tok.marks).toList.isEmpty = false then some (⟨7, Tok.starts s 0 Tok.marks, 0⟩, (Tok.starts s 0 Tok.marks).size) else none) w) := by
  have KS := fun v xs w h => Lib.hid (ImplSigns.sign_any s v xs w h)
  have KB := fun v w h => KS v Tok.binaries w h
  have KM := fun v w h => KS v Tok.marks w h
  generalize Tok.starts s 0 Tok.binaries = op at *
  generalize Tok.starts s 0 Tok.marks = mk at *
  have BX := Lib.hid (box_new w)
  clear KS
  by_cases he : op.toList.isEmpty = false
  · rw [if_pos he]
    have hne : (op.toList == []) = false := by rw [beq_eq_false_iff_ne]; intro h; rw [h] at he; cases he
    clear he
    go_enter Tryd.func40, Tryd.ntmps40
    go_wp2_with fail
    refine (ImplSigns.binaries_any _).mono ?_
    rintro e w1 ⟨a, c, rfl, hat, hb1⟩
    have BX1 := Lib.hid (BX.out.step hb1)
    clear BX hb1
    go_wp2_with fail
    refine (KB _ _ hat).out.mono ?_
    rintro e w2 ⟨rfl, rfl⟩
    obtain ⟨hbw, hz, c0, c1, c2, hf⟩ := BX1.out
    clear hat BX1
    go_wp2_with fail
    exact bodyPost_ret (v := .tuple #[.agg #[.int .i64 6, .string op, .int .i64 0], .int .i64 op.size]) (by simp [results, Tryd.results40, go_sem, *]) rfl ⟨rfl, (by repeat (first | assumption | refine Below.setCell ?_ (by exact Nat.le_refl _) _))⟩
  · rw [if_neg he]
    have hne : (op.toList == []) = true := by
      rw [Bool.not_eq_false, List.isEmpty_iff] at he
      rw [he]; rfl
    clear he
    by_cases hm : mk.toList.isEmpty = false
    · rw [if_pos hm]
      clear hm
      go_enter Tryd.func40, Tryd.ntmps40
      go_wp2_with fail
      refine (ImplSigns.binaries_any _).mono ?_
      rintro e w1 ⟨a, c, rfl, hat, hb1⟩
      have BX1 := Lib.hid (BX.out.step hb1)
      clear BX hb1
      go_wp2_with fail
      refine (KB _ _ hat).out.mono ?_
      rintro e w2 ⟨rfl, rfl⟩
      clear hat
      go_wp2_with fail
      refine (marks_any _).mono ?_
      rintro e w3 ⟨a, c, rfl, hat, hb3⟩
      have BX3 := Lib.hid (BX1.out.step hb3)
      clear BX1 hb3
      go_wp2_with fail
      refine (KM _ _ hat).out.mono ?_
      rintro e w4 ⟨rfl, rfl⟩
      obtain ⟨hbw, hz, c0, c1, c2, hf⟩ := BX3.out
      clear hat BX3
      go_wp2_with fail
      exact bodyPost_ret (v := .tuple #[.agg #[.int .i64 7, .string mk, .int .i64 0], .int .i64 mk.size]) (by simp [results, Tryd.results40, go_sem, *]) rfl ⟨rfl, (by repeat (first | assumption | refine Below.setCell ?_ (by exact Nat.le_refl _) _))⟩
    · rw [if_neg hm]
      have hmz : mk.size = 0 := Tok.empty_size mk (by rw [Bool.not_eq_false] at hm; exact hm)
      clear hm
      go_enter Tryd.func40, Tryd.ntmps40
      go_wp2_with fail
      refine (ImplSigns.binaries_any _).mono ?_
      rintro e w1 ⟨a, c, rfl, hat, hb1⟩
      have BX1 := Lib.hid (BX.out.step hb1)
      clear BX hb1
      go_wp2_with fail
      refine (KB _ _ hat).out.mono ?_
      rintro e w2 ⟨rfl, rfl⟩
      clear hat
      go_wp2_with fail
      refine (marks_any _).mono ?_
      rintro e w3 ⟨a, c, rfl, hat, hb3⟩
      have BX3 := Lib.hid (BX1.out.step hb3)
      clear BX1 hb3
      go_wp2_with fail
      refine (KM _ _ hat).out.mono ?_
      rintro e w4 ⟨rfl, rfl⟩
      obtain ⟨hbw, hz, c0, c1, c2, hf⟩ := BX3.out
      clear hat BX3
      go_wp2_with fail
      exact bodyPost_ret (v := .tuple #[.agg #[.int .i64 7, .string mk, .int .i64 0], .int .i64 0]) (by simp [results, Tryd.results40, go_sem, *]) rfl ⟨7, mk, 0, rfl, (by repeat (first | assumption | refine Below.setCell ?_ (by exact Nat.le_refl _) _))⟩
end Go.Proofs.YtfhjkicfnehjiaaDoor.ImplRead
