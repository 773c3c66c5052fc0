/-
  spec.l2Next: the token that it reads at a place. It writes nothing that was there.
-/
import Derived.Test.YtamjfbjkdicmcaaGreatDoorBSpecColon
import Derived.Test.YtamjfbjkdicmcaaGreatDoorBSpecQuoted
import Derived.Test.YtamjfbjkdicmcaaGreatDoorBSpecSymbol
namespace Go.Proofs.YtamjfbjkdicmcaaGreatDoor.SpecNext
open Go.RowKit
open Strs SpecTok SpecName SpecRead2 SpecSel SpecStarts SpecSymbol SpecQuoted
theorem marks_size : ∀ x ∈ Tok.marks, x.size ≤ 1048576 := by
  intro x hx
  simp only [Tok.marks, _root_.List.mem_cons, _root_.List.not_mem_nil, or_false] at hx
  rcases hx with rfl | rfl | rfl | rfl | rfl | rfl | rfl | rfl | rfl | rfl <;> (show _ ≤ _; simp [ByteArray.size])
theorem not39 (c : UInt8) (h : ¬ (c.toNat : Int) = 39) : ¬ c = 39 := fun e => h (by rw [e]; rfl)
theorem not35 (c : UInt8) (h : ¬ (c.toNat : Int) = 35) : ¬ c = 35 := fun e => h (by rw [e]; rfl)
theorem byte35 (c : UInt8) (h : (c.toNat : Int) = 35) : c = 35 := UInt8.toNat_inj.1 (show c.toNat = 35 by omega)
set_option maxHeartbeats 4000000 in
theorem next_name (s : ByteArray) (A : Int) (p : Nat) (w : World) (hA : A = p) (hlt : p < s.size) (hs : s.size ≤ 1048576) (hl : Tok.letter (s[p]'hlt) = true) :
    Calls Tryz.prog 14 #[.string s, .int .i64 A] w fun e w' => e = .returned (tv (Tok.next s p (s[p]'hlt))) ∧ Below w.heap.size w w' := by
  subst hA
  have hp : p ≤ s.size := by omega
  have KB := fun v w hat => Lib.hid (starts_any s p p v Tok.binaries w rfl hp hs (by decide) binaries_size hat)
  have KM := fun v w hat => Lib.hid (starts_any s p p v Tok.marks w rfl hp hs (by decide) marks_size hat)
  have BX := Lib.hid (box_new w)
  have hops : (Tok.starts s p Tok.binaries).size ≤ 1048576 := Tok.starts_size s p Tok.binaries _ binaries_size
  have hmks : (Tok.starts s p Tok.marks).size ≤ 1048576 := Tok.starts_size s p Tok.marks _ marks_size
  have KL := fun w => Lib.hid (letter_is (s[p]'hlt) true w hl)
  have HV0 : Hid (Tok.next s p (s[p]'hlt) = Tok.nameAt s p) := by show _ = _; unfold Tok.next; rw [if_pos hl]
  have KX0 := fun w => Lib.hid (name_any s p p w rfl hp hs)
  clear hl
  generalize Tok.nameAt s p = r at *
  generalize Tok.starts s p Tok.binaries = op at *
  generalize Tok.starts s p Tok.marks = mk at *
  match r with
  | none =>
    have HN := HV0
    go_enter Tryz.func14, Tryz.ntmps14
    go_wp2_with fail
    refine (marks_any _).mono ?_
    rintro e' w1 ⟨a, c, rfl, hat, hb1⟩
    have HAT := Lib.hid hat; clear hat
    have BX1 := Lib.hid (BX.out.step hb1); clear BX hb1
    go_wp2_with fail
    refine (KM _ w1 HAT.out).out.mono ?_
    rintro e' w2 ⟨rfl, hb2⟩
    have BX2 := Lib.hid (BX1.out.step hb2); clear BX1 hb2 HAT
    go_wp2_with fail
    refine (binaries_any _).mono ?_
    rintro e' w3 ⟨a', c', rfl, hat, hb3⟩
    have HAT := Lib.hid hat; clear hat
    have BX3 := Lib.hid (BX2.out.step hb3); clear BX2 hb3
    go_wp2_with fail
    refine (KB _ w3 HAT.out).out.mono ?_
    rintro e' w4 ⟨rfl, hb4⟩
    have BX4 := Lib.hid (BX3.out.step hb4); clear BX3 hb4 HAT
    go_wp2_with fail
    refine (KL _).out.mono ?_
    rintro e' w5 ⟨rfl, rfl⟩
    go_wp2_with fail
    refine (KX0 _).out.mono ?_
    rintro e' w6 ⟨rfl, hb6⟩
    have BX6 := BX4.out.step hb6; clear BX4 hb6
    obtain ⟨hbw, hsz, c0, c1, c2, hf⟩ := BX6
    simp only [tv]
    go_wp2_with fail
    exact bodyPost_ret (v := .tuple #[.agg #[.int .i64 0, .string ByteArray.empty, .int .i64 0], .int .i64 0]) (by simp [results, Tryz.results14, go_sem, *]) rfl ⟨by rw [HN.out]; rfl, (by repeat (first | assumption | refine Below.setCell ?_ (by exact Nat.le_refl _) _))⟩
  | some (t, e) =>
    have HN := HV0
    go_enter Tryz.func14, Tryz.ntmps14
    go_wp2_with fail
    refine (marks_any _).mono ?_
    rintro e' w1 ⟨a, c, rfl, hat, hb1⟩
    have HAT := Lib.hid hat; clear hat
    have BX1 := Lib.hid (BX.out.step hb1); clear BX hb1
    go_wp2_with fail
    refine (KM _ w1 HAT.out).out.mono ?_
    rintro e' w2 ⟨rfl, hb2⟩
    have BX2 := Lib.hid (BX1.out.step hb2); clear BX1 hb2 HAT
    go_wp2_with fail
    refine (binaries_any _).mono ?_
    rintro e' w3 ⟨a', c', rfl, hat, hb3⟩
    have HAT := Lib.hid hat; clear hat
    have BX3 := Lib.hid (BX2.out.step hb3); clear BX2 hb3
    go_wp2_with fail
    refine (KB _ w3 HAT.out).out.mono ?_
    rintro e' w4 ⟨rfl, hb4⟩
    have BX4 := Lib.hid (BX3.out.step hb4); clear BX3 hb4 HAT
    go_wp2_with fail
    refine (KL _).out.mono ?_
    rintro e' w5 ⟨rfl, rfl⟩
    go_wp2_with fail
    refine (KX0 _).out.mono ?_
    rintro e' w6 ⟨rfl, hb6⟩
    have BX6 := BX4.out.step hb6; clear BX4 hb6
    obtain ⟨hbw, hsz, c0, c1, c2, hf⟩ := BX6
    simp only [tv]
    go_wp2_with fail
    exact bodyPost_ret (v := .tuple #[.agg #[.int .i64 t.kind, .string t.text, .int .i64 t.num], .int .i64 (e : Nat)]) (by simp [results, Tryz.results14, go_sem, *]) rfl ⟨by rw [HN.out]; rfl, (by repeat (first | assumption | refine Below.setCell ?_ (by exact Nat.le_refl _) _))⟩
set_option maxHeartbeats 4000000 in
theorem next_number (s : ByteArray) (A : Int) (p : Nat) (w : World) (hA : A = p) (hlt : p < s.size) (hs : s.size ≤ 1048576) (hl : Tok.letter (s[p]'hlt) = false) (hd : Tok.digit (s[p]'hlt) = true) :
    Calls Tryz.prog 14 #[.string s, .int .i64 A] w fun e w' => e = .returned (tv (Tok.next s p (s[p]'hlt))) ∧ Below w.heap.size w w' := by
  subst hA
  have hp : p ≤ s.size := by omega
  have KB := fun v w hat => Lib.hid (starts_any s p p v Tok.binaries w rfl hp hs (by decide) binaries_size hat)
  have KM := fun v w hat => Lib.hid (starts_any s p p v Tok.marks w rfl hp hs (by decide) marks_size hat)
  have BX := Lib.hid (box_new w)
  have hops : (Tok.starts s p Tok.binaries).size ≤ 1048576 := Tok.starts_size s p Tok.binaries _ binaries_size
  have hmks : (Tok.starts s p Tok.marks).size ≤ 1048576 := Tok.starts_size s p Tok.marks _ marks_size
  have KL := fun w => Lib.hid (letter_is (s[p]'hlt) false w hl)
  have KD := fun w => Lib.hid (digit_is (s[p]'hlt) true w hd)
  have HV0 : Hid (Tok.next s p (s[p]'hlt) = Tok.number s.data.toList p) := by show _ = _; unfold Tok.next; rw [if_neg (by rw [hl]; exact Bool.false_ne_true), if_pos hd]
  have KX0 := fun w => Lib.hid (number_any s p p w rfl hp hs)
  clear hl hd
  generalize Tok.number s.data.toList p = r at *
  generalize Tok.starts s p Tok.binaries = op at *
  generalize Tok.starts s p Tok.marks = mk at *
  match r with
  | none =>
    have HN := HV0
    go_enter Tryz.func14, Tryz.ntmps14
    go_wp2_with fail
    refine (marks_any _).mono ?_
    rintro e' w1 ⟨a, c, rfl, hat, hb1⟩
    have HAT := Lib.hid hat; clear hat
    have BX1 := Lib.hid (BX.out.step hb1); clear BX hb1
    go_wp2_with fail
    refine (KM _ w1 HAT.out).out.mono ?_
    rintro e' w2 ⟨rfl, hb2⟩
    have BX2 := Lib.hid (BX1.out.step hb2); clear BX1 hb2 HAT
    go_wp2_with fail
    refine (binaries_any _).mono ?_
    rintro e' w3 ⟨a', c', rfl, hat, hb3⟩
    have HAT := Lib.hid hat; clear hat
    have BX3 := Lib.hid (BX2.out.step hb3); clear BX2 hb3
    go_wp2_with fail
    refine (KB _ w3 HAT.out).out.mono ?_
    rintro e' w4 ⟨rfl, hb4⟩
    have BX4 := Lib.hid (BX3.out.step hb4); clear BX3 hb4 HAT
    go_wp2_with fail
    refine (KL _).out.mono ?_
    rintro e' w5 ⟨rfl, rfl⟩
    go_wp2_with fail
    refine (KD _).out.mono ?_
    rintro e' w5 ⟨rfl, rfl⟩
    go_wp2_with fail
    refine (KX0 _).out.mono ?_
    rintro e' w6 ⟨rfl, hb6⟩
    have BX6 := BX4.out.step hb6; clear BX4 hb6
    obtain ⟨hbw, hsz, c0, c1, c2, hf⟩ := BX6
    simp only [tv]
    go_wp2_with fail
    exact bodyPost_ret (v := .tuple #[.agg #[.int .i64 0, .string ByteArray.empty, .int .i64 0], .int .i64 0]) (by simp [results, Tryz.results14, go_sem, *]) rfl ⟨by rw [HN.out]; rfl, (by repeat (first | assumption | refine Below.setCell ?_ (by exact Nat.le_refl _) _))⟩
  | some (t, e) =>
    have HN := HV0
    go_enter Tryz.func14, Tryz.ntmps14
    go_wp2_with fail
    refine (marks_any _).mono ?_
    rintro e' w1 ⟨a, c, rfl, hat, hb1⟩
    have HAT := Lib.hid hat; clear hat
    have BX1 := Lib.hid (BX.out.step hb1); clear BX hb1
    go_wp2_with fail
    refine (KM _ w1 HAT.out).out.mono ?_
    rintro e' w2 ⟨rfl, hb2⟩
    have BX2 := Lib.hid (BX1.out.step hb2); clear BX1 hb2 HAT
    go_wp2_with fail
    refine (binaries_any _).mono ?_
    rintro e' w3 ⟨a', c', rfl, hat, hb3⟩
    have HAT := Lib.hid hat; clear hat
    have BX3 := Lib.hid (BX2.out.step hb3); clear BX2 hb3
    go_wp2_with fail
    refine (KB _ w3 HAT.out).out.mono ?_
    rintro e' w4 ⟨rfl, hb4⟩
    have BX4 := Lib.hid (BX3.out.step hb4); clear BX3 hb4 HAT
    go_wp2_with fail
    refine (KL _).out.mono ?_
    rintro e' w5 ⟨rfl, rfl⟩
    go_wp2_with fail
    refine (KD _).out.mono ?_
    rintro e' w5 ⟨rfl, rfl⟩
    go_wp2_with fail
    refine (KX0 _).out.mono ?_
    rintro e' w6 ⟨rfl, hb6⟩
    have BX6 := BX4.out.step hb6; clear BX4 hb6
    obtain ⟨hbw, hsz, c0, c1, c2, hf⟩ := BX6
    simp only [tv]
    go_wp2_with fail
    exact bodyPost_ret (v := .tuple #[.agg #[.int .i64 t.kind, .string t.text, .int .i64 t.num], .int .i64 (e : Nat)]) (by simp [results, Tryz.results14, go_sem, *]) rfl ⟨by rw [HN.out]; rfl, (by repeat (first | assumption | refine Below.setCell ?_ (by exact Nat.le_refl _) _))⟩
set_option maxHeartbeats 4000000 in
theorem next_quoted (s : ByteArray) (A : Int) (p : Nat) (w : World) (hA : A = p) (hlt : p < s.size) (hs : s.size ≤ 1048576) (hl : Tok.letter (s[p]'hlt) = false) (hd : Tok.digit (s[p]'hlt) = false) (hq : ((s[p]'hlt).toNat : Int) = 39) :
    Calls Tryz.prog 14 #[.string s, .int .i64 A] w fun e w' => e = .returned (tv (Tok.next s p (s[p]'hlt))) ∧ Below w.heap.size w w' := by
  subst hA
  have hp : p ≤ s.size := by omega
  have KB := fun v w hat => Lib.hid (starts_any s p p v Tok.binaries w rfl hp hs (by decide) binaries_size hat)
  have KM := fun v w hat => Lib.hid (starts_any s p p v Tok.marks w rfl hp hs (by decide) marks_size hat)
  have BX := Lib.hid (box_new w)
  have hops : (Tok.starts s p Tok.binaries).size ≤ 1048576 := Tok.starts_size s p Tok.binaries _ binaries_size
  have hmks : (Tok.starts s p Tok.marks).size ≤ 1048576 := Tok.starts_size s p Tok.marks _ marks_size
  have KL := fun w => Lib.hid (letter_is (s[p]'hlt) false w hl)
  have KD := fun w => Lib.hid (digit_is (s[p]'hlt) false w hd)
  have tq : (((s[p]'hlt).toNat : Int) == 39) = true := by simpa using hq
  have HV0 : Hid (Tok.next s p (s[p]'hlt) = Tok.quoted s.data.toList p) := by show _ = _; unfold Tok.next; rw [if_neg (by rw [hl]; exact Bool.false_ne_true), if_neg (by rw [hd]; exact Bool.false_ne_true), if_pos (byte39 _ hq)]
  have KX0 := fun w => Lib.hid (quoted_any s p p w rfl hlt hs)
  clear hl hd hq
  generalize Tok.quoted s.data.toList p = r at *
  generalize Tok.starts s p Tok.binaries = op at *
  generalize Tok.starts s p Tok.marks = mk at *
  match r with
  | none =>
    have HN := HV0
    go_enter Tryz.func14, Tryz.ntmps14
    go_wp2_with fail
    refine (marks_any _).mono ?_
    rintro e' w1 ⟨a, c, rfl, hat, hb1⟩
    have HAT := Lib.hid hat; clear hat
    have BX1 := Lib.hid (BX.out.step hb1); clear BX hb1
    go_wp2_with fail
    refine (KM _ w1 HAT.out).out.mono ?_
    rintro e' w2 ⟨rfl, hb2⟩
    have BX2 := Lib.hid (BX1.out.step hb2); clear BX1 hb2 HAT
    go_wp2_with fail
    refine (binaries_any _).mono ?_
    rintro e' w3 ⟨a', c', rfl, hat, hb3⟩
    have HAT := Lib.hid hat; clear hat
    have BX3 := Lib.hid (BX2.out.step hb3); clear BX2 hb3
    go_wp2_with fail
    refine (KB _ w3 HAT.out).out.mono ?_
    rintro e' w4 ⟨rfl, hb4⟩
    have BX4 := Lib.hid (BX3.out.step hb4); clear BX3 hb4 HAT
    go_wp2_with fail
    refine (KL _).out.mono ?_
    rintro e' w5 ⟨rfl, rfl⟩
    go_wp2_with fail
    refine (KD _).out.mono ?_
    rintro e' w5 ⟨rfl, rfl⟩
    go_wp2_with fail
    refine (KX0 _).out.mono ?_
    rintro e' w6 ⟨rfl, hb6⟩
    have BX6 := BX4.out.step hb6; clear BX4 hb6
    obtain ⟨hbw, hsz, c0, c1, c2, hf⟩ := BX6
    simp only [tv]
    go_wp2_with fail
    exact bodyPost_ret (v := .tuple #[.agg #[.int .i64 0, .string ByteArray.empty, .int .i64 0], .int .i64 0]) (by simp [results, Tryz.results14, go_sem, *]) rfl ⟨by rw [HN.out]; rfl, (by repeat (first | assumption | refine Below.setCell ?_ (by exact Nat.le_refl _) _))⟩
  | some (t, e) =>
    have HN := HV0
    go_enter Tryz.func14, Tryz.ntmps14
    go_wp2_with fail
    refine (marks_any _).mono ?_
    rintro e' w1 ⟨a, c, rfl, hat, hb1⟩
    have HAT := Lib.hid hat; clear hat
    have BX1 := Lib.hid (BX.out.step hb1); clear BX hb1
    go_wp2_with fail
    refine (KM _ w1 HAT.out).out.mono ?_
    rintro e' w2 ⟨rfl, hb2⟩
    have BX2 := Lib.hid (BX1.out.step hb2); clear BX1 hb2 HAT
    go_wp2_with fail
    refine (binaries_any _).mono ?_
    rintro e' w3 ⟨a', c', rfl, hat, hb3⟩
    have HAT := Lib.hid hat; clear hat
    have BX3 := Lib.hid (BX2.out.step hb3); clear BX2 hb3
    go_wp2_with fail
    refine (KB _ w3 HAT.out).out.mono ?_
    rintro e' w4 ⟨rfl, hb4⟩
    have BX4 := Lib.hid (BX3.out.step hb4); clear BX3 hb4 HAT
    go_wp2_with fail
    refine (KL _).out.mono ?_
    rintro e' w5 ⟨rfl, rfl⟩
    go_wp2_with fail
    refine (KD _).out.mono ?_
    rintro e' w5 ⟨rfl, rfl⟩
    go_wp2_with fail
    refine (KX0 _).out.mono ?_
    rintro e' w6 ⟨rfl, hb6⟩
    have BX6 := BX4.out.step hb6; clear BX4 hb6
    obtain ⟨hbw, hsz, c0, c1, c2, hf⟩ := BX6
    simp only [tv]
    go_wp2_with fail
    exact bodyPost_ret (v := .tuple #[.agg #[.int .i64 t.kind, .string t.text, .int .i64 t.num], .int .i64 (e : Nat)]) (by simp [results, Tryz.results14, go_sem, *]) rfl ⟨by rw [HN.out]; rfl, (by repeat (first | assumption | refine Below.setCell ?_ (by exact Nat.le_refl _) _))⟩
set_option maxHeartbeats 4000000 in
theorem next_symbol (s : ByteArray) (A : Int) (p : Nat) (w : World) (hA : A = p) (hlt : p < s.size) (hs : s.size ≤ 1048576) (hl : Tok.letter (s[p]'hlt) = false) (hd : Tok.digit (s[p]'hlt) = false) (hq : ¬ ((s[p]'hlt).toNat : Int) = 39) (hh : ((s[p]'hlt).toNat : Int) = 35) :
    Calls Tryz.prog 14 #[.string s, .int .i64 A] w fun e w' => e = .returned (tv (Tok.next s p (s[p]'hlt))) ∧ Below w.heap.size w w' := by
  subst hA
  have hp : p ≤ s.size := by omega
  have KB := fun v w hat => Lib.hid (starts_any s p p v Tok.binaries w rfl hp hs (by decide) binaries_size hat)
  have KM := fun v w hat => Lib.hid (starts_any s p p v Tok.marks w rfl hp hs (by decide) marks_size hat)
  have BX := Lib.hid (box_new w)
  have hops : (Tok.starts s p Tok.binaries).size ≤ 1048576 := Tok.starts_size s p Tok.binaries _ binaries_size
  have hmks : (Tok.starts s p Tok.marks).size ≤ 1048576 := Tok.starts_size s p Tok.marks _ marks_size
  have KL := fun w => Lib.hid (letter_is (s[p]'hlt) false w hl)
  have KD := fun w => Lib.hid (digit_is (s[p]'hlt) false w hd)
  have tq : (((s[p]'hlt).toNat : Int) == 39) = false := by simpa using hq
  have th : (((s[p]'hlt).toNat : Int) == 35) = true := by simpa using hh
  have HV0 : Hid (Tok.next s p (s[p]'hlt) = Tok.selectorAt s (p + 1)) := by show _ = _; unfold Tok.next; rw [if_neg (by rw [hl]; exact Bool.false_ne_true), if_neg (by rw [hd]; exact Bool.false_ne_true), if_neg (not39 _ hq), if_pos (byte35 _ hh)]
  have KX0 := fun w => Lib.hid (selector_any s ((p : Int) + 1) (p + 1) w (by omega) (by omega) hs)
  clear hl hd hq hh
  generalize Tok.selectorAt s (p + 1) = r at *
  generalize Tok.starts s p Tok.binaries = op at *
  generalize Tok.starts s p Tok.marks = mk at *
  match r with
  | none =>
    have HN := HV0
    go_enter Tryz.func14, Tryz.ntmps14
    go_wp2_with fail
    refine (marks_any _).mono ?_
    rintro e' w1 ⟨a, c, rfl, hat, hb1⟩
    have HAT := Lib.hid hat; clear hat
    have BX1 := Lib.hid (BX.out.step hb1); clear BX hb1
    go_wp2_with fail
    refine (KM _ w1 HAT.out).out.mono ?_
    rintro e' w2 ⟨rfl, hb2⟩
    have BX2 := Lib.hid (BX1.out.step hb2); clear BX1 hb2 HAT
    go_wp2_with fail
    refine (binaries_any _).mono ?_
    rintro e' w3 ⟨a', c', rfl, hat, hb3⟩
    have HAT := Lib.hid hat; clear hat
    have BX3 := Lib.hid (BX2.out.step hb3); clear BX2 hb3
    go_wp2_with fail
    refine (KB _ w3 HAT.out).out.mono ?_
    rintro e' w4 ⟨rfl, hb4⟩
    have BX4 := Lib.hid (BX3.out.step hb4); clear BX3 hb4 HAT
    go_wp2_with fail
    refine (KL _).out.mono ?_
    rintro e' w5 ⟨rfl, rfl⟩
    go_wp2_with fail
    refine (KD _).out.mono ?_
    rintro e' w5 ⟨rfl, rfl⟩
    go_wp2_with fail
    refine (KX0 _).out.mono ?_
    rintro e' w6 ⟨rfl, hb6⟩
    have BX6 := BX4.out.step hb6; clear BX4 hb6
    obtain ⟨hbw, hsz, c0, c1, c2, hf⟩ := BX6
    simp only [tv]
    go_wp2_with fail
    exact bodyPost_ret (v := .tuple #[.agg #[.int .i64 0, .string ByteArray.empty, .int .i64 0], .int .i64 0]) (by simp [results, Tryz.results14, go_sem, *]) rfl ⟨by rw [HN.out]; rfl, (by repeat (first | assumption | refine Below.setCell ?_ (by exact Nat.le_refl _) _))⟩
  | some (t, e) =>
    have HN := HV0
    go_enter Tryz.func14, Tryz.ntmps14
    go_wp2_with fail
    refine (marks_any _).mono ?_
    rintro e' w1 ⟨a, c, rfl, hat, hb1⟩
    have HAT := Lib.hid hat; clear hat
    have BX1 := Lib.hid (BX.out.step hb1); clear BX hb1
    go_wp2_with fail
    refine (KM _ w1 HAT.out).out.mono ?_
    rintro e' w2 ⟨rfl, hb2⟩
    have BX2 := Lib.hid (BX1.out.step hb2); clear BX1 hb2 HAT
    go_wp2_with fail
    refine (binaries_any _).mono ?_
    rintro e' w3 ⟨a', c', rfl, hat, hb3⟩
    have HAT := Lib.hid hat; clear hat
    have BX3 := Lib.hid (BX2.out.step hb3); clear BX2 hb3
    go_wp2_with fail
    refine (KB _ w3 HAT.out).out.mono ?_
    rintro e' w4 ⟨rfl, hb4⟩
    have BX4 := Lib.hid (BX3.out.step hb4); clear BX3 hb4 HAT
    go_wp2_with fail
    refine (KL _).out.mono ?_
    rintro e' w5 ⟨rfl, rfl⟩
    go_wp2_with fail
    refine (KD _).out.mono ?_
    rintro e' w5 ⟨rfl, rfl⟩
    go_wp2_with fail
    refine (KX0 _).out.mono ?_
    rintro e' w6 ⟨rfl, hb6⟩
    have BX6 := BX4.out.step hb6; clear BX4 hb6
    obtain ⟨hbw, hsz, c0, c1, c2, hf⟩ := BX6
    simp only [tv]
    go_wp2_with fail
    exact bodyPost_ret (v := .tuple #[.agg #[.int .i64 t.kind, .string t.text, .int .i64 t.num], .int .i64 (e : Nat)]) (by simp [results, Tryz.results14, go_sem, *]) rfl ⟨by rw [HN.out]; rfl, (by repeat (first | assumption | refine Below.setCell ?_ (by exact Nat.le_refl _) _))⟩
set_option maxHeartbeats 4000000 in
theorem next_binary (s : ByteArray) (A : Int) (p : Nat) (w : World) (hA : A = p) (hlt : p < s.size) (hs : s.size ≤ 1048576) (hl : Tok.letter (s[p]'hlt) = false) (hd : Tok.digit (s[p]'hlt) = false) (hq : ¬ ((s[p]'hlt).toNat : Int) = 39) (hh : ¬ ((s[p]'hlt).toNat : Int) = 35) (ho : (Tok.starts s p Tok.binaries).toList.isEmpty = false) :
    Calls Tryz.prog 14 #[.string s, .int .i64 A] w fun e w' => e = .returned (tv (Tok.next s p (s[p]'hlt))) ∧ Below w.heap.size w w' := by
  subst hA
  have hp : p ≤ s.size := by omega
  have KB := fun v w hat => Lib.hid (starts_any s p p v Tok.binaries w rfl hp hs (by decide) binaries_size hat)
  have KM := fun v w hat => Lib.hid (starts_any s p p v Tok.marks w rfl hp hs (by decide) marks_size hat)
  have BX := Lib.hid (box_new w)
  have hops : (Tok.starts s p Tok.binaries).size ≤ 1048576 := Tok.starts_size s p Tok.binaries _ binaries_size
  have hmks : (Tok.starts s p Tok.marks).size ≤ 1048576 := Tok.starts_size s p Tok.marks _ marks_size
  have KL := fun w => Lib.hid (letter_is (s[p]'hlt) false w hl)
  have KD := fun w => Lib.hid (digit_is (s[p]'hlt) false w hd)
  have tq : (((s[p]'hlt).toNat : Int) == 39) = false := by simpa using hq
  have th : (((s[p]'hlt).toNat : Int) == 35) = false := by simpa using hh
  have HN : Hid (Tok.next s p (s[p]'hlt) = some (⟨6, Tok.starts s p Tok.binaries, 0⟩, p + (Tok.starts s p Tok.binaries).size)) := by show _ = _; unfold Tok.next; rw [if_neg (by rw [hl]; exact Bool.false_ne_true), if_neg (by rw [hd]; exact Bool.false_ne_true), if_neg (not39 _ hq), if_neg (not35 _ hh), if_pos ho]
  clear hl hd hq hh
  generalize Tok.starts s p Tok.binaries = op at *
  generalize Tok.starts s p Tok.marks = mk at *
  go_enter Tryz.func14, Tryz.ntmps14
  go_wp2_with fail
  refine (marks_any _).mono ?_
  rintro e' w1 ⟨a, c, rfl, hat, hb1⟩
  have HAT := Lib.hid hat; clear hat
  have BX1 := Lib.hid (BX.out.step hb1); clear BX hb1
  go_wp2_with fail
  refine (KM _ w1 HAT.out).out.mono ?_
  rintro e' w2 ⟨rfl, hb2⟩
  have BX2 := Lib.hid (BX1.out.step hb2); clear BX1 hb2 HAT
  go_wp2_with fail
  refine (binaries_any _).mono ?_
  rintro e' w3 ⟨a', c', rfl, hat, hb3⟩
  have HAT := Lib.hid hat; clear hat
  have BX3 := Lib.hid (BX2.out.step hb3); clear BX2 hb3
  go_wp2_with fail
  refine (KB _ w3 HAT.out).out.mono ?_
  rintro e' w4 ⟨rfl, hb4⟩
  have BX4 := Lib.hid (BX3.out.step hb4); clear BX3 hb4 HAT
  go_wp2_with fail
  obtain ⟨hbw, hsz, c0, c1, c2, hf⟩ := BX4.out
  refine (KL _).out.mono ?_
  rintro e' w5 ⟨rfl, rfl⟩
  go_wp2_with fail
  refine (KD _).out.mono ?_
  rintro e' w5 ⟨rfl, rfl⟩
  go_wp2_with fail
  exact bodyPost_ret (v := .tuple #[.agg #[.int .i64 6, .string op, .int .i64 0], .int .i64 ((p : Int) + (op.size : Int))]) (by simp [results, Tryz.results14, go_sem, *]) rfl ⟨by rw [HN.out]; rfl, (by repeat (first | assumption | refine Below.setCell ?_ (by exact Nat.le_refl _) _))⟩
set_option maxHeartbeats 4000000 in
theorem next_mark (s : ByteArray) (A : Int) (p : Nat) (w : World) (hA : A = p) (hlt : p < s.size) (hs : s.size ≤ 1048576) (hl : Tok.letter (s[p]'hlt) = false) (hd : Tok.digit (s[p]'hlt) = false) (hq : ¬ ((s[p]'hlt).toNat : Int) = 39) (hh : ¬ ((s[p]'hlt).toNat : Int) = 35) (ho : (Tok.starts s p Tok.binaries).toList.isEmpty = true) (hk : (Tok.starts s p Tok.marks).toList.isEmpty = false) :
    Calls Tryz.prog 14 #[.string s, .int .i64 A] w fun e w' => e = .returned (tv (Tok.next s p (s[p]'hlt))) ∧ Below w.heap.size w w' := by
  subst hA
  have hp : p ≤ s.size := by omega
  have KB := fun v w hat => Lib.hid (starts_any s p p v Tok.binaries w rfl hp hs (by decide) binaries_size hat)
  have KM := fun v w hat => Lib.hid (starts_any s p p v Tok.marks w rfl hp hs (by decide) marks_size hat)
  have BX := Lib.hid (box_new w)
  have hops : (Tok.starts s p Tok.binaries).size ≤ 1048576 := Tok.starts_size s p Tok.binaries _ binaries_size
  have hmks : (Tok.starts s p Tok.marks).size ≤ 1048576 := Tok.starts_size s p Tok.marks _ marks_size
  have KL := fun w => Lib.hid (letter_is (s[p]'hlt) false w hl)
  have KD := fun w => Lib.hid (digit_is (s[p]'hlt) false w hd)
  have tq : (((s[p]'hlt).toNat : Int) == 39) = false := by simpa using hq
  have th : (((s[p]'hlt).toNat : Int) == 35) = false := by simpa using hh
  have HN : Hid (Tok.next s p (s[p]'hlt) = some (⟨7, Tok.starts s p Tok.marks, 0⟩, p + (Tok.starts s p Tok.marks).size)) := by show _ = _; unfold Tok.next; rw [if_neg (by rw [hl]; exact Bool.false_ne_true), if_neg (by rw [hd]; exact Bool.false_ne_true), if_neg (not39 _ hq), if_neg (not35 _ hh), if_neg (by rw [ho]; simp), if_pos hk]
  clear hl hd hq hh
  generalize Tok.starts s p Tok.binaries = op at *
  generalize Tok.starts s p Tok.marks = mk at *
  go_enter Tryz.func14, Tryz.ntmps14
  go_wp2_with fail
  refine (marks_any _).mono ?_
  rintro e' w1 ⟨a, c, rfl, hat, hb1⟩
  have HAT := Lib.hid hat; clear hat
  have BX1 := Lib.hid (BX.out.step hb1); clear BX hb1
  go_wp2_with fail
  refine (KM _ w1 HAT.out).out.mono ?_
  rintro e' w2 ⟨rfl, hb2⟩
  have BX2 := Lib.hid (BX1.out.step hb2); clear BX1 hb2 HAT
  go_wp2_with fail
  refine (binaries_any _).mono ?_
  rintro e' w3 ⟨a', c', rfl, hat, hb3⟩
  have HAT := Lib.hid hat; clear hat
  have BX3 := Lib.hid (BX2.out.step hb3); clear BX2 hb3
  go_wp2_with fail
  refine (KB _ w3 HAT.out).out.mono ?_
  rintro e' w4 ⟨rfl, hb4⟩
  have BX4 := Lib.hid (BX3.out.step hb4); clear BX3 hb4 HAT
  go_wp2_with fail
  obtain ⟨hbw, hsz, c0, c1, c2, hf⟩ := BX4.out
  refine (KL _).out.mono ?_
  rintro e' w5 ⟨rfl, rfl⟩
  go_wp2_with fail
  refine (KD _).out.mono ?_
  rintro e' w5 ⟨rfl, rfl⟩
  go_wp2_with fail
  exact bodyPost_ret (v := .tuple #[.agg #[.int .i64 7, .string mk, .int .i64 0], .int .i64 ((p : Int) + (mk.size : Int))]) (by simp [results, Tryz.results14, go_sem, *]) rfl ⟨by rw [HN.out]; rfl, (by repeat (first | assumption | refine Below.setCell ?_ (by exact Nat.le_refl _) _))⟩
set_option maxHeartbeats 4000000 in
theorem next_none (s : ByteArray) (A : Int) (p : Nat) (w : World) (hA : A = p) (hlt : p < s.size) (hs : s.size ≤ 1048576) (hl : Tok.letter (s[p]'hlt) = false) (hd : Tok.digit (s[p]'hlt) = false) (hq : ¬ ((s[p]'hlt).toNat : Int) = 39) (hh : ¬ ((s[p]'hlt).toNat : Int) = 35) (ho : (Tok.starts s p Tok.binaries).toList.isEmpty = true) (hk : (Tok.starts s p Tok.marks).toList.isEmpty = true) :
    Calls Tryz.prog 14 #[.string s, .int .i64 A] w fun e w' => e = .returned (tv (Tok.next s p (s[p]'hlt))) ∧ Below w.heap.size w w' := by
  subst hA
  have hp : p ≤ s.size := by omega
  have KB := fun v w hat => Lib.hid (starts_any s p p v Tok.binaries w rfl hp hs (by decide) binaries_size hat)
  have KM := fun v w hat => Lib.hid (starts_any s p p v Tok.marks w rfl hp hs (by decide) marks_size hat)
  have BX := Lib.hid (box_new w)
  have hops : (Tok.starts s p Tok.binaries).size ≤ 1048576 := Tok.starts_size s p Tok.binaries _ binaries_size
  have hmks : (Tok.starts s p Tok.marks).size ≤ 1048576 := Tok.starts_size s p Tok.marks _ marks_size
  have KL := fun w => Lib.hid (letter_is (s[p]'hlt) false w hl)
  have KD := fun w => Lib.hid (digit_is (s[p]'hlt) false w hd)
  have tq : (((s[p]'hlt).toNat : Int) == 39) = false := by simpa using hq
  have th : (((s[p]'hlt).toNat : Int) == 35) = false := by simpa using hh
  have HN : Hid (Tok.next s p (s[p]'hlt) = none) := by show _ = _; unfold Tok.next; rw [if_neg (by rw [hl]; exact Bool.false_ne_true), if_neg (by rw [hd]; exact Bool.false_ne_true), if_neg (not39 _ hq), if_neg (not35 _ hh), if_neg (by rw [ho]; simp), if_neg (by rw [hk]; simp)]
  clear hl hd hq hh
  generalize Tok.starts s p Tok.binaries = op at *
  generalize Tok.starts s p Tok.marks = mk at *
  go_enter Tryz.func14, Tryz.ntmps14
  go_wp2_with fail
  refine (marks_any _).mono ?_
  rintro e' w1 ⟨a, c, rfl, hat, hb1⟩
  have HAT := Lib.hid hat; clear hat
  have BX1 := Lib.hid (BX.out.step hb1); clear BX hb1
  go_wp2_with fail
  refine (KM _ w1 HAT.out).out.mono ?_
  rintro e' w2 ⟨rfl, hb2⟩
  have BX2 := Lib.hid (BX1.out.step hb2); clear BX1 hb2 HAT
  go_wp2_with fail
  refine (binaries_any _).mono ?_
  rintro e' w3 ⟨a', c', rfl, hat, hb3⟩
  have HAT := Lib.hid hat; clear hat
  have BX3 := Lib.hid (BX2.out.step hb3); clear BX2 hb3
  go_wp2_with fail
  refine (KB _ w3 HAT.out).out.mono ?_
  rintro e' w4 ⟨rfl, hb4⟩
  have BX4 := Lib.hid (BX3.out.step hb4); clear BX3 hb4 HAT
  go_wp2_with fail
  obtain ⟨hbw, hsz, c0, c1, c2, hf⟩ := BX4.out
  refine (KL _).out.mono ?_
  rintro e' w5 ⟨rfl, rfl⟩
  go_wp2_with fail
  refine (KD _).out.mono ?_
  rintro e' w5 ⟨rfl, rfl⟩
  go_wp2_with fail
  exact bodyPost_ret (v := .tuple #[.agg #[.int .i64 0, .string ⟨#[]⟩, .int .i64 0], .int .i64 0]) (by simp [results, Tryz.results14, go_sem, *]) rfl ⟨by rw [HN.out]; rfl, (by repeat (first | assumption | refine Below.setCell ?_ (by exact Nat.le_refl _) _))⟩
theorem next_any (s : ByteArray) (A : Int) (p : Nat) (w : World) (hA : A = p) (hlt : p < s.size) (hs : s.size ≤ 1048576) :
    Calls Tryz.prog 14 #[.string s, .int .i64 A] w fun e w' => e = .returned (tv (Tok.next s p (s[p]'hlt))) ∧ Below w.heap.size w w' := by
  by_cases hl : Tok.letter (s[p]'hlt) = true
  · exact next_name s A p w hA hlt hs hl
  · rw [Bool.not_eq_true] at hl
    by_cases hd : Tok.digit (s[p]'hlt) = true
    · exact next_number s A p w hA hlt hs hl hd
    · rw [Bool.not_eq_true] at hd
      by_cases hq : ((s[p]'hlt).toNat : Int) = 39
      · exact next_quoted s A p w hA hlt hs hl hd hq
      · by_cases hh : ((s[p]'hlt).toNat : Int) = 35
        · exact next_symbol s A p w hA hlt hs hl hd hq hh
        · by_cases ho : (Tok.starts s p Tok.binaries).toList.isEmpty = true
          · by_cases hk : (Tok.starts s p Tok.marks).toList.isEmpty = true
            · exact next_none s A p w hA hlt hs hl hd hq hh ho hk
            · exact next_mark s A p w hA hlt hs hl hd hq hh ho (by simpa using hk)
          · exact next_binary s A p w hA hlt hs hl hd hq hh (by simpa using ho)
end Go.Proofs.YtamjfbjkdicmcaaGreatDoor.SpecNext
