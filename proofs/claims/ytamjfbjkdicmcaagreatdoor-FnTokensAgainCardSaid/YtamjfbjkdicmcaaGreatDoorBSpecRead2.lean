/-
  spec.l2Name and l2Number: the token that they read at a place. They write nothing that was there.
-/
import Derived.Test.YtamjfbjkdicmcaaGreatDoorBSpecColon
import Derived.Test.YtamjfbjkdicmcaaGreatDoorBSpecName
import Derived.Deep.RegionHeld3
namespace Go.Proofs.YtamjfbjkdicmcaaGreatDoor.SpecRead2
open Go.RowKit
open Strs SpecTok SpecName
def tv (r : Option (Tok.T × Nat)) : Value := match r with
  | some (t, e) => .tuple #[.agg #[.int .i64 t.kind, .string t.text, .int .i64 t.num], .int .i64 (e : Nat)]
  | none => .tuple #[.agg #[.int .i64 0, .string ByteArray.empty, .int .i64 0], .int .i64 0]
set_option maxHeartbeats 2000000 in
theorem name_any (s : ByteArray) (A : Int) (p : Nat) (w : World) (hA : A = p) (hp : p ≤ s.size) (hs : s.size ≤ 1048576) :
    Calls Tryz.prog 36 #[.string s, .int .i64 A] w fun e w' => e = .returned (tv (Tok.nameAt s p)) ∧ Below w.heap.size w w' := by
  subst hA
  have hle := Tok.run_le s.data.toList p (by rw [len_list]; exact hp)
  rw [len_list] at hle
  have KR := fun w => Lib.hid (run_any s p p w rfl hp (by unfold maxLen; omega))
  have KC := fun w e he => Lib.hid (colon_any s (e : Nat) e w rfl he hs)
  have HV : Hid (Tok.nameAt s p = (let e := Tok.run s.data.toList p; let x := s.extract p e; if 20 < e - p then none else if Tok.colon s.data.toList e = true then some (⟨2, x ++ ⟨#[58]⟩, 0⟩, e + 1) else some (⟨if Tok.has Tok.words x = true then 8 else 1, x, 0⟩, e))) := rfl
  generalize Tok.run s.data.toList p = e at *
  obtain ⟨hpe, hel⟩ := hle
  by_cases hc : Tok.colon s.data.toList e = true
  · have KC1 : ∀ w, Hid (Calls Tryz.prog 65 #[.string s, .int .i64 (e : Nat)] w fun e' w' => e' = .returned (.bool true) ∧ w = w') := fun w => by have := KC w e hel; rw [hc] at this; exact this
    have hlt : e + 1 ≤ s.size := by have := Tok.colon_lt _ _ hc; rw [len_list] at this; omega
    have HV2 : Hid (Tok.nameAt s p = if 20 < e - p then none else some (⟨2, s.extract p e ++ ⟨#[58]⟩, 0⟩, e + 1)) := by show _ = _; rw [HV.out]; simp only [hc, if_true]
    clear hc HV KC
    by_cases h20 : 20 < e - p
    · have HR : Hid (Tok.nameAt s p = none) := by show _ = _; rw [HV2.out, if_pos h20]
      go_enter Tryz.func36, Tryz.ntmps36
      go_wp2_with fail
      refine (KR _).out.mono ?_
      rintro e' w1 ⟨rfl, rfl⟩
      go_wp2_with fail
      refine (KC1 _).out.mono ?_
      rintro e' w1 ⟨rfl, rfl⟩
      go_wp2_with fail
      exact bodyPost_ret (v := .tuple #[.agg #[.int .i64 0, .string ⟨#[]⟩, .int .i64 0], .int .i64 0]) (by simp [results, Tryz.results36, go_sem]) rfl ⟨by rw [HR.out]; rfl, ((Below.refl _ _).alloc (Nat.le_refl _) _).alloc (by simp) _⟩
    · have HR : Hid (Tok.nameAt s p = some (⟨2, s.extract p e ++ ⟨#[58]⟩, 0⟩, e + 1)) := by show _ = _; rw [HV2.out, if_neg h20]
      go_enter Tryz.func36, Tryz.ntmps36
      go_wp2_with fail
      refine (KR _).out.mono ?_
      rintro e' w1 ⟨rfl, rfl⟩
      go_wp2_with fail
      refine (KC1 _).out.mono ?_
      rintro e' w1 ⟨rfl, rfl⟩
      have h21 : ((e + 1 - p : Nat) : Int) ≤ 21 := by omega
      go_wp2_with fail
      exact bodyPost_ret (v := .tuple #[.agg #[.int .i64 2, .string (s.extract p e ++ ⟨#[58]⟩), .int .i64 0], .int .i64 ((e : Int) + 1)]) (by simp [results, Tryz.results36, go_sem]) rfl ⟨by rw [HR.out]; rfl, ((Below.refl _ _).alloc (Nat.le_refl _) _).alloc (by simp) _⟩
  · rw [Bool.not_eq_true] at hc
    have KC1 : ∀ w, Hid (Calls Tryz.prog 65 #[.string s, .int .i64 (e : Nat)] w fun e' w' => e' = .returned (.bool false) ∧ w = w') := fun w => by have := KC w e hel; rw [hc] at this; exact this
    have HV2 : Hid (Tok.nameAt s p = if 20 < e - p then none else some (⟨if Tok.has Tok.words (s.extract p e) = true then 8 else 1, s.extract p e, 0⟩, e)) := by show _ = _; rw [HV.out]; simp only [hc]; rfl
    clear hc HV KC
    go_enter Tryz.func36, Tryz.ntmps36
    go_wp2_with fail
    refine (KR _).out.mono ?_
    rintro e' w1 ⟨rfl, rfl⟩
    go_wp2_with fail
    refine (KC1 _).out.mono ?_
    rintro e' w1 ⟨rfl, rfl⟩
    go_wp2_with fail
    have g0 : w.heap.size ≠ w.heap.size + 1 := by omega
    obtain ⟨W, hW, hWb, c0, c1, c2, d0, d1, d2, hf0, hf1, hWs⟩ : ∃ W, W = ((w.alloc (.cells #[.int .i64 0, .string ⟨#[]⟩, .int .i64 0] 31)).alloc (.cells #[.int .i64 1, .string (s.extract p e), .int .i64 0] 31)) ∧ Below w.heap.size w W ∧
        W.cell? ⟨w.heap.size + 1, 0, none⟩ = some (.int .i64 1) ∧ W.cell? ⟨w.heap.size + 1, 1, none⟩ = some (.string (s.extract p e)) ∧ W.cell? ⟨w.heap.size + 1, 2, none⟩ = some (.int .i64 0) ∧
        W.cell? ⟨w.heap.size, 0, none⟩ = some (.int .i64 0) ∧ W.cell? ⟨w.heap.size, 1, none⟩ = some (.string ⟨#[]⟩) ∧ W.cell? ⟨w.heap.size, 2, none⟩ = some (.int .i64 0) ∧
        (∀ o, W.frozen? ⟨w.heap.size, o, none⟩ = false) ∧ (∀ o, W.frozen? ⟨w.heap.size + 1, o, none⟩ = false) ∧ W.heap.size = w.heap.size + 2 := by
      refine ⟨_, rfl, ((Below.refl _ _).alloc (Nat.le_refl _) _).alloc (by simp) _, ?_, ?_, ?_, ?_, ?_, ?_, ?_, ?_, by simp⟩
      all_goals first | (intro o; go_simp) | go_simp
    rw [← hW]; clear hW
    by_cases hw : Tok.has Tok.words (s.extract p e) = true
    · have KW := fun v w h => Lib.hid (has_is v Tok.words (s.extract p e) true w h hw)
      have HV3 : Hid (Tok.nameAt s p = if 20 < e - p then none else some (⟨8, s.extract p e, 0⟩, e)) := by show _ = _; rw [HV2.out, hw]; rfl
      clear hw HV2
      go_region_held3 (fun w' => w'.cell? ⟨w.heap.size + 1, 1, none⟩ = some (.string (s.extract p e)) ∧ Below W.heap.size W w')
        (first | exact ⟨c1, (Below.refl _ _).drew⟩ | exact ⟨cell_keep hb3 (show W.drew.cell? _ = _ from c1), (Below.refl _ _).drew.trans (hb3.mono (Nat.le_refl _))⟩ | go_keep)
        (first | (go_at_call 67; refine (words_any _).mono ?_; rintro e' w3 ⟨la, lc, rfl, hat, hb3⟩) | (go_at_call 66; refine (KW _ _ hat).out.mono ?_; rintro e' w4 ⟨rfl, rfl⟩))
      have B3 : Below W.heap.size W w3 := (Below.refl W.heap.size W).drew.trans (hb3.mono (Nat.le_refl _))
      clear hat hb3 KW
      have e0 := cell_keep B3 c0
      have e1 := cell_keep B3 c1
      have e2 := cell_keep B3 c2
      have i0 := cell_keep B3 d0
      have i1 := cell_keep B3 d1
      have i2 := cell_keep B3 d2
      have q0 : ∀ o, w3.frozen? ⟨w.heap.size, o, none⟩ = false := fun o => (B3.frozen (p := ⟨w.heap.size, o, none⟩) (by simp; omega)).trans (hf0 o)
      have q1 : ∀ o, w3.frozen? ⟨w.heap.size + 1, o, none⟩ = false := fun o => (B3.frozen (p := ⟨w.heap.size + 1, o, none⟩) (by simp; omega)).trans (hf1 o)
      have HB3 : Hid (Below w.heap.size w w3) := hWb.trans (B3.mono (by omega))
      clear c0 c1 c2 d0 d1 d2 hf0 hf1 hWb B3 hWs
      by_cases h20 : 20 < e - p
      · have HR : Hid (Tok.nameAt s p = none) := by show _ = _; rw [HV3.out, if_pos h20]
        clear HV3
        go_wp2_with fail
        all_goals exact bodyPost_ret (v := .tuple #[.agg #[.int .i64 0, .string ⟨#[]⟩, .int .i64 0], .int .i64 0]) (by simp [results, Tryz.results36, go_sem, *]) rfl ⟨by rw [HR.out]; rfl, (by repeat (first | exact HB3.out | refine Below.setCell ?_ (by first | exact Nat.le_refl _ | exact Nat.le_succ _) _))⟩
      · have HR : Hid (Tok.nameAt s p = some (⟨8, s.extract p e, 0⟩, e)) := by show _ = _; rw [HV3.out, if_neg h20]
        clear HV3
        go_wp2_with fail
        all_goals exact bodyPost_ret (v := .tuple #[.agg #[.int .i64 8, .string (s.extract p e), .int .i64 0], .int .i64 (e : Nat)]) (by simp [results, Tryz.results36, go_sem, *]) rfl ⟨by rw [HR.out]; rfl, (by repeat (first | exact HB3.out | refine Below.setCell ?_ (by first | exact Nat.le_refl _ | exact Nat.le_succ _) _))⟩
    · rw [Bool.not_eq_true] at hw
      have KW := fun v w h => Lib.hid (has_is v Tok.words (s.extract p e) false w h hw)
      have HV3 : Hid (Tok.nameAt s p = if 20 < e - p then none else some (⟨1, s.extract p e, 0⟩, e)) := by show _ = _; rw [HV2.out, hw]; rfl
      clear hw HV2
      go_region_held3 (fun w' => w'.cell? ⟨w.heap.size + 1, 1, none⟩ = some (.string (s.extract p e)) ∧ Below W.heap.size W w')
        (first | exact ⟨c1, (Below.refl _ _).drew⟩ | exact ⟨cell_keep hb3 (show W.drew.cell? _ = _ from c1), (Below.refl _ _).drew.trans (hb3.mono (Nat.le_refl _))⟩ | go_keep)
        (first | (go_at_call 67; refine (words_any _).mono ?_; rintro e' w3 ⟨la, lc, rfl, hat, hb3⟩) | (go_at_call 66; refine (KW _ _ hat).out.mono ?_; rintro e' w4 ⟨rfl, rfl⟩))
      have B3 : Below W.heap.size W w3 := (Below.refl W.heap.size W).drew.trans (hb3.mono (Nat.le_refl _))
      clear hat hb3 KW
      have e0 := cell_keep B3 c0
      have e1 := cell_keep B3 c1
      have e2 := cell_keep B3 c2
      have i0 := cell_keep B3 d0
      have i1 := cell_keep B3 d1
      have i2 := cell_keep B3 d2
      have q0 : ∀ o, w3.frozen? ⟨w.heap.size, o, none⟩ = false := fun o => (B3.frozen (p := ⟨w.heap.size, o, none⟩) (by simp; omega)).trans (hf0 o)
      have q1 : ∀ o, w3.frozen? ⟨w.heap.size + 1, o, none⟩ = false := fun o => (B3.frozen (p := ⟨w.heap.size + 1, o, none⟩) (by simp; omega)).trans (hf1 o)
      have HB3 : Hid (Below w.heap.size w w3) := hWb.trans (B3.mono (by omega))
      clear c0 c1 c2 d0 d1 d2 hf0 hf1 hWb B3 hWs
      by_cases h20 : 20 < e - p
      · have HR : Hid (Tok.nameAt s p = none) := by show _ = _; rw [HV3.out, if_pos h20]
        clear HV3
        go_wp2_with fail
        all_goals exact bodyPost_ret (v := .tuple #[.agg #[.int .i64 0, .string ⟨#[]⟩, .int .i64 0], .int .i64 0]) (by simp [results, Tryz.results36, go_sem, *]) rfl ⟨by rw [HR.out]; rfl, (by repeat (first | exact HB3.out | refine Below.setCell ?_ (by first | exact Nat.le_refl _ | exact Nat.le_succ _) _))⟩
      · have HR : Hid (Tok.nameAt s p = some (⟨1, s.extract p e, 0⟩, e)) := by show _ = _; rw [HV3.out, if_neg h20]
        clear HV3
        go_wp2_with fail
        all_goals exact bodyPost_ret (v := .tuple #[.agg #[.int .i64 1, .string (s.extract p e), .int .i64 0], .int .i64 (e : Nat)]) (by simp [results, Tryz.results36, go_sem, *]) rfl ⟨by rw [HR.out]; rfl, (by repeat (first | exact HB3.out | refine Below.setCell ?_ (by first | exact Nat.le_refl _ | exact Nat.le_succ _) _))⟩
theorem digit_val (c : UInt8) (h : Tok.digit c = true) : 48 ≤ c.toNat ∧ c.toNat ≤ 57 := by
  unfold Tok.digit at h; simpa using h
theorem letterAt_is (s : ByteArray) (i : Nat) (h : i < s.size) : Tok.letterAt s.data.toList i = Tok.letter (s[i]'h) := by
  have h' : i < s.data.toList.length := by rw [len_list]; exact h
  unfold Tok.letterAt
  rw [_root_.List.getElem?_eq_getElem h']; rfl
theorem letterAt_end (s : ByteArray) (i : Nat) (h : ¬ i < s.size) : Tok.letterAt s.data.toList i = false := by
  unfold Tok.letterAt
  rw [_root_.List.getElem?_eq_none (by rw [len_list]; omega)]
set_option maxHeartbeats 2000000 in
theorem number_any (s : ByteArray) (A : Int) (p : Nat) (w : World) (hA : A = p) (hp : p ≤ s.size) (hs : s.size ≤ 1048576) :
    Calls Tryz.prog 38 #[.string s, .int .i64 A] w fun e w' => e = .returned (tv (Tok.number s.data.toList p)) ∧ Below w.heap.size w w' := by
  subst hA
  go_enter Tryz.func38, Tryz.ntmps38
  go_wp2_with fail
  go_loop [6, 7] (fun j q => ∃ i v : Nat, p ≤ i ∧ i ≤ s.size ∧ i ≤ p + 9 ∧ j = .int .i64 i ∧ q = .int .i64 v ∧ v < 10 ^ (i - p) ∧ v < 1000000000 ∧ v = Tok.dval ((s.data.toList.drop p).take (i - p)) ∧ Tok.drun s.data.toList p = Tok.drun s.data.toList i) (fun j _ => s.size - (intOf j).toNat)
  case atStart => exact ⟨p, 0, by omega, hp, by omega, rfl, rfl, by simp, by omega, by simp [Tok.dval], rfl⟩
  case round =>
    obtain ⟨i, v, hpi, hi, hi9, rfl, rfl, hv, hv9, hval, hrun⟩ := hrel
    have HVAL := Lib.hid hval; clear hval
    have HRUN := Lib.hid hrun; clear hrun
    have HV := Lib.hid hv; clear hv
    by_cases hlt : i < s.size
    · have hlt' : i < s.data.toList.length := by rw [len_list]; exact hlt
      have hx : s.data.toList[i]'hlt' = s[i]'hlt := rfl
      by_cases hd : Tok.digit (s[i]'hlt) = true
      · have K := fun w => Lib.hid (digit_is (s[i]'hlt) true w hd)
        have hdv := digit_val _ hd
        have hd0 : (48 : Int) ≤ ((s[i]'hlt).toNat : Int) := by omega
        have hd1 : ((s[i]'hlt).toNat : Int) ≤ 57 := by omega
        have HR2 : Hid (Tok.drun s.data.toList p = Tok.drun s.data.toList (i + 1)) := HRUN.out.trans (Tok.drun_go _ i hlt' (by rw [hx]; exact hd))
        have HV2 : Hid (10 * v + ((s[i]'hlt).toNat - 48) = Tok.dval ((s.data.toList.drop p).take (i + 1 - p))) := by
          show _ = _
          rw [Tok.take_more _ p i hpi hlt', Tok.dval_snoc, ← HVAL.out, hx]
        have HP2 : Hid (10 * v + ((s[i]'hlt).toNat - 48) < 10 ^ (i + 1 - p)) := by
          show _ < _
          rw [show i + 1 - p = (i - p) + 1 by omega, Nat.pow_succ]
          have := HV.out; omega
        clear hx hd hdv
        by_cases h9 : (i : Int) + 1 - (p : Int) ≤ 9
        · have h10 : 10 ^ (i + 1 - p) ≤ 10 ^ 9 := Nat.pow_le_pow_right (by omega) (by omega)
          have HB9 : Hid (10 * v + ((s[i]'hlt).toNat - 48) < 1000000000) := by have := HP2.out; show _ < _; omega
          clear h10
          go_wp2_with fail
          refine (K _).out.mono ?_
          rintro e w1 ⟨rfl, rfl⟩
          go_wp2_with fail
          go_round
          case rel => exact ⟨i + 1, 10 * v + ((s[i]'hlt).toNat - 48), by omega, by omega, by omega, by go_num, by go_num, HP2.out, HB9.out, HV2.out, HR2.out⟩
          case measure => simp [intOf]; omega
        · have HN : Hid (Tok.number s.data.toList p = none) := Tok.number_long _ p (by have h1 := HR2.out; have h2 := Tok.drun_ge s.data.toList (i + 1); omega)
          go_wp2_with fail
          refine (K _).out.mono ?_
          rintro e w1 ⟨rfl, rfl⟩
          go_wp2_with fail
          exact bodyPost_ret (v := .tuple #[.agg #[.int .i64 0, .string ⟨#[]⟩, .int .i64 0], .int .i64 0]) (by simp [results, Tryz.results38, go_sem, *]) rfl ⟨by rw [HN.out]; rfl, (Below.refl _ _).alloc (Nat.le_refl _) _⟩
      · rw [Bool.not_eq_true] at hd
        have K := fun w => Lib.hid (digit_is (s[i]'hlt) false w hd)
        have HE : Hid (Tok.drun s.data.toList p = i) := HRUN.out.trans (Tok.drun_stop _ i (fun h => by rw [hx]; exact hd))
        have HLA := Lib.hid (letterAt_is s i hlt)
        clear hx hd
        by_cases hL : Tok.letter (s[i]'hlt) = true
        · have KL := fun w => Lib.hid (letter_is (s[i]'hlt) true w hL)
          have HN : Hid (Tok.number s.data.toList p = none) := Tok.number_letter _ p i HE.out (by rw [HLA.out]; exact hL)
          clear hL
          go_wp2_with fail
          refine (K _).out.mono ?_
          rintro e w1 ⟨rfl, rfl⟩
          go_wp2_with fail
          refine (KL _).out.mono ?_
          rintro e w1 ⟨rfl, rfl⟩
          go_wp2_with fail
          exact bodyPost_ret (v := .tuple #[.agg #[.int .i64 0, .string ⟨#[]⟩, .int .i64 0], .int .i64 0]) (by simp [results, Tryz.results38, go_sem, *]) rfl ⟨by rw [HN.out]; rfl, (Below.refl _ _).alloc (Nat.le_refl _) _⟩
        · rw [Bool.not_eq_true] at hL
          have KL := fun w => Lib.hid (letter_is (s[i]'hlt) false w hL)
          have HN : Hid (Tok.number s.data.toList p = some (⟨3, ByteArray.empty, v⟩, i)) := by
            show _ = _; rw [Tok.number_is _ p i HE.out (by omega) (by rw [HLA.out]; exact hL), HVAL.out]
          clear hL
          go_wp2_with fail
          refine (K _).out.mono ?_
          rintro e w1 ⟨rfl, rfl⟩
          go_wp2_with fail
          refine (KL _).out.mono ?_
          rintro e w1 ⟨rfl, rfl⟩
          go_wp2_with fail
          exact bodyPost_ret (v := .tuple #[.agg #[.int .i64 3, .string ⟨#[]⟩, .int .i64 (v : Nat)], .int .i64 (i : Nat)]) (by simp [results, Tryz.results38, go_sem, *]) rfl ⟨by rw [HN.out]; rfl, (Below.refl _ _).alloc (Nat.le_refl _) _⟩
    · have HE : Hid (Tok.drun s.data.toList p = i) := HRUN.out.trans (Tok.drun_stop _ i (fun h => by rw [len_list] at h; omega))
      have HN : Hid (Tok.number s.data.toList p = some (⟨3, ByteArray.empty, v⟩, i)) := by
        show _ = _; rw [Tok.number_is _ p i HE.out (by omega) (letterAt_end s i hlt), HVAL.out]
      go_wp2_with fail
      exact bodyPost_ret (v := .tuple #[.agg #[.int .i64 3, .string ⟨#[]⟩, .int .i64 (v : Nat)], .int .i64 (i : Nat)]) (by simp [results, Tryz.results38, go_sem, *]) rfl ⟨by rw [HN.out]; rfl, (Below.refl _ _).alloc (Nat.le_refl _) _⟩
end Go.Proofs.YtamjfbjkdicmcaaGreatDoor.SpecRead2
