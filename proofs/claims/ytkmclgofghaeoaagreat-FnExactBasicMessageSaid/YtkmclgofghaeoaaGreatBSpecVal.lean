/-
  spec.IsValue: when a value is right.
-/
import Derived.Test.YtkmclgofghaeoaaGreatBSpecSel
import Derived.Test.YtkmclgofghaeoaaGreatBSpecTree2
import Derived.Test.YtkmclgofghaeoaaGreatBStoAll
import Derived.Test.YtkmclgofghaeoaaGreatBTreeOk
import Derived.BigQuiet
namespace Go.Proofs.YtkmclgofghaeoaaGreat.SpecSto
open Go.RowKit
open Strs Tree Core Sto
set_option linter.unusedVariables false
set_option linter.unusedSimpArgs false
theorem empty_is (t : ByteArray) : t.toList.isEmpty = emptyB t := by
  unfold emptyB
  have h := Tok.len_list t
  rw [ByteArray.toList_eq, Bool.eq_iff_iff, List.isEmpty_iff, decide_eq_true_eq, ← h]
  exact List.length_eq_zero_iff.symm
theorem eq_yes {a b : Int} (h : a = b) : (a == b) = true ∧ (a != b) = false := by subst h; simp
theorem eq_no {a b : Int} (h : ¬ a = b) : (a == b) = false ∧ (a != b) = true := by
  have : (a == b) = false := by rw [beq_eq_false_iff_ne]; exact h
  exact ⟨this, by unfold bne; rw [this]; rfl⟩
def restB (k n : Int) : Bool :=
  if k = 0 then decide (n = 0) else if k = 1 then decide (0 ≤ n) && decide (n ≤ 1) else if k = 2 then decide (-999999999 ≤ n) && decide (n ≤ 999999999) else decide (0 ≤ n)
set_option maxHeartbeats 4000000 in
theorem val0 (n : Int) (t : ByteArray) (w : World) :
    Calls Tryz.prog 12 #[.agg #[.int .i64 0, .int .i64 n, .string t]] w fun e w' => e = .returned (.bool (decide (n = 0) && emptyB t)) ∧ Below w.heap.size w w' := by
  have HE := empty_is t
  generalize emptyB t = B at *
  by_cases hn : n = 0
  · have g := (eq_yes hn).1
    rw [decide_eq_true hn, Bool.true_and]
    clear hn
    go_enter Tryz.func12, Tryz.ntmps12
    go_wp2_with fail
    go_ret
    exact ⟨by simp [HE], (Below.refl _ _).alloc (Nat.le_refl _) _⟩
  · have g := (eq_no hn).1
    rw [decide_eq_false hn, Bool.false_and]
    clear hn
    go_enter Tryz.func12, Tryz.ntmps12
    go_wp2_with fail
    go_ret
    exact ⟨rfl, (Below.refl _ _).alloc (Nat.le_refl _) _⟩
set_option maxHeartbeats 4000000 in
theorem val12 (k n : Int) (t : ByteArray) (w : World) (h : k = 1 ∨ k = 2) :
    Calls Tryz.prog 12 #[.agg #[.int .i64 k, .int .i64 n, .string t]] w fun e w' => e = .returned (.bool (restB k n && emptyB t)) ∧ Below w.heap.size w w' := by
  have HE := empty_is t
  generalize emptyB t = B at *
  have KI := fun (a b c : Int) w' => Lib.hid (SpecTree.in_any a b c w')
  have key : ∀ a b : Int, decide (a ≤ n ∧ n ≤ b) = (decide (a ≤ n) && decide (n ≤ b)) := fun a b => by
    rw [Bool.eq_iff_iff, Bool.and_eq_true, decide_eq_true_eq, decide_eq_true_eq, decide_eq_true_eq]
  have HR : Hid (restB k n = if k = 1 then decide (0 ≤ n) && decide (n ≤ 1) else decide (-999999999 ≤ n) && decide (n ≤ 999999999)) := Lib.hid (by
    unfold restB; rcases h with rfl | rfl <;> rfl)
  generalize restB k n = R at *
  rcases h with rfl | rfl
  · have K := fun w' => Lib.hid ((KI n 0 1 w').out)
    rw [key 0 1] at K
    have HR2 := HR.out
    rw [if_pos rfl] at HR2
    rw [← HR2] at K
    clear HR HR2 KI key
    cases R
    all_goals
      go_enter Tryz.func12, Tryz.ntmps12
      go_wp2_with fail
      refine (K _).out.mono ?_
      rintro e w1 ⟨rfl, rfl⟩
      go_wp2_with fail
      go_ret
      exact ⟨by simp [HE], (Below.refl _ _).alloc (Nat.le_refl _) _⟩
  · have K := fun w' => Lib.hid ((KI n (-999999999) 999999999 w').out)
    rw [key (-999999999) 999999999] at K
    have HR2 := HR.out
    rw [if_neg (by decide)] at HR2
    rw [← HR2] at K
    clear HR HR2 KI key
    cases R
    all_goals
      go_enter Tryz.func12, Tryz.ntmps12
      go_wp2_with fail
      refine (K _).out.mono ?_
      rintro e w1 ⟨rfl, rfl⟩
      go_wp2_with fail
      go_ret
      exact ⟨by simp [HE], (Below.refl _ _).alloc (Nat.le_refl _) _⟩
set_option maxHeartbeats 4000000 in
theorem val3 (n : Int) (t : ByteArray) (w : World) (ht : t.size ≤ 1048576) :
    Calls Tryz.prog 12 #[.agg #[.int .i64 3, .int .i64 n, .string t]] w fun e w' => e = .returned (.bool (decide (n = 0) && lineB t)) ∧ Below w.heap.size w w' := by
  have hsl := Tok.len_list t
  have HV : Hid (lineB t = (decide (t.size ≤ 200) && t.data.toList.all Tok.plain)) := Lib.hid rfl
  generalize lineB t = R at *
  by_cases hn : n = 0
  case neg =>
    have g := (eq_no hn).2
    rw [decide_eq_false hn, Bool.false_and]
    clear hn HV
    go_enter Tryz.func12, Tryz.ntmps12
    go_wp2_with fail
    go_ret
    exact ⟨rfl, (Below.refl _ _).alloc (Nat.le_refl _) _⟩
  have g := (eq_yes hn).2
  rw [decide_eq_true hn, Bool.true_and]
  clear hn
  by_cases hz : t.size ≤ 200
  case neg =>
    have hR : R = false := by rw [HV.out, decide_eq_false hz]; rfl
    subst hR
    have g2 : decide ((200 : Int) < (t.size : Int)) = true := decide_eq_true (by omega)
    clear HV
    go_enter Tryz.func12, Tryz.ntmps12
    go_wp2_with fail
    go_ret
    exact ⟨rfl, (Below.refl _ _).alloc (Nat.le_refl _) _⟩
  have g2 : decide ((200 : Int) < (t.size : Int)) = false := decide_eq_false (by omega)
  rw [decide_eq_true hz, Bool.true_and] at HV
  go_enter Tryz.func12, Tryz.ntmps12
  go_wp2_with fail
  go_loop [3] (fun j => ∃ i : Nat, i ≤ t.size ∧ j = .int .i64 i ∧ Hid (∀ q (hq : q < t.data.toList.length), q < i → Tok.plain (t.data.toList[q]'hq) = true)) (fun j => t.size - (intOf j).toNat)
  case atStart => exact ⟨0, by omega, rfl, fun q hq h => by omega⟩
  case round =>
    obtain ⟨i, hi, rfl, HD⟩ := hrel
    by_cases hlt : i < t.size
    · have hlt' : i < t.data.toList.length := by rw [hsl]; exact hlt
      have hx : t.data.toList[i]'hlt' = t[i]'hlt := rfl
      have HF : Hid (Tok.plain (t[i]'hlt) = false → R = false) := by
        intro h
        rw [HV.out, ← Bool.not_eq_true, List.all_eq_true]
        intro h2
        have h3 := h2 _ (List.getElem_mem hlt')
        rw [hx, h] at h3; cases h3
      have HP : Hid (Tok.plain (t[i]'hlt) = (decide (32 ≤ (t[i]'hlt).toNat) && decide ((t[i]'hlt).toNat ≤ 126))) := rfl
      have HD2 : Hid (Tok.plain (t[i]'hlt) = true → ∀ q (hq : q < t.data.toList.length), q < i + 1 → Tok.plain (t.data.toList[q]'hq) = true) := by
        intro h0 q hq h
        by_cases h2 : q = i
        · subst h2; exact h0
        · exact HD.out q hq (by omega)
      have hlI : (i : Int) < (t.size : Int) := by omega
      obtain ⟨c, hcc⟩ : ∃ c, c = (t[i]'hlt) := ⟨_, rfl⟩
      rw [← hcc] at HF HP HD2
      by_cases h1 : c.toNat < 32
      · have hR := HF.out (by rw [HP.out, decide_eq_false (by omega : ¬ 32 ≤ c.toNat)]; rfl)
        subst hR
        have g5 : (((t[i]'hlt).toNat : Nat) : Int) < 32 := by rw [← hcc]; omega
        clear HF HP HD2 hx HV
        go_wp2_with fail
        go_ret
        exact ⟨rfl, (Below.refl _ _).alloc (Nat.le_refl _) _⟩
      · have g5 : ¬ (((t[i]'hlt).toNat : Nat) : Int) < 32 := by rw [← hcc]; omega
        by_cases h2 : 126 < c.toNat
        · have hR := HF.out (by rw [HP.out, decide_eq_false (by omega : ¬ c.toNat ≤ 126), Bool.and_false])
          subst hR
          have g6 : (126 : Int) < (((t[i]'hlt).toNat : Nat) : Int) := by rw [← hcc]; omega
          clear HF HP HD2 hx HV
          go_wp2_with fail
          go_ret
          exact ⟨rfl, (Below.refl _ _).alloc (Nat.le_refl _) _⟩
        · have g6 : ¬ (126 : Int) < (((t[i]'hlt).toNat : Nat) : Int) := by rw [← hcc]; omega
          have HE := Lib.hid (HD2.out (by rw [HP.out, decide_eq_true (by omega : 32 ≤ c.toNat), decide_eq_true (by omega : c.toNat ≤ 126)]; rfl))
          clear HF HP HD2 hx
          go_wp2_with fail
          go_round
          case rel => exact ⟨i + 1, by omega, by go_num, HE⟩
          case measure => simp [intOf]; omega
    · have hR : R = true := by
        rw [HV.out, List.all_eq_true]
        intro c hc
        obtain ⟨j, hj, rfl⟩ := List.mem_iff_getElem.1 hc
        exact HD.out j hj (by omega)
      subst hR
      clear HV
      go_wp2_with fail
      go_ret
      exact ⟨rfl, (Below.refl _ _).alloc (Nat.le_refl _) _⟩
set_option maxHeartbeats 4000000 in
theorem val4 (n : Int) (t : ByteArray) (w : World) (ht : t.size ≤ 1048576) :
    Calls Tryz.prog 12 #[.agg #[.int .i64 4, .int .i64 n, .string t]] w fun e w' => e = .returned (.bool (decide (n = 0) && Tok.sel t)) ∧ Below w.heap.size w w' := by
  have KS := fun w' => Lib.hid (SpecSel.sel_any t w' ht)
  generalize Tok.sel t = B at *
  by_cases hn : n = 0
  · have g := (eq_yes hn).1
    rw [decide_eq_true hn, Bool.true_and]
    clear hn
    go_enter Tryz.func12, Tryz.ntmps12
    go_wp2_with fail
    refine (KS _).out.mono ?_
    rintro e w1 ⟨rfl, hb1⟩
    have H1 := Lib.hid (((Below.refl _ w).alloc (Nat.le_refl _) _).trans (hb1.mono (by simp))); clear hb1
    go_wp2_with fail
    go_ret
    exact ⟨rfl, H1.out⟩
  · have g := (eq_no hn).1
    rw [decide_eq_false hn, Bool.false_and]
    clear hn
    go_enter Tryz.func12, Tryz.ntmps12
    go_wp2_with fail
    go_ret
    exact ⟨rfl, (Below.refl _ _).alloc (Nat.le_refl _) _⟩
set_option maxHeartbeats 4000000 in
theorem val5 (k n : Int) (t : ByteArray) (w : World) (h : k = 5 ∨ k = 6 ∨ k = 7) :
    Calls Tryz.prog 12 #[.agg #[.int .i64 k, .int .i64 n, .string t]] w fun e w' => e = .returned (.bool (decide (0 ≤ n) && emptyB t)) ∧ Below w.heap.size w w' := by
  have HE := empty_is t
  generalize emptyB t = B at *
  generalize hD : decide (0 ≤ n) = D
  cases D
  all_goals
    rcases h with rfl | rfl | rfl
    all_goals
      go_enter Tryz.func12, Tryz.ntmps12
      go_wp2_with fail
      go_ret
      exact ⟨by simp [HE], (Below.refl _ _).alloc (Nat.le_refl _) _⟩
set_option maxHeartbeats 4000000 in
theorem val8 (k n : Int) (t : ByteArray) (w : World) (h0 : (k == 0) = false) (h1 : (k == 1) = false) (h2 : (k == 2) = false) (h3 : (k == 3) = false) (h4 : (k == 4) = false) (h5 : (k == 5) = false) (h6 : (k == 6) = false) (h7 : (k == 7) = false) :
    Calls Tryz.prog 12 #[.agg #[.int .i64 k, .int .i64 n, .string t]] w fun e w' => e = .returned (.bool false) ∧ Below w.heap.size w w' := by
  go_enter Tryz.func12, Tryz.ntmps12
  go_wp2_with fail
  go_ret
  exact ⟨rfl, (Below.refl _ _).alloc (Nat.le_refl _) _⟩
theorem val_any (v : V) (w : World) (ht : v.text.size ≤ 1048576) :
    Calls Tryz.prog 12 #[.agg #[.int .i64 v.kind, .int .i64 v.num, .string v.text]] w fun e w' => e = .returned (.bool (valB v)) ∧ Below w.heap.size w w' := by
  obtain ⟨k, n, t⟩ := v
  simp only at ht ⊢
  unfold valB
  simp only
  by_cases h0 : k = 0
  · subst h0; exact val0 n t w
  by_cases h1 : k = 1
  · subst h1; exact val12 1 n t w (.inl rfl)
  by_cases h2 : k = 2
  · subst h2; exact val12 2 n t w (.inr rfl)
  by_cases h3 : k = 3
  · subst h3; exact val3 n t w ht
  by_cases h4 : k = 4
  · subst h4; exact val4 n t w ht
  rw [if_neg h0, if_neg h1, if_neg h2, if_neg h3, if_neg h4]
  by_cases h5 : 5 ≤ k ∧ k ≤ 7
  · rw [if_pos h5]; exact val5 k n t w (by omega)
  · rw [if_neg h5]
    exact val8 k n t w (eq_no h0).1 (eq_no h1).1 (eq_no h2).1 (eq_no h3).1 (eq_no h4).1 (eq_no (by omega)).1 (eq_no (by omega)).1 (eq_no (by omega)).1
end Go.Proofs.YtkmclgofghaeoaaGreat.SpecSto
