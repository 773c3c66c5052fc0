/-
  spec.IsSelector and CountArgs: what they answer. They write nothing that was there.
-/
import Derived.Test.YtamjfbjkdicmcaaGreatDoorBSpecName
namespace Go.Proofs.YtamjfbjkdicmcaaGreatDoor.SpecSel
open Go.RowKit
open Strs SpecTok SpecName
theorem row_some {w : World} {base : Nat} {v : Value} {xs : _root_.List ByteArray} (h : w.ownsRow base 9 1 v xs.length (xs.map Value.string)) (hp : 1 ≤ xs.length) :
    ∃ g cap, v = .slice (some ⟨g, 0, none⟩) xs.length cap := by
  obtain ⟨_, ⟨_, hn⟩ | ⟨g, cap, cur, rfl, _⟩⟩ := h
  · omega
  · exact ⟨g, cap, rfl⟩
theorem row_cells {w : World} {base g cap : Nat} {xs : _root_.List ByteArray} (h : w.ownsRow base 9 1 (.slice (some ⟨g, 0, none⟩) xs.length cap) xs.length (xs.map Value.string)) : (∀ j, j < xs.length → w.cell? ⟨g, j, none⟩ = some (.string (xs.getD j ByteArray.empty))) ∧ xs.length ≤ cap := by
  constructor
  · intro j hj
    rw [h.cellAt j (by omega)]
    simp [_root_.List.getD, hj]
  · obtain ⟨_, ⟨h', _⟩ | ⟨g', cap', cur, h', _, _, hn, _⟩⟩ := h
    · simp at h'
    · simp at h'; omega
theorem part_size (s : ByteArray) (b : Int) : ∀ p ∈ Cuts.parts s b, p.size ≤ s.size := by
  have h : ∀ i, ∀ p ∈ (Cuts.cuts s b i).1, p.size ≤ s.size := by
    intro i
    induction i with
    | zero => intro p hp; simp [Cuts.cuts] at hp
    | succ i ih =>
      intro p hp
      rw [Cuts.cuts] at hp
      split at hp
      · split at hp
        · simp only [_root_.List.mem_append, _root_.List.mem_singleton] at hp
          rcases hp with hp | rfl
          · exact ih p hp
          · rw [ByteArray.size_extract]; omega
        · exact ih p hp
      · exact ih p hp
  intro p hp
  unfold Cuts.parts at hp
  simp only [_root_.List.mem_append, _root_.List.mem_singleton] at hp
  rcases hp with hp | rfl
  · exact h _ p hp
  · rw [ByteArray.size_extract]; omega
set_option maxHeartbeats 2000000 in
theorem sel_keys (s : ByteArray) (w : World) (hs : s.size ≤ 1048576) (hb : Tok.has Tok.binaries s = false) (hn : 1 < (Cuts.parts s 58).length) :
    Calls Tryz.prog 68 #[.string s] w fun e w' => e = .returned (.bool (Tok.keys (Cuts.parts s 58))) ∧ Below w.heap.size w w' := by
  have KB := fun v w h => Lib.hid (has_is v Tok.binaries s false w h hb)
  have KS := fun w => Lib.hid (SpecSplit.split_any s 58 w hs)
  have HPS := Lib.hid (part_size s 58)
  have hpl := (Cuts.parts_len s 58).2
  clear hb
  generalize hps : Cuts.parts s 58 = ps at *
  have HP := Lib.hid hps; clear hps
  generalize hl : ps.length = n at *
  have HL := Lib.hid hl; clear hl
  go_enter Tryz.func68, Tryz.ntmps68
  go_wp2_with fail
  refine (binaries_any w).mono ?_
  rintro e w1 ⟨a, c, rfl, hat, hb1⟩
  have HAT := Lib.hid hat; clear hat
  go_wp2_with fail
  refine (KB _ w1 HAT.out).out.mono ?_
  rintro e w1' ⟨rfl, rfl⟩
  go_wp2_with fail
  refine (KS w1).out.mono ?_
  rintro e w2 ⟨v, rfl, ho, hb2⟩
  obtain ⟨g, cap, rfl⟩ := row_some ho (by have := HL.out; omega)
  obtain ⟨hcl, hcap⟩ := row_cells ho
  have HCL := Lib.hid hcl; clear hcl ho
  have B2 : Hid (Below w.heap.size w w2) := hb1.trans (hb2.mono hb1.size)
  clear hb1 hb2 HAT
  rw [HL.out] at hcap ⊢
  have hn1 : (1 : Int) < (n : Int) := by omega
  have hlast : w2.cell? ⟨g, n - 1, none⟩ = some (.string (ps.getD (n - 1) ByteArray.empty)) := HCL.out (n - 1) (by rw [HL.out]; omega)
  by_cases he : (ps.getD (n - 1) ByteArray.empty).toList.isEmpty = true
  · have HE : Hid ((ps.getLast?.getD ByteArray.empty).toList.isEmpty = true) := by show _ = _; rw [Tok.getLast_at ps n HL.out (by omega)]; exact he
    generalize ps.getD (n - 1) ByteArray.empty = y at *
    go_wp2_with fail
    go_loop [5] (fun j => ∃ i : Nat, i ≤ n - 1 ∧ j = .int .i64 i ∧ ∀ k (hk : k < ps.length), k < i → Tok.name20 (ps[k]).data.toList = true) (fun j => n - (intOf j).toNat)
    case atStart => exact ⟨0, by omega, rfl, fun k _ h => by omega⟩
    case round =>
      obtain ⟨i, hi, rfl, hall⟩ := hrel
      have HA := Lib.hid hall; clear hall
      by_cases hlt : i < n - 1
      · have hil : i < ps.length := by rw [HL.out]; omega
        have hcell : w2.cell? ⟨g, i, none⟩ = some (.string ps[i]) := by
          have := HCL.out i hil
          rw [this]; simp [_root_.List.getD, hil]
        have hpsz : ps[i].size ≤ 1048576 := by have := HPS.out _ (_root_.List.getElem_mem hil); omega
        have hlt' : (i : Int) < ((n - 1 : Nat) : Int) := by omega
        by_cases hk : Tok.name20 (ps[i]).data.toList = true
        · have K := fun w => Lib.hid (name20_is ps[i] true w hpsz hk)
          have HA2 : Hid (∀ k (hk : k < ps.length), k < i + 1 → Tok.name20 (ps[k]).data.toList = true) := by
            intro k hk' h1
            by_cases h2 : k = i
            · subst h2; exact hk
            · exact HA.out k hk' (by omega)
          clear hk
          generalize ps[i] = p at *
          have hn2 : ((n : Int) == 1) = false := by rw [beq_eq_false_iff_ne]; omega
          go_wp2_with fail
          refine (K w2).out.mono ?_
          rintro e w3 ⟨rfl, rfl⟩
          go_wp2_with fail
          go_round
          case rel => exact ⟨i + 1, by omega, by go_num, HA2.out⟩
          case measure => simp [intOf]; omega
        · rw [Bool.not_eq_true] at hk
          have K := fun w => Lib.hid (name20_is ps[i] false w hpsz hk)
          have HF : Hid (Tok.keys ps = false) := Tok.keys_no ps i (by rw [HL.out]; exact hlt) hk
          clear hk
          generalize ps[i] = p at *
          go_wp2_with fail
          refine (K w2).out.mono ?_
          rintro e w3 ⟨rfl, rfl⟩
          go_wp2_with fail
          go_ret
          exact ⟨by rw [HF.out]; rfl, B2.out⟩
      · have hlt' : ¬ (i : Int) < ((n - 1 : Nat) : Int) := by omega
        have HF : Hid (Tok.keys ps = decide (ps.length ≤ 5)) := Tok.keys_yes ps HE.out fun k hk => HA.out k (by omega) (by have := HL.out; omega)
        by_cases h5 : ((n - 1 : Nat) : Int) ≤ 4
        · have HD : Hid (decide (ps.length ≤ 5) = true) := by show _ = _; rw [HL.out, decide_eq_true_eq]; omega
          go_wp2_with fail
          go_ret
          exact ⟨by rw [HF.out, HD.out]; rfl, B2.out⟩
        · have HD : Hid (decide (ps.length ≤ 5) = false) := by show _ = _; rw [HL.out, decide_eq_false_iff_not]; omega
          go_wp2_with fail
          go_ret
          exact ⟨by rw [HF.out, HD.out]; rfl, B2.out⟩
  · rw [Bool.not_eq_true] at he
    have HE : Hid (Tok.keys ps = false) := by
      show _ = _; unfold Tok.keys; rw [Tok.getLast_at ps n HL.out (by omega), he]; rfl
    generalize ps.getD (n - 1) ByteArray.empty = y at *
    go_wp2_with fail
    go_ret
    exact ⟨by rw [HE.out]; rfl, B2.out⟩
set_option maxHeartbeats 2000000 in
theorem sel_binary (s : ByteArray) (w : World) (hb : Tok.has Tok.binaries s = true) :
    Calls Tryz.prog 68 #[.string s] w fun e w' => e = .returned (.bool true) ∧ Below w.heap.size w w' := by
  have KB := fun v w h => Lib.hid (has_is v Tok.binaries s true w h hb)
  clear hb
  go_enter Tryz.func68, Tryz.ntmps68
  go_wp2_with fail
  refine (binaries_any w).mono ?_
  rintro e w1 ⟨a, c, rfl, hat, hb1⟩
  have HAT := Lib.hid hat; clear hat
  go_wp2_with fail
  refine (KB _ w1 HAT.out).out.mono ?_
  rintro e w1' ⟨rfl, rfl⟩
  go_wp2_with fail
  go_ret
  exact ⟨rfl, hb1⟩
set_option maxHeartbeats 2000000 in
theorem sel_one (s : ByteArray) (w : World) (hs : s.size ≤ 1048576) (hb : Tok.has Tok.binaries s = false) (hn : (Cuts.parts s 58).length = 1) :
    Calls Tryz.prog 68 #[.string s] w fun e w' => e = .returned (.bool (Tok.isName s)) ∧ Below w.heap.size w w' := by
  have KB := fun v w h => Lib.hid (has_is v Tok.binaries s false w h hb)
  have hs1 := SpecSplit.split_any s 58
  rw [Tok.parts_one s 58 hn] at hs1
  have KS := fun w => Lib.hid (hs1 w hs)
  clear hb hs1 hn
  go_enter Tryz.func68, Tryz.ntmps68
  go_wp2_with fail
  refine (binaries_any w).mono ?_
  rintro e w1 ⟨a, c, rfl, hat, hb1⟩
  have HAT := Lib.hid hat; clear hat
  go_wp2_with fail
  refine (KB _ w1 HAT.out).out.mono ?_
  rintro e w1' ⟨rfl, rfl⟩
  go_wp2_with fail
  refine (KS w1).out.mono ?_
  rintro e w2 ⟨v, rfl, ho, hb2⟩
  obtain ⟨g, cap, rfl⟩ := row_some ho (by simp)
  obtain ⟨hcl, hcap⟩ := row_cells ho
  have hcell : w2.cell? ⟨g, 0, none⟩ = some (.string s) := hcl 0 (by simp)
  have B2 : Hid (Below w.heap.size w w2) := hb1.trans (hb2.mono hb1.size)
  clear hb1 hb2 HAT hcl ho
  by_cases hk : Tok.name20 s.data.toList = true
  · have K := fun w => Lib.hid (name20_is s true w hs hk)
    have HV : Hid (Tok.isName s = !Tok.has Tok.words s) := by show _ = _; unfold Tok.isName; rw [hk]; rfl
    clear hk
    by_cases hw : Tok.has Tok.words s = true
    · have KW := fun v w h => Lib.hid (has_is v Tok.words s true w h hw)
      have HV2 : Hid (Tok.isName s = false) := by show _ = _; rw [HV.out, hw]; rfl
      clear hw HV
      go_wp2_with fail
      refine wp_loop_rounds 1 ?_
      rw [rounds_succ]
      go_wp2_with fail
      refine (K w2).out.mono ?_
      rintro e w3 ⟨rfl, rfl⟩
      go_wp2_with fail
      refine (words_any w2).mono ?_
      rintro e w3 ⟨a', c', rfl, hat', hb3⟩
      have HAT' := Lib.hid hat'; clear hat'
      have B3 : Hid (Below w.heap.size w w3) := B2.out.trans (hb3.mono B2.out.size)
      clear hb3
      go_wp2_with fail
      refine (KW _ w3 HAT'.out).out.mono ?_
      rintro e w4 ⟨rfl, rfl⟩
      go_wp2_with fail
      go_ret
      exact ⟨by rw [HV2.out]; rfl, B3.out⟩
    · rw [Bool.not_eq_true] at hw
      have KW := fun v w h => Lib.hid (has_is v Tok.words s false w h hw)
      have HV2 : Hid (Tok.isName s = true) := by show _ = _; rw [HV.out, hw]; rfl
      clear hw HV
      go_wp2_with fail
      refine wp_loop_rounds 2 ?_
      rw [rounds_succ]
      go_wp2_with fail
      refine (K w2).out.mono ?_
      rintro e w3 ⟨rfl, rfl⟩
      go_wp2_with fail
      refine (words_any w2).mono ?_
      rintro e w3 ⟨a', c', rfl, hat', hb3⟩
      have HAT' := Lib.hid hat'; clear hat'
      have B3 : Hid (Below w.heap.size w w3) := B2.out.trans (hb3.mono B2.out.size)
      clear hb3
      go_wp2_with fail
      refine (KW _ w3 HAT'.out).out.mono ?_
      rintro e w4 ⟨rfl, rfl⟩
      go_wp2_with fail
      rw [rounds_succ]
      go_wp2_with fail
      go_ret
      exact ⟨by rw [HV2.out]; rfl, B3.out⟩
  · rw [Bool.not_eq_true] at hk
    have K := fun w => Lib.hid (name20_is s false w hs hk)
    have HV2 : Hid (Tok.isName s = false) := by show _ = _; unfold Tok.isName; rw [hk]; rfl
    clear hk
    go_wp2_with fail
    refine wp_loop_rounds 1 ?_
    rw [rounds_succ]
    go_wp2_with fail
    refine (K w2).out.mono ?_
    rintro e w3 ⟨rfl, rfl⟩
    go_wp2_with fail
    go_ret
    exact ⟨by rw [HV2.out]; rfl, B2.out⟩
theorem sel_any (s : ByteArray) (w : World) (hs : s.size ≤ 1048576) :
    Calls Tryz.prog 68 #[.string s] w fun e w' => e = .returned (.bool (Tok.sel s)) ∧ Below w.heap.size w w' := by
  by_cases hb : Tok.has Tok.binaries s = true
  · have h : Tok.sel s = true := by unfold Tok.sel; rw [hb]; rfl
    rw [h]; exact sel_binary s w hb
  · rw [Bool.not_eq_true] at hb
    have hp := (Cuts.parts_len s 58).1
    by_cases hn : 1 < (Cuts.parts s 58).length
    · have h : Tok.sel s = Tok.keys (Cuts.parts s 58) := by unfold Tok.sel; rw [hb, if_pos hn]; rfl
      rw [h]; exact sel_keys s w hs hb hn
    · have h : Tok.sel s = Tok.isName s := by unfold Tok.sel; rw [hb, if_neg hn]; rfl
      rw [h]; exact sel_one s w hs hb (by omega)
theorem sel_is (s : ByteArray) (b : Bool) (w : World) (hs : s.size ≤ 1048576) (h : Tok.sel s = b) :
    Calls Tryz.prog 68 #[.string s] w fun e w' => e = .returned (.bool b) ∧ Below w.heap.size w w' := by subst h; exact sel_any s w hs
end Go.Proofs.YtamjfbjkdicmcaaGreatDoor.SpecSel
