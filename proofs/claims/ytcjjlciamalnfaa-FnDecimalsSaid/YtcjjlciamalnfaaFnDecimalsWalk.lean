/-
  The walk of laws.FnDecimals: it returns true at every code.
-/
import Derived.Test.YtcjjlciamalnfaaParse
import Derived.Test.YtcjjlciamalnfaaImplFmt
import Derived.Test.YtcjjlciamalnfaaImplSplit
import Derived.Test.YtcjjlciamalnfaaJoinWalks
import Derived.Test.YtcjjlciamalnfaaRound
import Derived.Test.YtcjjlciamalnfaaDraw
namespace Go.Proofs.Ytcjjlciamalnfaa.fnDecimalsW
open Go.RowKit
open Strs JoinMath JoinWalks Parse

/-- What is read of the decimal form of n. -/
def Again (n : Int) (w : World) (e : Ending) (w' : World) : Prop :=
  ∃ m : Int, ∃ b : Bool, e = .returned (.tuple #[.int .i64 m, .bool b]) ∧ b = decide (-999999999999 ≤ n ∧ n ≤ 999999999999) ∧ (b = true → m = n) ∧ w = w'

theorem parse_any (n : Int) (w : World) (h1 : -9223372036854775808 ≤ n) (h2 : n ≤ 9223372036854775807) :
    Calls Try.prog 11 #[.string ⟨(Num.intText n).toArray⟩] w (Again n w) := by
  have hsz : (ByteArray.mk (Num.intText n).toArray).size ≤ 1048576 := by
    show (Num.intText n).toArray.size ≤ _
    have := Num.intText_len n
    simp; omega
  have hk : n.natAbs ≤ 18446744073709551615 := by omega
  by_cases hn : n < 0
  · have ht : Num.intText n = 45 :: Num.natText n.natAbs := by rw [Num.intText_nat, if_pos hn]
    have hp : 0 < (ByteArray.mk (Num.intText n).toArray).size := by show 0 < (Num.intText n).toArray.size; rw [ht]; simp
    have h45 : (((ByteArray.mk (Num.intText n).toArray)[0]'hp).toNat : Int) = 45 := by
      have h' : 0 < (ByteArray.mk (Num.intText n).toArray).data.toList.length := by rw [len_list]; exact hp
      rw [← getElem_list _ 0 hp h']
      simp [ht]
    have hd : ((ByteArray.mk (Num.intText n).toArray).extract 1 (ByteArray.mk (Num.intText n).toArray).size).data.toList = Num.natText n.natAbs := by
      rw [ext_data, List.take_of_length_le (by rw [len_list]; exact Nat.le_refl _)]
      simp [ht]
    have hr := Num.rd_natText 999999999999 n.natAbs hk
    rw [← hd] at hr
    refine (int_neg _ _ w hsz hp h45 hr).mono ?_
    rintro e w' ⟨rfl, hw⟩
    by_cases hm : n.natAbs ≤ 999999999999
    · rw [if_pos hm]
      obtain ⟨k, hk1⟩ : ∃ k, n.natAbs = k + 1 := ⟨n.natAbs - 1, by omega⟩
      rw [hk1]
      exact ⟨_, _, rfl, (by show true = _; rw [eq_comm, decide_eq_true_eq]; omega), fun _ => by show -((k + 1 : Nat) : Int) = n; omega, hw⟩
    · rw [if_neg hm]
      exact ⟨_, _, rfl, (by show false = _; rw [eq_comm, decide_eq_false_iff_not]; omega), (fun h => by cases h), hw⟩
  · have ht : Num.intText n = Num.natText n.natAbs := by rw [Num.intText_nat, if_neg hn]
    have h45 : ∀ h : 0 < (ByteArray.mk (Num.intText n).toArray).size, ¬ (((ByteArray.mk (Num.intText n).toArray)[0]'h).toNat : Int) = 45 := by
      intro h e
      have h3 := head_list _ h
      rw [byte_eq _ 45 e] at h3
      have h4 : (ByteArray.mk (Num.intText n).toArray).data.toList = Num.natText n.natAbs := by rw [← ht]
      rw [h4] at h3
      exact Num.natText_head _ hk h3
    have hr := Num.rd_natText 999999999999 n.natAbs hk
    rw [← ht] at hr
    refine (int_plain _ _ w hsz h45 hr).mono ?_
    rintro e w' ⟨rfl, hw⟩
    by_cases hm : n.natAbs ≤ 999999999999
    · rw [if_pos hm]
      exact ⟨_, _, rfl, (by show true = _; rw [eq_comm, decide_eq_true_eq]; omega), fun _ => by show ((n.natAbs : Nat) : Int) = n; omega, hw⟩
    · rw [if_neg hm]
      exact ⟨_, _, rfl, (by show false = _; rw [eq_comm, decide_eq_false_iff_not]; omega), (fun h => by cases h), hw⟩

theorem Raw.keep_to {w w' : World} {a : Option Addr} {len : Nat} (h : Draw.Raw w a len) (hb : Below w.heap.size w w') : Draw.Raw w' a len := h.keep hb

theorem lies_own {w : World} {g base cap : Nat} {xs : List ByteArray} (h : w.ownsRow base 9 1 (.slice (some ⟨g, 0, none⟩) xs.length cap) xs.length (xs.map Value.string)) : Lies w g 0 xs ∧ g < w.heap.size := by
  refine ⟨fun j hj => ?_, (h.lt g rfl).2⟩
  rw [Nat.zero_add, h.cellAt j (by omega)]
  simp [at_, List.getD, hj]

theorem row_some {w : World} {base : Nat} {v : Value} {xs : List ByteArray} (h : w.ownsRow base 9 1 v xs.length (xs.map Value.string)) (hp : 1 ≤ xs.length) :
    ∃ g cap, v = .slice (some ⟨g, 0, none⟩) xs.length cap := by
  obtain ⟨_, ⟨_, hn⟩ | ⟨g, cap, cur, rfl, _⟩⟩ := h
  · omega
  · exact ⟨g, cap, rfl⟩
theorem row_cap {w : World} {base g n cap : Nat} {xs : List Value} (h : w.ownsRow base 9 1 (.slice (some ⟨g, 0, none⟩) n cap) n xs) : n ≤ cap := by
  obtain ⟨_, ⟨h', _⟩ | ⟨g', cap', cur, h', _, _, hn, _⟩⟩ := h
  · simp at h'
  · simp at h'; omega
theorem out_parts (s : ByteArray) (b : Int) (hs : s.size ≤ 5) : Out (Cuts.parts s b) ⟨#[UInt8.ofNat b.toNat]⟩ = s.toList ∧ total (Cuts.parts s b) (Cuts.parts s b).length ≤ 1048576 := by
  have h := Cuts.acc_parts s b
  have hl : s.data.toList.length = s.size := len_list s
  constructor
  · unfold Out
    rw [if_pos (by unfold Fits; rw [h, hl, decide_eq_true_eq]; omega), h, ByteArray.toList_eq]
  · have := Cuts.total_acc (Cuts.parts s b) ⟨#[UInt8.ofNat b.toNat]⟩ (Cuts.parts s b).length
    rw [h, hl] at this; omega

set_option maxHeartbeats 2000000 in
theorem walk (w : World) (a : Option Addr) (len cap : Nat) (zs : List Int) (hz : Kit.IsRow .u8 w a len cap zs) :
    Calls Try.prog 3 #[.slice a len cap] w fun e w' => e = .returned (.bool true) ∧ Below w.heap.size w w' := by
  have hm : len ≤ maxLen := by
    rcases hz with ⟨_, rfl, _⟩ | ⟨x, _, hl, hm, _⟩
    · exact Nat.zero_le _
    · omega
  have HR := Lib.hid (Draw.raw_of hz)
  clear hz
  unfold maxLen at hm
  by_cases hbig : (1048576 : Int) < (len : Int)
  · go_enter Try.func3, Try.ntmps3
    go_wp2
    go_ret
    exact ⟨rfl, Below.refl _ _⟩
  · have hlen : len ≤ 1048576 := by omega
    go_enter Try.func3, Try.ntmps3
    go_wp2_with (first | (go_at_call 9; go_in) | fail)
    refine (Draw.int_any a len cap w hlen HR.out).mono ?_
    rintro e w1 ⟨n, rfl, hn1, hn2, hb1⟩
    go_wp2_with fail
    refine (ImplFmt.fmt_any n w1 hn1 hn2).mono ?_
    rintro e w2 ⟨rfl, hb2⟩
    have B2 : Hid (Below w.heap.size w w2) := hb1.trans (hb2.mono hb1.size)
    clear hb1 hb2
    have HP := fun w => Lib.hid (parse_any n w hn1 hn2)
    generalize Num.intText n = T at *
    go_wp2_with fail
    refine (HP w2).out.mono ?_
    rintro e w3 ⟨m, ok, rfl, hok, hmn, rfl⟩
    clear HP
    have H3 : (ok = true ∧ m = n ∧ -999999999999 ≤ n ∧ n ≤ 999999999999) ∨ (ok = false ∧ ¬ -999999999999 ≤ n) ∨ (ok = false ∧ -999999999999 ≤ n ∧ ¬ n ≤ 999999999999) := by
      by_cases h1 : -999999999999 ≤ n
      · by_cases h2 : n ≤ 999999999999
        · have : ok = true := by rw [hok, decide_eq_true_eq]; exact ⟨h1, h2⟩
          exact .inl ⟨this, hmn this, h1, h2⟩
        · exact .inr (.inr ⟨by rw [hok, decide_eq_false_iff_not]; omega, h1, h2⟩)
      · exact .inr (.inl ⟨by rw [hok, decide_eq_false_iff_not]; omega, h1⟩)
    clear hok hmn
    have HT := fun w' hb => Lib.hid (Draw.text_any a len cap w' hlen (Raw.keep_to HR.out hb))
    rcases H3 with ⟨rfl, rfl, g1, g2⟩ | ⟨rfl, g1⟩ | ⟨rfl, g1, g2⟩
    all_goals go_wp2_with fail
    all_goals
      refine (HT w2 B2.out).out.mono ?_
      rintro e w3 ⟨s, b, rfl, hsz, hb0, hb5, hb3⟩
      have B3 : Hid (Below w.heap.size w w3) := B2.out.trans (hb3.mono B2.out.size)
      clear hb3 HT B2
      go_wp2_with fail
      have HO : Hid (Out (Cuts.parts s b) ⟨#[UInt8.ofNat b.toNat]⟩ = s.toList ∧ total (Cuts.parts s b) (Cuts.parts s b).length ≤ 1048576) := out_parts s b hsz
      have hpl := Cuts.parts_len s b
      have HL : Hid ((Cuts.parts s b).length = (Cuts.cuts s b s.size).1.length + 1) := by show _ = _; simp [Cuts.parts]
      refine (ImplSplit.split_any s b w3 (by omega)).mono ?_
      rintro e w4 ⟨v, rfl, ho, hb4⟩
      have B4 : Hid (Below w.heap.size w w4) := B3.out.trans (hb4.mono B3.out.size)
      clear hb4 B3
      generalize hps : Cuts.parts s b = ps at *
      have HPS := Lib.hid hps; clear hps
      obtain ⟨hpl1, hpl2⟩ := hpl
      obtain ⟨g, c, rfl⟩ := row_some ho hpl1
      have HW := Lib.hid ho; clear ho
      go_wp2_with fail
      go_loop [9, 10] (fun q j => ∃ i : Nat, i ≤ s.size ∧ j = .int .i64 i ∧ q = .int .i64 (((Cuts.cuts s b i).1.length + 1 : Nat) : Int)) (fun _ j => s.size - (intOf j).toNat)
      case atStart => exact ⟨0, by omega, rfl, rfl⟩
      case round =>
        obtain ⟨i, hi, rfl, rfl⟩ := hrel
        have hcl := (Cuts.cuts_le s b i).2
        by_cases hlt : i < s.size
        · by_cases hb : ((s[i]'hlt).toNat : Int) = b
          · have HH : Hid ((Cuts.cuts s b (i + 1)).1.length = (Cuts.cuts s b i).1.length + 1) := by show _ = _; rw [Cuts.cuts_hit s b i hlt hb]; simp
            have hbb : (((s[i]'hlt).toNat : Int) == b) = true := by simpa using hb
            clear hb
            generalize (Cuts.cuts s b i).1.length = q at *
            go_wp2_with fail
            go_round
            case rel => exact ⟨i + 1, by omega, by go_num, by rw [HH.out]; go_num⟩
            case measure => simp [intOf]; omega
          · have HH : Hid ((Cuts.cuts s b (i + 1)).1.length = (Cuts.cuts s b i).1.length) := by show _ = _; rw [Cuts.cuts_miss s b i hlt hb]
            have hbb : (((s[i]'hlt).toNat : Int) == b) = false := by simpa using hb
            clear hb
            generalize (Cuts.cuts s b i).1.length = q at *
            go_wp2_with fail
            go_round
            case rel => exact ⟨i + 1, by omega, by go_num, by rw [HH.out]⟩
            case measure => simp [intOf]; omega
        · have hpn : ps.length = (Cuts.cuts s b i).1.length + 1 := by
            have h1 := HL.out
            have h2 : i = s.size := by omega
            rw [h2]; exact h1
          generalize (Cuts.cuts s b i).1.length + 1 = q at *
          subst hpn
          have hcv := Kit.conv1
          go_wp2_with fail
          obtain ⟨hL4, hg4⟩ := lies_own HW.out
          have hcap := row_cap HW.out
          refine (impl_some g 0 c ps.length ps ⟨#[UInt8.ofNat b.toNat]⟩ _ rfl (hL4.keep (Draw.alloc_below w4 _)) (Nat.lt_of_lt_of_le hg4 (Draw.alloc_below w4 _).size) hcap HO.out.2 (by omega) (by show 1 ≤ 1048576; omega)).mono ?_
          rintro e w5 ⟨rfl, hb6⟩
          rw [HO.out.1]
          have B6 : Hid (Below w.heap.size w w5) := (B4.out.trans ((Draw.alloc_below w4 _).mono B4.out.size)).trans (hb6.mono (Nat.le_trans B4.out.size (Draw.alloc_below w4 _).size))
          clear hb6 B4 hL4 hg4 hcap hcv
          go_wp2_with fail
          go_ret
          exact ⟨rfl, B6.out⟩
end Go.Proofs.Ytcjjlciamalnfaa.fnDecimalsW
