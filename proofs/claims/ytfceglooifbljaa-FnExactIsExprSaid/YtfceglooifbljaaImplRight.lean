/-
  impl's isCascade and isBlock: what they answer, given what isValue and isStatement answer of the trees below.
-/
import Derived.Test.YtfceglooifbljaaImplVals
namespace Go.Proofs.Ytfceglooifbljaa.ImplRight
open Go.RowKit
open Strs Tree Soft ImplLike ImplPlain Rights ImplVals
open ImplTok (Part)

theorem msg_any {w : World} {a : Addr} {m : E} (ih : ∀ e, e ∈ m.kids → OkV e) (hw : weight m ≤ 1048576) (h : Nd w a m) :
    Calls Try.prog 35 #[.pointer (some a), .int .i64 0] w (Part (msg m) w) := by
  obtain ⟨k, t, n, ns, ks⟩ := m
  rw [msg_is Tok.sel_is]
  exact send_any 0 (.inl rfl) ih hw h

set_option maxRecDepth 10000 in
set_option maxHeartbeats 4000000 in
theorem cascade_any {w : World} {a : Addr} {k : Int} {t : ByteArray} {n : Int} {ns : List ByteArray} {ks : List E} (D : Bool) (hD : (decide (3 ≤ ks.length) && headOk ks && msgs (ks.drop 1)) = D) (ih : ∀ m, m ∈ ks → OkV m) (ih2 : ∀ m, m ∈ ks → ∀ g, g ∈ m.kids → OkV g) (hw : weight (.mk k t n ns ks) ≤ 1048576) (h : Nd w a (.mk k t n ns ks)) :
    Calls Try.prog 36 #[.pointer (some a)] w (Part D w) := by
  obtain ⟨b, o, vn, x, cap, rfl, -, -, -, -, c4, hm, -, hk⟩ := see2 h
  clear h
  simp only [E.kids] at *
  rw [weight] at hw
  unfold maxLen at hm
  rw [msgs_all] at hD
  have HD := Lib.hid hD; clear hD
  by_cases h3 : 3 ≤ ks.length
  case neg =>
    have hD : D = false := by rw [← HD.out, decide_eq_false h3]; simp
    subst hD
    have hl : (ks.length : Int) < 3 := by omega
    clear HD h3 hk ih ih2 hw
    generalize ks.length = N at *
    go_enter Try.func36, Try.ntmps36
    go_wp2_with fail
    go_ret
    exact ⟨rfl, Below.refl _ _⟩
  obtain ⟨M, hM⟩ : ∃ M, ks.length = M + 1 := ⟨ks.length - 1, by omega⟩
  obtain ⟨C, rfl⟩ : ∃ C, cap = C + 1 := ⟨cap - 1, by omega⟩
  have h0 : 0 < ks.length := by omega
  obtain ⟨kb, ko, rfl, hn0⟩ := hk 0 h0
  rw [show ko + 0 * 5 = ko by omega] at hn0
  have hw0 : weight ks[0] ≤ 1048576 := by have := weight_kid ks 0 h0; omega
  have KH := Lib.hid (ih _ (List.getElem_mem h0) w _ hw0 hn0)
  have hhead : headOk ks = right ks[0] false := by
    cases ks with
    | nil => simp at h0
    | cons e es => rfl
  rw [hhead, decide_eq_true h3, Bool.true_and] at HD
  have HK : Hid (∀ i, i < M → ∃ m, ks[i + 1]? = some m ∧ Nd w ⟨kb, ko + 5 + i * 5, none⟩ m ∧ weight m ≤ 1048576 ∧ ∀ g, g ∈ m.kids → OkV g) := by
    intro i hi
    have hil : i + 1 < ks.length := by omega
    obtain ⟨kb', ko', e1, hn⟩ := hk (i + 1) hil
    cases e1
    rw [show ko + (i + 1) * 5 = ko + 5 + i * 5 by omega] at hn
    exact ⟨ks[i + 1], List.getElem?_eq_getElem hil, hn, by have := weight_kid ks (i + 1) hil; omega, ih2 _ (List.getElem_mem hil)⟩
  have HAL : Hid ((ks.drop 1).all msg = true ↔ ∀ i m, i < M → ks[i + 1]? = some m → msg m = true) := by
    show _ ↔ _
    rw [List.all_eq_true]
    constructor
    · intro h i m hi hm'
      refine h m (List.mem_iff_getElem?.2 ⟨i, ?_⟩)
      rw [List.getElem?_drop, Nat.add_comm]; exact hm'
    · intro h m hmem
      obtain ⟨i, hi⟩ := List.mem_iff_getElem?.1 hmem
      rw [List.getElem?_drop, Nat.add_comm] at hi
      have hil : i + 1 < ks.length := by
        rcases Nat.lt_or_ge (i + 1) ks.length with h | h
        · exact h
        · rw [List.getElem?_eq_none h] at hi; cases hi
      exact h i m (by omega) hi
  rw [hM] at c4 hm h3
  have hl : ¬ ((M + 1 : Nat) : Int) < 3 := by omega
  have hl2 : ¬ ((M : Int) + 1) < 3 := by omega
  clear hk ih ih2 hn0 hw0 hhead hw hM
  generalize right ks[0] false = H at *
  clear h0
  cases H with
  | false =>
    have hD : D = false := by rw [← HD.out]; simp
    subst hD
    clear HD HK HAL
    go_enter Try.func36, Try.ntmps36
    go_wp2_with fail
    refine KH.out.mono ?_
    rintro r w1 ⟨rfl, hb1⟩
    have B1 := Lib.hid hb1; clear hb1
    go_wp2_with fail
    go_ret
    exact ⟨rfl, B1.out⟩
  | true =>
    rw [Bool.true_and] at HD
    go_enter Try.func36, Try.ntmps36
    go_wp2_with fail
    refine KH.out.mono ?_
    rintro r w1 ⟨rfl, hb1⟩
    have B1 := Lib.hid hb1
    have c4' := cell_keep hb1 c4
    clear hb1
    go_wp2_with fail
    clear c4'
    go_loopw [27] (fun j wr => ∃ i : Nat, i ≤ M ∧ j = .int .i64 i ∧ Below w.heap.size w wr ∧ Hid (∀ j m, j < i → ks[j + 1]? = some m → msg m = true)) (fun j _ => M - (intOf j).toNat)
    case atStart => exact ⟨0, by omega, rfl, B1.out, fun j m h => by omega⟩
    case round =>
      obtain ⟨i, hi, rfl, hbw, HI⟩ := hrel
      by_cases hlt : i < M
      · obtain ⟨m, hm1, hnd, hwm, hg⟩ := HK.out i hlt
        have KS := Lib.hid (msg_any hg hwm (hnd.keep hbw))
        have HB := Lib.hid hbw
        have HM1 := Lib.hid hm1
        clear hm1 hnd hwm hg hbw
        cases hv : msg m with
        | true =>
          rw [hv] at KS
          have HV := Lib.hid hv; clear hv
          go_wp2_with fail
          refine KS.out.mono ?_
          rintro r w2 ⟨rfl, hb2⟩
          have HB2 := Lib.hid (HB.out.trans (hb2.mono HB.out.size))
          clear hb2
          go_wp2_with fail
          go_roundw
          case rel =>
            refine ⟨i + 1, by omega, by go_num, HB2.out, fun j m' hj hm' => ?_⟩
            by_cases e : j = i
            · subst e; rw [HM1.out] at hm'; cases hm'; exact HV.out
            · exact HI.out j m' (by omega) hm'
          case measure => simp [intOf]; omega
        | false =>
          rw [hv] at KS
          have hD : D = false := by
            rw [← HD.out, Bool.eq_false_iff]
            intro h
            have := HAL.out.1 h i m hlt HM1.out
            rw [hv] at this; cases this
          subst hD
          clear hv
          go_wp2_with fail
          refine KS.out.mono ?_
          rintro r w2 ⟨rfl, hb2⟩
          have HB2 := Lib.hid (HB.out.trans (hb2.mono HB.out.size))
          clear hb2
          go_wp2_with fail
          go_ret
          exact ⟨rfl, HB2.out⟩
      · have hD : D = true := by
          rw [← HD.out]
          exact HAL.out.2 (fun j m' hj hm' => HI.out j m' (by omega) hm')
        subst hD
        go_wp2_with fail
        go_ret
        exact ⟨rfl, hbw⟩
end Go.Proofs.Ytfceglooifbljaa.ImplRight
