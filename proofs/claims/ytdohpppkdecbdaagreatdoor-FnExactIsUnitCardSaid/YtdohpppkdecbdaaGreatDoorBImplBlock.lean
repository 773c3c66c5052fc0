/-
  impl's isCascade and isBlock: what they answer, given what isValue and isStatement answer of the trees below.
  impl's isBlock: what it answers, given what isValue and isStatement answer of the trees below.
-/
import Derived.Test.YtdohpppkdecbdaaGreatDoorBImplVals
namespace Go.Proofs.YtdohpppkdecbdaaGreatDoor.ImplRight
open Go.RowKit
open Strs Tree Soft ImplLike ImplPlain Rights ImplVals
open ImplTok (Part)
theorem msg_any {w : World} {a : Addr} {m : E} (ih : ∀ e, e ∈ m.kids → OkV e) (hw : weight m ≤ 1048576) (h : Nd w a m) :
    Calls Tryz.prog 92 #[.pointer (some a), .int .i64 0] w (Part (msg m) w) := by
  obtain ⟨k, t, n, ns, ks⟩ := m
  rw [msg_is Tok.sel_is]
  exact send_any 0 (.inl rfl) ih hw h
set_option maxRecDepth 10000 in
set_option maxHeartbeats 4000000 in
theorem cascade_any {w : World} {a : Addr} {k : Int} {t : ByteArray} {n : Int} {ns : List ByteArray} {ks : List E} (D : Bool) (hD : (decide (3 ≤ ks.length) && headOk ks && msgs (ks.drop 1)) = D) (ih : ∀ m, m ∈ ks → OkV m) (ih2 : ∀ m, m ∈ ks → ∀ g, g ∈ m.kids → OkV g) (hw : weight (.mk k t n ns ks) ≤ 1048576) (h : Nd w a (.mk k t n ns ks)) :
    Calls Tryz.prog 93 #[.pointer (some a)] w (Part D w) := by
  obtain ⟨b, o, vn, x, cap, rfl, -, -, -, -, c4, hm, -, hk⟩ := see2 h
  clear h
  simp only [E.kids] at *
  rw [weight] at hw
  unfold maxLen at hm
  rw [msgs_all] at hD
  have HD := Lib.hid hD; clear hD
  by_cases h3 : 3 ≤ ks.length
  case neg =>
    have hD : D = false := by rw [← HD.out, decide_eq_false h3]; simp
    subst hD
    have hl : (ks.length : Int) < 3 := by omega
    clear HD h3 hk ih ih2 hw
    generalize ks.length = N at *
    go_enter Tryz.func93, Tryz.ntmps93
    go_wp2_with fail
    go_ret
    exact ⟨rfl, Below.refl _ _⟩
  obtain ⟨M, hM⟩ : ∃ M, ks.length = M + 1 := ⟨ks.length - 1, by omega⟩
  obtain ⟨C, rfl⟩ : ∃ C, cap = C + 1 := ⟨cap - 1, by omega⟩
  have h0 : 0 < ks.length := by omega
  obtain ⟨kb, ko, rfl, hn0⟩ := hk 0 h0
  rw [show ko + 0 * 5 = ko by omega] at hn0
  have hw0 : weight ks[0] ≤ 1048576 := by have := weight_kid ks 0 h0; omega
  have KH := Lib.hid (ih _ (List.getElem_mem h0) w _ hw0 hn0)
  have hhead : headOk ks = right ks[0] false := by
    cases ks with
    | nil => simp at h0
    | cons e es => rfl
  rw [hhead, decide_eq_true h3, Bool.true_and] at HD
  have HK : Hid (∀ i, i < M → ∃ m, ks[i + 1]? = some m ∧ Nd w ⟨kb, ko + 5 + i * 5, none⟩ m ∧ weight m ≤ 1048576 ∧ ∀ g, g ∈ m.kids → OkV g) := by
    intro i hi
    have hil : i + 1 < ks.length := by omega
    obtain ⟨kb', ko', e1, hn⟩ := hk (i + 1) hil
    cases e1
    rw [show ko + (i + 1) * 5 = ko + 5 + i * 5 by omega] at hn
    exact ⟨ks[i + 1], List.getElem?_eq_getElem hil, hn, by have := weight_kid ks (i + 1) hil; omega, ih2 _ (List.getElem_mem hil)⟩
  have HAL : Hid ((ks.drop 1).all msg = true ↔ ∀ i m, i < M → ks[i + 1]? = some m → msg m = true) := by
    show _ ↔ _
    rw [List.all_eq_true]
    constructor
    · intro h i m hi hm'
      refine h m (List.mem_iff_getElem?.2 ⟨i, ?_⟩)
      rw [List.getElem?_drop, Nat.add_comm]; exact hm'
    · intro h m hmem
      obtain ⟨i, hi⟩ := List.mem_iff_getElem?.1 hmem
      rw [List.getElem?_drop, Nat.add_comm] at hi
      have hil : i + 1 < ks.length := by
        rcases Nat.lt_or_ge (i + 1) ks.length with h | h
        · exact h
        · rw [List.getElem?_eq_none h] at hi; cases hi
      exact h i m (by omega) hi
  rw [hM] at c4 hm h3
  have hl : ¬ ((M + 1 : Nat) : Int) < 3 := by omega
  have hl2 : ¬ ((M : Int) + 1) < 3 := by omega
  clear hk ih ih2 hn0 hw0 hhead hw hM
  generalize right ks[0] false = H at *
  clear h0
  cases H with
  | false =>
    have hD : D = false := by rw [← HD.out]; simp
    subst hD
    clear HD HK HAL
    go_enter Tryz.func93, Tryz.ntmps93
    go_wp2_with fail
    refine KH.out.mono ?_
    rintro r w1 ⟨rfl, hb1⟩
    have B1 := Lib.hid hb1; clear hb1
    go_wp2_with fail
    go_ret
    exact ⟨rfl, B1.out⟩
  | true =>
    rw [Bool.true_and] at HD
    go_enter Tryz.func93, Tryz.ntmps93
    go_wp2_with fail
    refine KH.out.mono ?_
    rintro r w1 ⟨rfl, hb1⟩
    have B1 := Lib.hid hb1
    have c4' := cell_keep hb1 c4
    clear hb1
    go_wp2_with fail
    clear c4'
    go_loopw [27] (fun j wr => ∃ i : Nat, i ≤ M ∧ j = .int .i64 i ∧ Below w.heap.size w wr ∧ Hid (∀ j m, j < i → ks[j + 1]? = some m → msg m = true)) (fun j _ => M - (intOf j).toNat)
    case atStart => exact ⟨0, by omega, rfl, B1.out, fun j m h => by omega⟩
    case round =>
      obtain ⟨i, hi, rfl, hbw, HI⟩ := hrel
      by_cases hlt : i < M
      · obtain ⟨m, hm1, hnd, hwm, hg⟩ := HK.out i hlt
        have KS := Lib.hid (msg_any hg hwm (hnd.keep hbw))
        have HB := Lib.hid hbw
        have HM1 := Lib.hid hm1
        clear hm1 hnd hwm hg hbw
        cases hv : msg m with
        | true =>
          rw [hv] at KS
          have HV := Lib.hid hv; clear hv
          go_wp2_with fail
          refine KS.out.mono ?_
          rintro r w2 ⟨rfl, hb2⟩
          have HB2 := Lib.hid (HB.out.trans (hb2.mono HB.out.size))
          clear hb2
          go_wp2_with fail
          go_roundw
          case rel =>
            refine ⟨i + 1, by omega, by go_num, HB2.out, fun j m' hj hm' => ?_⟩
            by_cases e : j = i
            · subst e; rw [HM1.out] at hm'; cases hm'; exact HV.out
            · exact HI.out j m' (by omega) hm'
          case measure => simp [intOf]; omega
        | false =>
          rw [hv] at KS
          have hD : D = false := by
            rw [← HD.out, Bool.eq_false_iff]
            intro h
            have := HAL.out.1 h i m hlt HM1.out
            rw [hv] at this; cases this
          subst hD
          clear hv
          go_wp2_with fail
          refine KS.out.mono ?_
          rintro r w2 ⟨rfl, hb2⟩
          have HB2 := Lib.hid (HB.out.trans (hb2.mono HB.out.size))
          clear hb2
          go_wp2_with fail
          go_ret
          exact ⟨rfl, HB2.out⟩
      · have hD : D = true := by
          rw [← HD.out]
          exact HAL.out.2 (fun j m' hj hm' => HI.out j m' (by omega) hm')
        subst hD
        go_wp2_with fail
        go_ret
        exact ⟨rfl, hbw⟩
end Go.Proofs.YtdohpppkdecbdaaGreatDoor.ImplRight

namespace Go.Proofs.YtdohpppkdecbdaaGreatDoor.ImplRight
open Go.RowKit
open Strs Tree Soft ImplLike ImplPlain Rights ImplVals
open ImplTok (Part)
theorem keepK {w w' : World} {x : Option Addr} {ks : List E} (h : KidsNd w x ks) (hb : Below w.heap.size w w') : KidsNd w' x ks := h.keep hb
set_option maxRecDepth 10000 in
set_option maxHeartbeats 4000000 in
theorem block_any {w : World} {a : Addr} {k : Int} {t : ByteArray} {n : Int} {ns : List ByteArray} {ks : List E} (D : Bool) (hD : (decide (0 ≤ n) && decide (n ≤ (ns.length : Int)) && ns.all Tok.isName && rights true ks) = D) (ih : ∀ m, m ∈ ks → OkV m ∧ OkS m) (hw : weight (.mk k t n ns ks) ≤ 1048576) (h : Nd w a (.mk k t n ns ks)) :
    Calls Tryz.prog 94 #[.pointer (some a)] w (Part D w) := by
  obtain ⟨b, o, vn, x, cap, rfl, -, -, c2, c3, c4, hm, hx, hk⟩ := see2 h
  clear h
  simp only [E.num, E.names, E.kids] at *
  rw [weight] at hw
  have KN := fun d os => Lib.hid (Calls.regrown_of (w := w) (d := d) (os := os) (names_any (hx.below (below_regrown w d os))))
  obtain ⟨x3, p3, rfl, hm3, -⟩ := hx
  unfold maxLen at hm hm3
  have HD := Lib.hid hD
  have k2 := cell_regrown c2
  have k3 := cell_regrown c3
  have HK := Lib.hid hk
  have IH := Lib.hid ih
  have HW : Hid (weights ks ≤ 1048576) := by show _ ≤ _; omega
  clear hD hk ih hw c2 c3
  generalize ns.all Tok.isName = Q at *
  generalize ns.length = L at *
  by_cases h0 : 0 ≤ n
  case neg =>
    have hD : D = false := by rw [← HD.out, decide_eq_false h0]; rfl
    subst hD
    have b0 : decide (n < 0) = true := decide_eq_true (by omega)
    clear HD h0 HK
    generalize ks.length = N at *
    go_enter Tryz.func94, Tryz.ntmps94
    go_wp2_with fail
    refine wp_region_quiet_below (by kernel_rfl) (by kernel_rfl) ?_
    repeat (go_big_quiet_step (fail))
    refine wpQuiet_nil ?_
    intro w2 hw2
    have hb2 := Lib.hid (regrown_below hw2); clear hw2
    go_wp2_with fail
    go_ret
    exact ⟨rfl, hb2.out⟩
  have b0 : decide (n < 0) = false := decide_eq_false (by omega)
  by_cases hl : n ≤ (L : Int)
  case neg =>
    have hD : D = false := by rw [← HD.out, decide_eq_false hl]; simp
    subst hD
    have b1 : decide ((L : Int) < n) = true := decide_eq_true (by omega)
    clear HD h0 hl HK
    generalize ks.length = N at *
    go_enter Tryz.func94, Tryz.ntmps94
    go_wp2_with fail
    refine wp_region_quiet_below (by kernel_rfl) (by kernel_rfl) ?_
    repeat (go_big_quiet_step (fail))
    refine wpQuiet_nil ?_
    intro w2 hw2
    have hb2 := Lib.hid (regrown_below hw2); clear hw2
    go_wp2_with fail
    go_ret
    exact ⟨rfl, hb2.out⟩
  have b1 : decide ((L : Int) < n) = false := decide_eq_false (by omega)
  rw [decide_eq_true h0, decide_eq_true hl] at HD
  clear h0 hl
  cases Q with
  | false =>
    have hD : D = false := by rw [← HD.out]; simp
    subst hD
    clear HD HK
    generalize ks.length = N at *
    go_enter Tryz.func94, Tryz.ntmps94
    go_wp2_with fail
    refine wp_region_quiet_below (by kernel_rfl) (by kernel_rfl) ?_
    repeat (go_big_quiet_step ((go_at_call 53; exact (KN _ _).out)))
    refine wpQuiet_nil ?_
    intro w2 hw2
    have hb2 := Lib.hid (regrown_below hw2); clear hw2
    go_wp2_with fail
    go_ret
    exact ⟨rfl, hb2.out⟩
  | true =>
    simp only [Bool.true_and] at HD
    by_cases hN : ks.length = 0
    case pos =>
      have hD : D = true := by rw [← HD.out, no_kids hN]; rfl
      subst hD
      rw [hN] at c4 hm
      clear HD HK hN
      go_enter Tryz.func94, Tryz.ntmps94
      go_wp2_with fail
      refine wp_region_quiet_below (by kernel_rfl) (by kernel_rfl) ?_
      repeat (go_big_quiet_step ((go_at_call 53; exact (KN _ _).out)))
      refine wpQuiet_nil ?_
      intro w2 hw2
      have hb2 := Lib.hid (regrown_below hw2)
      have c4' := cell_keep hb2.out c4
      clear hw2 k2 k3 c4 KN
      go_wp2_with fail
      go_ret
      exact ⟨rfl, hb2.out⟩
    obtain ⟨M, hM⟩ : ∃ M, ks.length = M + 1 := ⟨ks.length - 1, by omega⟩
    have hlast : M < ks.length := by omega
    obtain ⟨kb, ko, rfl, hnl⟩ := HK.out M hlast
    have hks : ks = ks.take M ++ [ks[M]] := by
      have := List.take_succ_eq_append_getElem hlast
      rw [List.take_of_length_le (by omega)] at this
      exact this
    have hr := rights_last (ks.take M) ks[M]
    rw [← hks] at hr
    rw [hr] at HD
    have htl : (ks.take M).length = M := by rw [List.length_take]; omega
    have hkt : KidsNd w (some ⟨kb, ko, none⟩) (ks.take M) := fun i hi => by
      have hi' : i < ks.length := by omega
      obtain ⟨kb', ko', e1, hn⟩ := HK.out i hi'
      exact ⟨kb', ko', e1, by rw [List.getElem_take]; exact hn⟩
    have hwm : weight ks[M] ≤ 1048576 := by have := weight_kid ks M hlast; have := HW.out; omega
    have KS := fun w' (hb : Below w.heap.size w w') => Lib.hid ((IH.out _ (List.getElem_mem hlast)).2 w' _ hwm (hnl.keep hb))
    have hwt : weights (ks.take M) ≤ 1048576 := by have := weights_le ks M; have := HW.out; omega
    have KV0 := fun w' (hb : Below w.heap.size w w') => vals_any (cap := cap) (fun e he => (IH.out e (List.mem_of_mem_take he)).1) hwt (hkt.keep hb) (by rw [htl]; unfold maxLen; omega)
    rw [htl] at KV0
    have KV := fun w' hb => Lib.hid (KV0 w' hb)
    rw [hM] at c4 hm
    have HM := Lib.hid hM
    clear hr hks htl hkt hwm hwt KV0 hnl HK hN hM
    generalize rights false (ks.take M) = R at *
    generalize right ks[M] true = S at *
    clear hlast
    have g0 : ¬ ((M : Int) < 0) := by omega
    cases R with
    | false =>
      have hD : D = false := by rw [← HD.out]; rfl
      subst hD
      clear HD
      go_enter Tryz.func94, Tryz.ntmps94
      go_wp2_with fail
      refine wp_region_quiet_below (by kernel_rfl) (by kernel_rfl) ?_
      repeat (go_big_quiet_step ((go_at_call 53; exact (KN _ _).out)))
      refine wpQuiet_nil ?_
      intro w2 hw2
      have hb2 := Lib.hid (regrown_below hw2)
      have c4' := cell_keep hb2.out c4
      clear hw2 k2 k3 c4 KN
      go_wp2_with fail
      refine (KV _ hb2.out).out.mono ?_
      rintro r w3 ⟨rfl, hb3⟩
      have B3 := Lib.hid (hb2.out.trans (hb3.mono hb2.out.size))
      clear hb3
      go_wp2_with fail
      go_ret
      exact ⟨rfl, B3.out⟩
    | true =>
      have hD : D = S := by rw [← HD.out]; rfl
      subst hD
      clear HD
      go_enter Tryz.func94, Tryz.ntmps94
      go_wp2_with fail
      refine wp_region_quiet_below (by kernel_rfl) (by kernel_rfl) ?_
      repeat (go_big_quiet_step ((go_at_call 53; exact (KN _ _).out)))
      refine wpQuiet_nil ?_
      intro w2 hw2
      have hb2 := Lib.hid (regrown_below hw2)
      have c4' := cell_keep hb2.out c4
      clear hw2 k2 k3 c4 KN
      go_wp2_with fail
      refine (KV _ hb2.out).out.mono ?_
      rintro r w3 ⟨rfl, hb3⟩
      have B3 := Lib.hid (hb2.out.trans (hb3.mono hb2.out.size))
      have c5 := cell_keep hb3 c4'
      clear hb3 c4'
      go_wp2_with fail
      refine (KS _ B3.out).out.mono ?_
      rintro r w4 ⟨rfl, hb4⟩
      have B4 := Lib.hid (B3.out.trans (hb4.mono B3.out.size))
      clear hb4
      go_wp2_with fail
      go_ret
      exact ⟨rfl, B4.out⟩
end Go.Proofs.YtdohpppkdecbdaaGreatDoor.ImplRight
