/-
  impl's isValue and isStatement, kind by kind, and what they answer of every tree.
-/
import Derived.Test.YtdohpppkdecbdaaGreatDoorBImplBlock
namespace Go.Proofs.YtdohpppkdecbdaaGreatDoor.ImplRight
open Go.RowKit
open Strs Tree Soft ImplLike ImplPlain Rights ImplVals
open ImplTok (Part)
theorem plain_below {w : World} {a : Addr} {k : Int} {t : ByteArray} {n : Int} {ns : List ByteArray} {ks : List E} (h : Nd w a (.mk k t n ns ks)) :
    Calls Tryz.prog 78 #[.pointer (some a)] w (Part (plain k t n ns) w) := (plain_any h).mono fun _ _ ⟨h1, h2⟩ => ⟨h1, h2.below⟩
set_option maxRecDepth 10000 in
set_option maxHeartbeats 4000000 in
theorem val_1 {w : World} {a : Addr} {t : ByteArray} {n : Int} {ns : List ByteArray} {ks : List E} (hw : weight (.mk 1 t n ns ks) ≤ 1048576) (h : Nd w a (.mk 1 t n ns ks)) :
    Calls Tryz.prog 80 #[.pointer (some a)] w (Part (right (.mk 1 t n ns ks) false) w) := by
  have KP := Lib.hid (plain_below h)
  generalize hD : right (.mk 1 t n ns ks) false = D
  have HD := Lib.hid hD; clear hD
  have HND := Lib.hid h
  obtain ⟨b, o, vn, x, cap, rfl, c0, c1, c2, c3, c4, hm, hx, hk⟩ := see2 h
  clear h
  simp only [E.kind, E.text, E.num, E.names, E.kids] at *
  have HWW := Lib.hid hw
  rw [weight] at hw
  have ht : t.size ≤ 1048576 := by omega
  unfold maxLen at hm
  have KP2 : Hid (∀ P, plain 1 t n ns = P → Calls Tryz.prog 78 #[.pointer (some ⟨b, o, none⟩)] w (Part P w)) := fun P hP => hP ▸ KP.out
  clear KP
  cases hP : plain 1 t n ns with
  | false =>
    have hD : D = false := by rw [← HD.out]; exact not_plain hP
    subst hD
    have KP := Lib.hid (KP2.out _ hP)
    clear HD hP KP2 HWW HND hw hx hk
    generalize ks.length = N at *
    go_enter Tryz.func80, Tryz.ntmps80
    go_wp2_with fail
    refine KP.out.mono ?_
    rintro r w1 ⟨rfl, hb1⟩
    have B1 := Lib.hid hb1; clear hb1
    go_wp2_with fail
    go_ret
    exact ⟨rfl, B1.out⟩
  | true =>
    have KP := Lib.hid (KP2.out _ hP)
    have HPL := Lib.hid hP
    clear hP KP2
    have hv := right_1 (ks := ks) HPL.out
    rw [HD.out] at hv
    have HV := Lib.hid hv
    clear hv HD HPL HND HWW hw hx hk
    generalize ks.length = N at *
    by_cases h0 : 0 ≤ n
    · by_cases h9 : n ≤ 999999999
      · by_cases hN : N = 0
        · have hb : ((N : Int) == 0) = true := by rw [beq_iff_eq]; omega
          have hD : D = true := by rw [HV.out, decide_eq_true h0, decide_eq_true h9, decide_eq_true hN]; rfl
          have HN := Lib.hid hN; clear hN
          subst hD
          clear HV
          go_enter Tryz.func80, Tryz.ntmps80
          go_wp2_with fail
          refine KP.out.mono ?_
          rintro r w1 ⟨rfl, hb1⟩
          have B1 := Lib.hid hb1
          have d0 := cell_keep hb1 c0
          have d1 := cell_keep hb1 c1
          have d2 := cell_keep hb1 c2
          have d4 := cell_keep hb1 c4
          clear hb1 c0 c1 c2 c3 c4
          go_wp2_with fail
          go_ret
          exact ⟨rfl, B1.out⟩
        · have hb : ((N : Int) == 0) = false := by rw [beq_eq_false_iff_ne]; omega
          have hD : D = false := by rw [HV.out, decide_eq_false hN]; simp
          subst hD
          clear HV hN
          go_enter Tryz.func80, Tryz.ntmps80
          go_wp2_with fail
          refine KP.out.mono ?_
          rintro r w1 ⟨rfl, hb1⟩
          have B1 := Lib.hid hb1
          have d0 := cell_keep hb1 c0
          have d1 := cell_keep hb1 c1
          have d2 := cell_keep hb1 c2
          have d4 := cell_keep hb1 c4
          clear hb1 c0 c1 c2 c3 c4
          go_wp2_with fail
          go_ret
          exact ⟨rfl, B1.out⟩
      · have hD : D = false := by rw [HV.out, decide_eq_false h9]; simp
        subst hD
        clear HV
        go_enter Tryz.func80, Tryz.ntmps80
        go_wp2_with fail
        refine KP.out.mono ?_
        rintro r w1 ⟨rfl, hb1⟩
        have B1 := Lib.hid hb1
        have d0 := cell_keep hb1 c0
        have d1 := cell_keep hb1 c1
        have d2 := cell_keep hb1 c2
        have d4 := cell_keep hb1 c4
        clear hb1 c0 c1 c2 c3 c4
        go_wp2_with fail
        go_ret
        exact ⟨rfl, B1.out⟩
    · have hD : D = false := by rw [HV.out, decide_eq_false h0]; simp
      subst hD
      clear HV
      go_enter Tryz.func80, Tryz.ntmps80
      go_wp2_with fail
      refine KP.out.mono ?_
      rintro r w1 ⟨rfl, hb1⟩
      have B1 := Lib.hid hb1
      have d0 := cell_keep hb1 c0
      have d1 := cell_keep hb1 c1
      have d2 := cell_keep hb1 c2
      have d4 := cell_keep hb1 c4
      clear hb1 c0 c1 c2 c3 c4
      go_wp2_with fail
      go_ret
      exact ⟨rfl, B1.out⟩
set_option maxRecDepth 10000 in
set_option maxHeartbeats 4000000 in
theorem val_2 {w : World} {a : Addr} {t : ByteArray} {n : Int} {ns : List ByteArray} {ks : List E} (hw : weight (.mk 2 t n ns ks) ≤ 1048576) (h : Nd w a (.mk 2 t n ns ks)) :
    Calls Tryz.prog 80 #[.pointer (some a)] w (Part (right (.mk 2 t n ns ks) false) w) := by
  have KP := Lib.hid (plain_below h)
  generalize hD : right (.mk 2 t n ns ks) false = D
  have HD := Lib.hid hD; clear hD
  have HND := Lib.hid h
  obtain ⟨b, o, vn, x, cap, rfl, c0, c1, c2, c3, c4, hm, hx, hk⟩ := see2 h
  clear h
  simp only [E.kind, E.text, E.num, E.names, E.kids] at *
  have HWW := Lib.hid hw
  rw [weight] at hw
  have ht : t.size ≤ 1048576 := by omega
  unfold maxLen at hm
  have KP2 : Hid (∀ P, plain 2 t n ns = P → Calls Tryz.prog 78 #[.pointer (some ⟨b, o, none⟩)] w (Part P w)) := fun P hP => hP ▸ KP.out
  clear KP
  cases hP : plain 2 t n ns with
  | false =>
    have hD : D = false := by rw [← HD.out]; exact not_plain hP
    subst hD
    have KP := Lib.hid (KP2.out _ hP)
    clear HD hP KP2 HWW HND hw hx hk
    generalize ks.length = N at *
    go_enter Tryz.func80, Tryz.ntmps80
    go_wp2_with fail
    refine KP.out.mono ?_
    rintro r w1 ⟨rfl, hb1⟩
    have B1 := Lib.hid hb1; clear hb1
    go_wp2_with fail
    go_ret
    exact ⟨rfl, B1.out⟩
  | true =>
    have KP := Lib.hid (KP2.out _ hP)
    have HPL := Lib.hid hP
    clear hP KP2
    have hv := right_2 (ks := ks) HPL.out
    rw [HD.out] at hv
    have HV := Lib.hid hv
    have KC := fun w => Lib.hid (ImplQuot.quotable_any t w)
    clear hv HD HPL HND HWW hw hx hk
    generalize isText t = Q at *
    generalize ks.length = N at *
    cases Q with
    | false =>
      have hD : D = false := by rw [HV.out]; rfl
      subst hD
      clear HV
      go_enter Tryz.func80, Tryz.ntmps80
      go_wp2_with fail
      refine KP.out.mono ?_
      rintro r w1 ⟨rfl, hb1⟩
      have B1 := Lib.hid hb1
      have d0 := cell_keep hb1 c0
      have d1 := cell_keep hb1 c1
      have d2 := cell_keep hb1 c2
      have d4 := cell_keep hb1 c4
      clear hb1 c0 c1 c2 c3 c4
      go_wp2_with fail
      refine (KC _).out.mono ?_
      rintro r w2 ⟨rfl, hb2⟩
      have B2 := Lib.hid (B1.out.trans (hb2.mono B1.out.size))
      clear hb2 d0 d1 d2 d4
      go_wp2_with fail
      go_ret
      exact ⟨rfl, B2.out⟩
    | true =>
      by_cases hN : N = 0
      · have hb : ((N : Int) == 0) = true := by rw [beq_iff_eq]; omega
        have hD : D = true := by rw [HV.out, decide_eq_true hN]; rfl
        have HN := Lib.hid hN; clear hN
        subst hD
        clear HV
        go_enter Tryz.func80, Tryz.ntmps80
        go_wp2_with fail
        refine KP.out.mono ?_
        rintro r w1 ⟨rfl, hb1⟩
        have B1 := Lib.hid hb1
        have d0 := cell_keep hb1 c0
        have d1 := cell_keep hb1 c1
        have d2 := cell_keep hb1 c2
        have d4 := cell_keep hb1 c4
        clear hb1 c0 c1 c2 c3 c4
        go_wp2_with fail
        refine (KC _).out.mono ?_
        rintro r w2 ⟨rfl, hb2⟩
        have B2 := Lib.hid (B1.out.trans (hb2.mono B1.out.size))
        have e4 := cell_keep hb2 d4
        clear hb2 d0 d1 d2 d4
        go_wp2_with fail
        go_ret
        exact ⟨rfl, B2.out⟩
      · have hb : ((N : Int) == 0) = false := by rw [beq_eq_false_iff_ne]; omega
        have hD : D = false := by rw [HV.out, decide_eq_false hN]; rfl
        subst hD
        clear HV hN
        go_enter Tryz.func80, Tryz.ntmps80
        go_wp2_with fail
        refine KP.out.mono ?_
        rintro r w1 ⟨rfl, hb1⟩
        have B1 := Lib.hid hb1
        have d0 := cell_keep hb1 c0
        have d1 := cell_keep hb1 c1
        have d2 := cell_keep hb1 c2
        have d4 := cell_keep hb1 c4
        clear hb1 c0 c1 c2 c3 c4
        go_wp2_with fail
        refine (KC _).out.mono ?_
        rintro r w2 ⟨rfl, hb2⟩
        have B2 := Lib.hid (B1.out.trans (hb2.mono B1.out.size))
        have e4 := cell_keep hb2 d4
        clear hb2 d0 d1 d2 d4
        go_wp2_with fail
        go_ret
        exact ⟨rfl, B2.out⟩
set_option maxRecDepth 10000 in
set_option maxHeartbeats 4000000 in
theorem val_3 {w : World} {a : Addr} {t : ByteArray} {n : Int} {ns : List ByteArray} {ks : List E} (hw : weight (.mk 3 t n ns ks) ≤ 1048576) (h : Nd w a (.mk 3 t n ns ks)) :
    Calls Tryz.prog 80 #[.pointer (some a)] w (Part (right (.mk 3 t n ns ks) false) w) := by
  have KP := Lib.hid (plain_below h)
  generalize hD : right (.mk 3 t n ns ks) false = D
  have HD := Lib.hid hD; clear hD
  have HND := Lib.hid h
  obtain ⟨b, o, vn, x, cap, rfl, c0, c1, c2, c3, c4, hm, hx, hk⟩ := see2 h
  clear h
  simp only [E.kind, E.text, E.num, E.names, E.kids] at *
  have HWW := Lib.hid hw
  rw [weight] at hw
  have ht : t.size ≤ 1048576 := by omega
  unfold maxLen at hm
  have KP2 : Hid (∀ P, plain 3 t n ns = P → Calls Tryz.prog 78 #[.pointer (some ⟨b, o, none⟩)] w (Part P w)) := fun P hP => hP ▸ KP.out
  clear KP
  cases hP : plain 3 t n ns with
  | false =>
    have hD : D = false := by rw [← HD.out]; exact not_plain hP
    subst hD
    have KP := Lib.hid (KP2.out _ hP)
    clear HD hP KP2 HWW HND hw hx hk
    generalize ks.length = N at *
    go_enter Tryz.func80, Tryz.ntmps80
    go_wp2_with fail
    refine KP.out.mono ?_
    rintro r w1 ⟨rfl, hb1⟩
    have B1 := Lib.hid hb1; clear hb1
    go_wp2_with fail
    go_ret
    exact ⟨rfl, B1.out⟩
  | true =>
    have KP := Lib.hid (KP2.out _ hP)
    have HPL := Lib.hid hP
    clear hP KP2
    have hv := right_3 (ks := ks) HPL.out
    rw [HD.out] at hv
    have HV := Lib.hid hv
    have KC := fun w => Lib.hid (ImplCount.sel_any t w ht)
    clear hv HD HPL HND HWW hw hx hk
    generalize Tok.sel t = Q at *
    generalize ks.length = N at *
    cases Q with
    | false =>
      have hD : D = false := by rw [HV.out]; rfl
      subst hD
      clear HV
      go_enter Tryz.func80, Tryz.ntmps80
      go_wp2_with fail
      refine KP.out.mono ?_
      rintro r w1 ⟨rfl, hb1⟩
      have B1 := Lib.hid hb1
      have d0 := cell_keep hb1 c0
      have d1 := cell_keep hb1 c1
      have d2 := cell_keep hb1 c2
      have d4 := cell_keep hb1 c4
      clear hb1 c0 c1 c2 c3 c4
      go_wp2_with fail
      refine (KC _).out.mono ?_
      rintro r w2 ⟨rfl, hb2⟩
      have B2 := Lib.hid (B1.out.trans (hb2.mono B1.out.size))
      clear hb2 d0 d1 d2 d4
      go_wp2_with fail
      go_ret
      exact ⟨rfl, B2.out⟩
    | true =>
      by_cases hN : N = 0
      · have hb : ((N : Int) == 0) = true := by rw [beq_iff_eq]; omega
        have hD : D = true := by rw [HV.out, decide_eq_true hN]; rfl
        have HN := Lib.hid hN; clear hN
        subst hD
        clear HV
        go_enter Tryz.func80, Tryz.ntmps80
        go_wp2_with fail
        refine KP.out.mono ?_
        rintro r w1 ⟨rfl, hb1⟩
        have B1 := Lib.hid hb1
        have d0 := cell_keep hb1 c0
        have d1 := cell_keep hb1 c1
        have d2 := cell_keep hb1 c2
        have d4 := cell_keep hb1 c4
        clear hb1 c0 c1 c2 c3 c4
        go_wp2_with fail
        refine (KC _).out.mono ?_
        rintro r w2 ⟨rfl, hb2⟩
        have B2 := Lib.hid (B1.out.trans (hb2.mono B1.out.size))
        have e4 := cell_keep hb2 d4
        clear hb2 d0 d1 d2 d4
        go_wp2_with fail
        go_ret
        exact ⟨rfl, B2.out⟩
      · have hb : ((N : Int) == 0) = false := by rw [beq_eq_false_iff_ne]; omega
        have hD : D = false := by rw [HV.out, decide_eq_false hN]; rfl
        subst hD
        clear HV hN
        go_enter Tryz.func80, Tryz.ntmps80
        go_wp2_with fail
        refine KP.out.mono ?_
        rintro r w1 ⟨rfl, hb1⟩
        have B1 := Lib.hid hb1
        have d0 := cell_keep hb1 c0
        have d1 := cell_keep hb1 c1
        have d2 := cell_keep hb1 c2
        have d4 := cell_keep hb1 c4
        clear hb1 c0 c1 c2 c3 c4
        go_wp2_with fail
        refine (KC _).out.mono ?_
        rintro r w2 ⟨rfl, hb2⟩
        have B2 := Lib.hid (B1.out.trans (hb2.mono B1.out.size))
        have e4 := cell_keep hb2 d4
        clear hb2 d0 d1 d2 d4
        go_wp2_with fail
        go_ret
        exact ⟨rfl, B2.out⟩
set_option maxRecDepth 10000 in
set_option maxHeartbeats 4000000 in
theorem val_4 {w : World} {a : Addr} {t : ByteArray} {n : Int} {ns : List ByteArray} {ks : List E} (hw : weight (.mk 4 t n ns ks) ≤ 1048576) (h : Nd w a (.mk 4 t n ns ks)) :
    Calls Tryz.prog 80 #[.pointer (some a)] w (Part (right (.mk 4 t n ns ks) false) w) := by
  have KP := Lib.hid (plain_below h)
  generalize hD : right (.mk 4 t n ns ks) false = D
  have HD := Lib.hid hD; clear hD
  have HND := Lib.hid h
  obtain ⟨b, o, vn, x, cap, rfl, c0, c1, c2, c3, c4, hm, hx, hk⟩ := see2 h
  clear h
  simp only [E.kind, E.text, E.num, E.names, E.kids] at *
  have HWW := Lib.hid hw
  rw [weight] at hw
  have ht : t.size ≤ 1048576 := by omega
  unfold maxLen at hm
  have KP2 : Hid (∀ P, plain 4 t n ns = P → Calls Tryz.prog 78 #[.pointer (some ⟨b, o, none⟩)] w (Part P w)) := fun P hP => hP ▸ KP.out
  clear KP
  cases hP : plain 4 t n ns with
  | false =>
    have hD : D = false := by rw [← HD.out]; exact not_plain hP
    subst hD
    have KP := Lib.hid (KP2.out _ hP)
    clear HD hP KP2 HWW HND hw hx hk
    generalize ks.length = N at *
    go_enter Tryz.func80, Tryz.ntmps80
    go_wp2_with fail
    refine KP.out.mono ?_
    rintro r w1 ⟨rfl, hb1⟩
    have B1 := Lib.hid hb1; clear hb1
    go_wp2_with fail
    go_ret
    exact ⟨rfl, B1.out⟩
  | true =>
    have KP := Lib.hid (KP2.out _ hP)
    have HPL := Lib.hid hP
    clear hP KP2
    have hv := right_4 (ks := ks) HPL.out
    rw [HD.out] at hv
    have HV := Lib.hid hv
    have KC := fun w => Lib.hid (ImplTok.is_name t w)
    clear hv HD HPL HND HWW hw hx hk
    generalize Tok.isName t = Q at *
    generalize ks.length = N at *
    cases Q with
    | false =>
      have hD : D = false := by rw [HV.out]; rfl
      subst hD
      clear HV
      go_enter Tryz.func80, Tryz.ntmps80
      go_wp2_with fail
      refine KP.out.mono ?_
      rintro r w1 ⟨rfl, hb1⟩
      have B1 := Lib.hid hb1
      have d0 := cell_keep hb1 c0
      have d1 := cell_keep hb1 c1
      have d2 := cell_keep hb1 c2
      have d4 := cell_keep hb1 c4
      clear hb1 c0 c1 c2 c3 c4
      go_wp2_with fail
      refine (KC _).out.mono ?_
      rintro r w2 ⟨rfl, hb2⟩
      have B2 := Lib.hid (B1.out.trans (hb2.mono B1.out.size))
      clear hb2 d0 d1 d2 d4
      go_wp2_with fail
      go_ret
      exact ⟨rfl, B2.out⟩
    | true =>
      by_cases hN : N = 0
      · have hb : ((N : Int) == 0) = true := by rw [beq_iff_eq]; omega
        have hD : D = true := by rw [HV.out, decide_eq_true hN]; rfl
        have HN := Lib.hid hN; clear hN
        subst hD
        clear HV
        go_enter Tryz.func80, Tryz.ntmps80
        go_wp2_with fail
        refine KP.out.mono ?_
        rintro r w1 ⟨rfl, hb1⟩
        have B1 := Lib.hid hb1
        have d0 := cell_keep hb1 c0
        have d1 := cell_keep hb1 c1
        have d2 := cell_keep hb1 c2
        have d4 := cell_keep hb1 c4
        clear hb1 c0 c1 c2 c3 c4
        go_wp2_with fail
        refine (KC _).out.mono ?_
        rintro r w2 ⟨rfl, hb2⟩
        have B2 := Lib.hid (B1.out.trans (hb2.mono B1.out.size))
        have e4 := cell_keep hb2 d4
        clear hb2 d0 d1 d2 d4
        go_wp2_with fail
        go_ret
        exact ⟨rfl, B2.out⟩
      · have hb : ((N : Int) == 0) = false := by rw [beq_eq_false_iff_ne]; omega
        have hD : D = false := by rw [HV.out, decide_eq_false hN]; rfl
        subst hD
        clear HV hN
        go_enter Tryz.func80, Tryz.ntmps80
        go_wp2_with fail
        refine KP.out.mono ?_
        rintro r w1 ⟨rfl, hb1⟩
        have B1 := Lib.hid hb1
        have d0 := cell_keep hb1 c0
        have d1 := cell_keep hb1 c1
        have d2 := cell_keep hb1 c2
        have d4 := cell_keep hb1 c4
        clear hb1 c0 c1 c2 c3 c4
        go_wp2_with fail
        refine (KC _).out.mono ?_
        rintro r w2 ⟨rfl, hb2⟩
        have B2 := Lib.hid (B1.out.trans (hb2.mono B1.out.size))
        have e4 := cell_keep hb2 d4
        clear hb2 d0 d1 d2 d4
        go_wp2_with fail
        go_ret
        exact ⟨rfl, B2.out⟩
set_option maxRecDepth 10000 in
set_option maxHeartbeats 4000000 in
theorem val_5 {w : World} {a : Addr} {t : ByteArray} {n : Int} {ns : List ByteArray} {ks : List E} (ih : ∀ e, e ∈ ks → OkV e) (hw : weight (.mk 5 t n ns ks) ≤ 1048576) (h : Nd w a (.mk 5 t n ns ks)) :
    Calls Tryz.prog 80 #[.pointer (some a)] w (Part (right (.mk 5 t n ns ks) false) w) := by
  have KP := Lib.hid (plain_below h)
  generalize hD : right (.mk 5 t n ns ks) false = D
  have HD := Lib.hid hD; clear hD
  have HND := Lib.hid h
  obtain ⟨b, o, vn, x, cap, rfl, c0, c1, c2, c3, c4, hm, hx, hk⟩ := see2 h
  clear h
  simp only [E.kind, E.text, E.num, E.names, E.kids] at *
  have HWW := Lib.hid hw
  rw [weight] at hw
  have ht : t.size ≤ 1048576 := by omega
  unfold maxLen at hm
  have KP2 : Hid (∀ P, plain 5 t n ns = P → Calls Tryz.prog 78 #[.pointer (some ⟨b, o, none⟩)] w (Part P w)) := fun P hP => hP ▸ KP.out
  clear KP
  cases hP : plain 5 t n ns with
  | false =>
    have hD : D = false := by rw [← HD.out]; exact not_plain hP
    subst hD
    have KP := Lib.hid (KP2.out _ hP)
    clear HD hP KP2 HWW HND hw hx hk
    generalize ks.length = N at *
    go_enter Tryz.func80, Tryz.ntmps80
    go_wp2_with fail
    refine KP.out.mono ?_
    rintro r w1 ⟨rfl, hb1⟩
    have B1 := Lib.hid hb1; clear hb1
    go_wp2_with fail
    go_ret
    exact ⟨rfl, B1.out⟩
  | true =>
    have KP := Lib.hid (KP2.out _ hP)
    have HPL := Lib.hid hP
    clear hP KP2
    have hv := right_5 (ks := ks) HPL.out
    rw [HD.out] at hv
    have HV := Lib.hid hv
    have KC := fun w => Lib.hid (ImplTok.is_name t w)
    have KV := fun w' (hb : Below w.heap.size w w') => Lib.hid (vals_any (cap := cap) ih (by omega) (hk.keep hb) (by unfold maxLen; omega))
    clear hv HD HPL HND HWW hw hx hk ih
    generalize Tok.isName t = Q at *
    generalize rights false ks = R at *
    generalize ks.length = N at *
    cases Q with
    | false =>
      have hD : D = false := by rw [HV.out]; rfl
      subst hD
      clear HV
      go_enter Tryz.func80, Tryz.ntmps80
      go_wp2_with fail
      refine KP.out.mono ?_
      rintro r w1 ⟨rfl, hb1⟩
      have B1 := Lib.hid hb1
      have d0 := cell_keep hb1 c0
      have d1 := cell_keep hb1 c1
      have d2 := cell_keep hb1 c2
      have d4 := cell_keep hb1 c4
      clear hb1 c0 c1 c2 c3 c4
      go_wp2_with fail
      refine (KC _).out.mono ?_
      rintro r w2 ⟨rfl, hb2⟩
      have B2 := Lib.hid (B1.out.trans (hb2.mono B1.out.size))
      clear hb2 d0 d1 d2 d4
      go_wp2_with fail
      go_ret
      exact ⟨rfl, B2.out⟩
    | true =>
      by_cases hN : N = 1
      · have hb : ((N : Int) == 1) = true := by rw [beq_iff_eq]; omega
        have hD : D = R := by rw [HV.out, decide_eq_true hN]; rfl
        have HN := Lib.hid hN; clear hN
        subst hD
        clear HV
        go_enter Tryz.func80, Tryz.ntmps80
        go_wp2_with fail
        refine KP.out.mono ?_
        rintro r w1 ⟨rfl, hb1⟩
        have B1 := Lib.hid hb1
        have d0 := cell_keep hb1 c0
        have d1 := cell_keep hb1 c1
        have d2 := cell_keep hb1 c2
        have d4 := cell_keep hb1 c4
        clear hb1 c0 c1 c2 c3 c4
        go_wp2_with fail
        refine (KC _).out.mono ?_
        rintro r w2 ⟨rfl, hb2⟩
        have B2 := Lib.hid (B1.out.trans (hb2.mono B1.out.size))
        have e4 := cell_keep hb2 d4
        clear hb2 d0 d1 d2 d4
        go_wp2_with fail
        refine (KV _ B2.out).out.mono ?_
        rintro r w3 ⟨rfl, hb3⟩
        have B3 := Lib.hid (B2.out.trans (hb3.mono B2.out.size))
        clear hb3 e4
        go_wp2_with fail
        go_ret
        exact ⟨rfl, B3.out⟩
      · have hb : ((N : Int) == 1) = false := by rw [beq_eq_false_iff_ne]; omega
        have hD : D = false := by rw [HV.out, decide_eq_false hN]; rfl
        subst hD
        clear HV hN
        go_enter Tryz.func80, Tryz.ntmps80
        go_wp2_with fail
        refine KP.out.mono ?_
        rintro r w1 ⟨rfl, hb1⟩
        have B1 := Lib.hid hb1
        have d0 := cell_keep hb1 c0
        have d1 := cell_keep hb1 c1
        have d2 := cell_keep hb1 c2
        have d4 := cell_keep hb1 c4
        clear hb1 c0 c1 c2 c3 c4
        go_wp2_with fail
        refine (KC _).out.mono ?_
        rintro r w2 ⟨rfl, hb2⟩
        have B2 := Lib.hid (B1.out.trans (hb2.mono B1.out.size))
        have e4 := cell_keep hb2 d4
        clear hb2 d0 d1 d2 d4
        go_wp2_with fail
        go_ret
        exact ⟨rfl, B2.out⟩
set_option maxRecDepth 10000 in
set_option maxHeartbeats 4000000 in
theorem val_6 {w : World} {a : Addr} {t : ByteArray} {n : Int} {ns : List ByteArray} {ks : List E} (ih : ∀ e, e ∈ ks → OkV e) (hw : weight (.mk 6 t n ns ks) ≤ 1048576) (h : Nd w a (.mk 6 t n ns ks)) :
    Calls Tryz.prog 80 #[.pointer (some a)] w (Part (right (.mk 6 t n ns ks) false) w) := by
  have KP := Lib.hid (plain_below h)
  generalize hD : right (.mk 6 t n ns ks) false = D
  have HD := Lib.hid hD; clear hD
  have HND := Lib.hid h
  obtain ⟨b, o, vn, x, cap, rfl, c0, c1, c2, c3, c4, hm, hx, hk⟩ := see2 h
  clear h
  simp only [E.kind, E.text, E.num, E.names, E.kids] at *
  have HWW := Lib.hid hw
  rw [weight] at hw
  have ht : t.size ≤ 1048576 := by omega
  unfold maxLen at hm
  have KP2 : Hid (∀ P, plain 6 t n ns = P → Calls Tryz.prog 78 #[.pointer (some ⟨b, o, none⟩)] w (Part P w)) := fun P hP => hP ▸ KP.out
  clear KP
  cases hP : plain 6 t n ns with
  | false =>
    have hD : D = false := by rw [← HD.out]; exact not_plain hP
    subst hD
    have KP := Lib.hid (KP2.out _ hP)
    clear HD hP KP2 HWW HND hw hx hk
    generalize ks.length = N at *
    go_enter Tryz.func80, Tryz.ntmps80
    go_wp2_with fail
    refine KP.out.mono ?_
    rintro r w1 ⟨rfl, hb1⟩
    have B1 := Lib.hid hb1; clear hb1
    go_wp2_with fail
    go_ret
    exact ⟨rfl, B1.out⟩
  | true =>
    have KP := Lib.hid (KP2.out _ hP)
    have HPL := Lib.hid hP
    clear hP KP2
    have KC := fun w' (hb : Below w.heap.size w w') => Lib.hid (show Calls Tryz.prog 92 #[.pointer (some ⟨b, o, none⟩), .int .i64 1] w' (Part D w') from ((right_6 Tok.sel_is HPL.out).symm.trans HD.out) ▸ send_any 1 (.inr rfl) ih HWW.out (HND.out.keep hb))
    clear HD HPL HND HWW hw hx hk ih
    go_enter Tryz.func80, Tryz.ntmps80
    go_wp2_with fail
    refine KP.out.mono ?_
    rintro r w1 ⟨rfl, hb1⟩
    have B1 := Lib.hid hb1
    have d0 := cell_keep hb1 c0
    have d1 := cell_keep hb1 c1
    have d2 := cell_keep hb1 c2
    have d4 := cell_keep hb1 c4
    clear hb1 c0 c1 c2 c3 c4
    go_wp2_with fail
    refine (KC _ B1.out).out.mono ?_
    rintro r w2 ⟨rfl, hb2⟩
    have B2 := Lib.hid (B1.out.trans (hb2.mono B1.out.size))
    clear hb2 d0 d1 d2 d4
    go_wp2_with fail
    go_ret
    exact ⟨rfl, B2.out⟩
set_option maxRecDepth 10000 in
set_option maxHeartbeats 4000000 in
theorem val_7 {w : World} {a : Addr} {t : ByteArray} {n : Int} {ns : List ByteArray} {ks : List E} (ih : ∀ e, e ∈ ks → OkV e) (ih2 : ∀ m, m ∈ ks → ∀ g, g ∈ m.kids → OkV g) (hw : weight (.mk 7 t n ns ks) ≤ 1048576) (h : Nd w a (.mk 7 t n ns ks)) :
    Calls Tryz.prog 80 #[.pointer (some a)] w (Part (right (.mk 7 t n ns ks) false) w) := by
  have KP := Lib.hid (plain_below h)
  generalize hD : right (.mk 7 t n ns ks) false = D
  have HD := Lib.hid hD; clear hD
  have HND := Lib.hid h
  obtain ⟨b, o, vn, x, cap, rfl, c0, c1, c2, c3, c4, hm, hx, hk⟩ := see2 h
  clear h
  simp only [E.kind, E.text, E.num, E.names, E.kids] at *
  have HWW := Lib.hid hw
  rw [weight] at hw
  have ht : t.size ≤ 1048576 := by omega
  unfold maxLen at hm
  have KP2 : Hid (∀ P, plain 7 t n ns = P → Calls Tryz.prog 78 #[.pointer (some ⟨b, o, none⟩)] w (Part P w)) := fun P hP => hP ▸ KP.out
  clear KP
  cases hP : plain 7 t n ns with
  | false =>
    have hD : D = false := by rw [← HD.out]; exact not_plain hP
    subst hD
    have KP := Lib.hid (KP2.out _ hP)
    clear HD hP KP2 HWW HND hw hx hk
    generalize ks.length = N at *
    go_enter Tryz.func80, Tryz.ntmps80
    go_wp2_with fail
    refine KP.out.mono ?_
    rintro r w1 ⟨rfl, hb1⟩
    have B1 := Lib.hid hb1; clear hb1
    go_wp2_with fail
    go_ret
    exact ⟨rfl, B1.out⟩
  | true =>
    have KP := Lib.hid (KP2.out _ hP)
    have HPL := Lib.hid hP
    clear hP KP2
    have KC := fun w' (hb : Below w.heap.size w w') => Lib.hid (cascade_any D ((right_7 HPL.out).symm.trans HD.out) ih ih2 HWW.out (HND.out.keep hb))
    clear HD HPL HND HWW hw hx hk ih ih2
    go_enter Tryz.func80, Tryz.ntmps80
    go_wp2_with fail
    refine KP.out.mono ?_
    rintro r w1 ⟨rfl, hb1⟩
    have B1 := Lib.hid hb1
    have d0 := cell_keep hb1 c0
    have d1 := cell_keep hb1 c1
    have d2 := cell_keep hb1 c2
    have d4 := cell_keep hb1 c4
    clear hb1 c0 c1 c2 c3 c4
    go_wp2_with fail
    refine (KC _ B1.out).out.mono ?_
    rintro r w2 ⟨rfl, hb2⟩
    have B2 := Lib.hid (B1.out.trans (hb2.mono B1.out.size))
    clear hb2 d0 d1 d2 d4
    go_wp2_with fail
    go_ret
    exact ⟨rfl, B2.out⟩
set_option maxRecDepth 10000 in
set_option maxHeartbeats 4000000 in
theorem val_8 {w : World} {a : Addr} {t : ByteArray} {n : Int} {ns : List ByteArray} {ks : List E} (ih : ∀ m, m ∈ ks → OkV m ∧ OkS m) (hw : weight (.mk 8 t n ns ks) ≤ 1048576) (h : Nd w a (.mk 8 t n ns ks)) :
    Calls Tryz.prog 80 #[.pointer (some a)] w (Part (right (.mk 8 t n ns ks) false) w) := by
  have KP := Lib.hid (plain_below h)
  generalize hD : right (.mk 8 t n ns ks) false = D
  have HD := Lib.hid hD; clear hD
  have HND := Lib.hid h
  obtain ⟨b, o, vn, x, cap, rfl, c0, c1, c2, c3, c4, hm, hx, hk⟩ := see2 h
  clear h
  simp only [E.kind, E.text, E.num, E.names, E.kids] at *
  have HWW := Lib.hid hw
  rw [weight] at hw
  have ht : t.size ≤ 1048576 := by omega
  unfold maxLen at hm
  have KP2 : Hid (∀ P, plain 8 t n ns = P → Calls Tryz.prog 78 #[.pointer (some ⟨b, o, none⟩)] w (Part P w)) := fun P hP => hP ▸ KP.out
  clear KP
  cases hP : plain 8 t n ns with
  | false =>
    have hD : D = false := by rw [← HD.out]; exact not_plain hP
    subst hD
    have KP := Lib.hid (KP2.out _ hP)
    clear HD hP KP2 HWW HND hw hx hk
    generalize ks.length = N at *
    go_enter Tryz.func80, Tryz.ntmps80
    go_wp2_with fail
    refine KP.out.mono ?_
    rintro r w1 ⟨rfl, hb1⟩
    have B1 := Lib.hid hb1; clear hb1
    go_wp2_with fail
    go_ret
    exact ⟨rfl, B1.out⟩
  | true =>
    have KP := Lib.hid (KP2.out _ hP)
    have HPL := Lib.hid hP
    clear hP KP2
    have KC := fun w' (hb : Below w.heap.size w w') => Lib.hid (block_any D ((right_8 HPL.out).symm.trans HD.out) ih HWW.out (HND.out.keep hb))
    clear HD HPL HND HWW hw hx hk ih
    go_enter Tryz.func80, Tryz.ntmps80
    go_wp2_with fail
    refine KP.out.mono ?_
    rintro r w1 ⟨rfl, hb1⟩
    have B1 := Lib.hid hb1
    have d0 := cell_keep hb1 c0
    have d1 := cell_keep hb1 c1
    have d2 := cell_keep hb1 c2
    have d4 := cell_keep hb1 c4
    clear hb1 c0 c1 c2 c3 c4
    go_wp2_with fail
    refine (KC _ B1.out).out.mono ?_
    rintro r w2 ⟨rfl, hb2⟩
    have B2 := Lib.hid (B1.out.trans (hb2.mono B1.out.size))
    clear hb2 d0 d1 d2 d4
    go_wp2_with fail
    go_ret
    exact ⟨rfl, B2.out⟩
set_option maxRecDepth 10000 in
set_option maxHeartbeats 4000000 in
theorem val_o {w : World} {a : Addr} {k : Int} {t : ByteArray} {n : Int} {ns : List ByteArray} {ks : List E} (h1 : ¬ k = 1) (h2 : ¬ k = 2) (h3 : ¬ k = 3) (h4 : ¬ k = 4) (h5 : ¬ k = 5) (h6 : ¬ k = 6) (h7 : ¬ k = 7) (h8 : ¬ k = 8) (hw : weight (.mk k t n ns ks) ≤ 1048576) (h : Nd w a (.mk k t n ns ks)) :
    Calls Tryz.prog 80 #[.pointer (some a)] w (Part (right (.mk k t n ns ks) false) w) := by
  have KP := Lib.hid (plain_below h)
  generalize hD : right (.mk k t n ns ks) false = D
  have HD := Lib.hid hD; clear hD
  have HND := Lib.hid h
  obtain ⟨b, o, vn, x, cap, rfl, c0, c1, c2, c3, c4, hm, hx, hk⟩ := see2 h
  clear h
  simp only [E.kind, E.text, E.num, E.names, E.kids] at *
  have HWW := Lib.hid hw
  rw [weight] at hw
  have ht : t.size ≤ 1048576 := by omega
  unfold maxLen at hm
  have KP2 : Hid (∀ P, plain k t n ns = P → Calls Tryz.prog 78 #[.pointer (some ⟨b, o, none⟩)] w (Part P w)) := fun P hP => hP ▸ KP.out
  clear KP
  cases hP : plain k t n ns with
  | false =>
    have hD : D = false := by rw [← HD.out]; exact not_plain hP
    subst hD
    have KP := Lib.hid (KP2.out _ hP)
    clear HD hP KP2 HWW HND hw hx hk
    generalize ks.length = N at *
    go_enter Tryz.func80, Tryz.ntmps80
    go_wp2_with fail
    refine KP.out.mono ?_
    rintro r w1 ⟨rfl, hb1⟩
    have B1 := Lib.hid hb1; clear hb1
    go_wp2_with fail
    go_ret
    exact ⟨rfl, B1.out⟩
  | true =>
    have KP := Lib.hid (KP2.out _ hP)
    have HPL := Lib.hid hP
    clear hP KP2
    have hD : D = false := by rw [← HD.out]; exact right_o h1 h2 h3 h4 h5 h6 h7 h8
    subst hD
    have b1 : (k == 1) = false := by rw [beq_eq_false_iff_ne]; exact h1
    have b2 : (k == 2) = false := by rw [beq_eq_false_iff_ne]; exact h2
    have b3 : (k == 3) = false := by rw [beq_eq_false_iff_ne]; exact h3
    have b4 : (k == 4) = false := by rw [beq_eq_false_iff_ne]; exact h4
    have b5 : (k == 5) = false := by rw [beq_eq_false_iff_ne]; exact h5
    have b6 : (k == 6) = false := by rw [beq_eq_false_iff_ne]; exact h6
    have b7 : (k == 7) = false := by rw [beq_eq_false_iff_ne]; exact h7
    have b8 : (k == 8) = false := by rw [beq_eq_false_iff_ne]; exact h8
    clear HD HPL HND HWW hw hx hk h1 h2 h3 h4 h5 h6 h7 h8
    go_enter Tryz.func80, Tryz.ntmps80
    go_wp2_with fail
    refine KP.out.mono ?_
    rintro r w1 ⟨rfl, hb1⟩
    have B1 := Lib.hid hb1
    have d0 := cell_keep hb1 c0
    have d1 := cell_keep hb1 c1
    have d2 := cell_keep hb1 c2
    have d4 := cell_keep hb1 c4
    clear hb1 c0 c1 c2 c3 c4
    go_wp2_with fail
    go_ret
    exact ⟨rfl, B1.out⟩
theorem val_mk {k : Int} {t : ByteArray} {n : Int} {ns : List ByteArray} {ks : List E} (ih : ∀ m, m ∈ ks → OkV m ∧ OkS m) (ih2 : ∀ m, m ∈ ks → ∀ g, g ∈ m.kids → OkV g) : OkV (.mk k t n ns ks) := by
  intro w a hw h
  have ihv : ∀ m, m ∈ ks → OkV m := fun m hm => (ih m hm).1
  by_cases h1 : k = 1
  · subst h1; exact val_1 hw h
  by_cases h2 : k = 2
  · subst h2; exact val_2 hw h
  by_cases h3 : k = 3
  · subst h3; exact val_3 hw h
  by_cases h4 : k = 4
  · subst h4; exact val_4 hw h
  by_cases h5 : k = 5
  · subst h5; exact val_5 ihv hw h
  by_cases h6 : k = 6
  · subst h6; exact val_6 ihv hw h
  by_cases h7 : k = 7
  · subst h7; exact val_7 ihv ih2 hw h
  by_cases h8 : k = 8
  · subst h8; exact val_8 ih hw h
  exact val_o h1 h2 h3 h4 h5 h6 h7 h8 hw h
end Go.Proofs.YtdohpppkdecbdaaGreatDoor.ImplRight
