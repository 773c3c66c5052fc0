/-
  The model's parser: expressions.
-/
import Derived.Test.YtbflpocbjdccgaaGreatDoorBParseExpr
import Derived.Lib.QuietBelow
import Derived.Deep.DeepCutAuto
import Derived.Deep.CutRange
namespace Go.Proofs.YtbflpocbjdccgaaGreatDoor.Parser
open Go.RowKit
open Strs Tree Gram

theorem regrown_below {w w' : World} (h : ∃ p : Regrown, w' = Sort.grow (redrawn w p.d) p.os) : Below w.heap.size w w' := by
  obtain ⟨p, rfl⟩ := h
  exact below_regrown _ _ _

theorem out_two {base lo : Nat} {w : World} {x y : Item} (hx : NodeAt lo w x.1 x.2.1 x.2.2) (hy : NodeAt lo w y.1 y.2.1 y.2.2) (hb : base ≤ lo) (hw : base ≤ w.heap.size) :
    Out base (w.alloc (.cells #[.int .i64 x.1.kind, .string x.1.text, .int .i64 x.1.num, x.2.1, x.2.2, .int .i64 y.1.kind, .string y.1.text, .int .i64 y.1.num, y.2.1, y.2.2] 25)).drew [x, y] (.slice (some ⟨w.heap.size, 0, none⟩) 2 2) := by
  have hba : Below w.heap.size w (w.alloc (.cells #[.int .i64 x.1.kind, .string x.1.text, .int .i64 x.1.num, x.2.1, x.2.2, .int .i64 y.1.kind, .string y.1.text, .int .i64 y.1.num, y.2.1, y.2.2] 25)).drew := ((Below.refl _ _).alloc (Nat.le_refl _) _).drew
  have ho := World.ownsRow_lit (base := base) (e := 25) (size := 5) w #[.int .i64 x.1.kind, .string x.1.text, .int .i64 x.1.num, x.2.1, x.2.2, .int .i64 y.1.kind, .string y.1.text, .int .i64 y.1.num, y.2.1, y.2.2] 2 hw (by unfold maxLen; omega) rfl
  refine ⟨own_keep ho ((Below.refl _ _).drew), by simp, fun z hz => ?_⟩
  refine ⟨lo, w, hb, ?_, kept_below hba, hba.size, fun k hk => .inr ?_⟩
  · simp only [List.mem_cons, List.not_mem_nil, or_false] at hz
    rcases hz with rfl | rfl
    · exact hx
    · exact hy
  · simp [Value.ownBlock] at hk
    omega
theorem kids_tail {lo : Nat} {w : World} {x : Item} {L : List Item} {bk ok ck : Nat} (ha : All lo w L) (h1 : L.length + 1 ≤ ck) (h2 : ck ≤ maxLen) (hb : lo ≤ bk) (hc : ∀ j u, (row5 (x :: L))[j]? = some u → w.cell? ⟨bk, ok + j, none⟩ = some u) :
    KidsAt lo w (trees L) (.slice (if ck = 1 then some ⟨bk, ok, none⟩ else some ⟨bk, ok + 5, none⟩) L.length (ck - 1)) := by
  have hl : (trees L).length = L.length := by simp [trees]
  refine ⟨_, ck - 1, by rw [hl], ⟨by omega, by omega⟩, fun hp => ⟨bk, ok + 5, by rw [if_neg (by omega)], hb, to_row L _ ha fun j u hj => ?_⟩⟩
  have := hc (j + 5) u (by
    have he : row5 (x :: L) = cells5 x ++ row5 L := rfl
    rw [he]
    simp [cells5]
    exact hj)
  rw [show ok + 5 + j = ok + (j + 5) by omega]
  exact this

set_option maxRecDepth 10000 in
set_option maxHeartbeats 8000000 in
theorem expr_read {n : Nat} (hx : XC n) {P : Cst} {p : Nat} {w : World} (h : PS P p false w) (hn : (rest P p).length ≤ n) :
    Calls Tryz.prog 10 #[.pointer (some ⟨P.pb, 0, none⟩)] w (Back P w (exprF (expr n) (rest P p))) := by
  have hb0 : Below w.heap.size w (w.alloc (.cells #[.int .i64 0, .string ⟨#[]⟩, .int .i64 0, .slice none 0 0, .slice none 0 0] 25)) := (Below.refl _ _).alloc (Nat.le_refl _) _
  have h1 := h.below hb0
  have H1 := Lib.hid h1
  have HT := Lib.hid ((Turn.refl P w).low hb0)
  have HZ := Lib.hid (zero_new w 25)
  have HLO := Lib.hid h.lo
  have hpbl := h.size
  have h8 := h.fit.len
  have hpl := h.le
  have hcap := h.fit.cap
  have HLEN := Lib.hid hn
  have HF := Lib.hid h.fit
  have KI := fun d os => Lib.hid (Calls.regrown_of (w := w.alloc (.cells #[.int .i64 0, .string ⟨#[]⟩, .int .i64 0, .slice none 0 0, .slice none 0 0] 25)) (d := d) (os := os) ((is_any (h1.below (below_regrown _ d os)) 1 ⟨#[]⟩).mono fun e w' ⟨a, b⟩ => ⟨a, b.below⟩))
  have c0 := cell_regrown h1.c0
  have c1 := cell_regrown h1.c1
  have HTOK := Lib.hid h1.tok
  generalize hG : exprF (expr n) (rest P p) = G
  have HG : Hid (G = exprF (expr n) (rest P p)) := Lib.hid hG.symm
  clear h h1 hb0 hn hG
  generalize hpb : P.pb = pb at *
  have HPB := Lib.hid hpb; clear hpb
  generalize hNN : P.toks.length = N at *
  have HNN := Lib.hid hNN; clear hNN
  generalize hcc : P.cap = cap at *
  generalize hta : P.ta = ta at *
  have HTA := Lib.hid hta; clear hta hcc
  go_enter Tryz.func10, Tryz.ntmps10
  go_upto_region 1 with fail
  go_cut [53] from 9 to 53 (fun c wx => c = .bool (asg (rest P p)) ∧ Below (w.alloc (.cells #[.int .i64 0, .string ⟨#[]⟩, .int .i64 0, .slice none 0 0, .slice none 0 0] 25)).heap.size (w.alloc (.cells #[.int .i64 0, .string ⟨#[]⟩, .int .i64 0, .slice none 0 0, .slice none 0 0] 25)) wx)
  case first =>
    generalize hD : asg (rest P p) = D
    have HD := Lib.hid hD; clear hD
    have HD0 := Lib.hid HD.out
    cases hb : isB 1 ⟨#[]⟩ (rest P p) with
    | false =>
      rw [hb] at KI
      have hD : D = false := by rw [← HD.out, asg_no (by rw [← isB_none]; exact hb)]
      have HA := Lib.hid (HD0.out.trans hD)
      subst hD
      clear hb HD
      refine wp_region_quiet_below (by kernel_rfl) (by kernel_rfl) ?_
      repeat (go_big_quiet_step ((go_at_call 23; exact (KI _ _).out)))
      refine wpQuiet_nil ?_
      intro w2 hw2
      have hb2 := Lib.hid (regrown_below hw2); clear hw2
      go_wp2_with fail
      go_meet
      exact ⟨congrArg Value.bool HA.out.symm, hb2.out⟩
    | true =>
      rw [hb] at KI
      obtain ⟨t, r, hr, hk⟩ := isB_some hb
      rw [hr] at HD
      obtain ⟨hp1, -, hr1⟩ := rest_cons hr
      rw [HNN.out] at hp1
      clear hb hr
      cases r with
      | nil =>
        have hp2 := rest_nil (by rw [HNN.out]; omega) hr1
        rw [HNN.out] at hp2
        have hD : D = false := by rw [← HD.out, asg_one]
        have HA := Lib.hid (HD0.out.trans hD)
        subst hD
        have b1 : decide ((p : Int) + 1 < (N : Int)) = false := decide_eq_false (by omega)
        clear HD hr1 hp2
        refine wp_region_quiet_below (by kernel_rfl) (by kernel_rfl) ?_
        repeat (go_big_quiet_step ((go_at_call 23; exact (KI _ _).out)))
        refine wpQuiet_nil ?_
        intro w2 hw2
        have hb2 := Lib.hid (regrown_below hw2); clear hw2
        go_wp2_with fail
        go_meet
        exact ⟨congrArg Value.bool HA.out.symm, hb2.out⟩
      | cons u r =>
        obtain ⟨hp2, ht2, -⟩ := rest_cons hr1
        rw [HNN.out] at hp2
        have b1 : decide ((p : Int) + 1 < (N : Int)) = true := decide_eq_true (by omega)
        obtain ⟨tb, tf, e, -, d0, d1, -⟩ := HTOK.out _ _ ht2
        subst e
        have k0 := cell_regrown d0
        have k1 := cell_regrown d1
        rw [asg_two, decide_eq_true hk] at HD
        clear hr1 ht2 d0 d1 hk
        generalize u.kind = uk at *
        generalize u.text = ut at *
        by_cases h7 : uk = 7
        case neg =>
          have hD : D = false := by rw [← HD.out, decide_eq_false h7]; rfl
          have HA := Lib.hid (HD0.out.trans hD)
          subst hD
          have b2 : (uk == 7) = false := by rw [kind_eq, decide_eq_false h7]
          clear HD h7
          refine wp_region_quiet_below (by kernel_rfl) (by kernel_rfl) ?_
          repeat (go_big_quiet_step ((go_at_call 23; exact (KI _ _).out)))
          refine wpQuiet_nil ?_
          intro w2 hw2
          have hb2 := Lib.hid (regrown_below hw2); clear hw2
          go_wp2_with fail
          go_meet
          exact ⟨congrArg Value.bool HA.out.symm, hb2.out⟩
        subst h7
        by_cases hxg : ut = cGets
        · have hD : D = true := by rw [← HD.out, decide_eq_true hxg]; rfl
          have HA := Lib.hid (HD0.out.trans hD)
          subst hD
          subst hxg
          have b2 : (cGets.toList == [58, 61]) = true := by rw [ByteArray.toList_eq]; rfl
          clear HD
          refine wp_region_quiet_below (by kernel_rfl) (by kernel_rfl) ?_
          repeat (go_big_quiet_step ((go_at_call 23; exact (KI _ _).out)))
          refine wpQuiet_nil ?_
          intro w2 hw2
          have hb2 := Lib.hid (regrown_below hw2); clear hw2
          go_wp2_with fail
          go_meet
          exact ⟨congrArg Value.bool HA.out.symm, hb2.out⟩
        · have hD : D = false := by rw [← HD.out, decide_eq_false hxg]; rfl
          have HA := Lib.hid (HD0.out.trans hD)
          subst hD
          have b2 : (ut.toList == [58, 61]) = false := by
            have := text_ne hxg
            rw [ByteArray.toList_eq cGets] at this
            exact this
          clear HD hxg
          refine wp_region_quiet_below (by kernel_rfl) (by kernel_rfl) ?_
          repeat (go_big_quiet_step ((go_at_call 23; exact (KI _ _).out)))
          refine wpQuiet_nil ?_
          intro w2 hw2
          have hb2 := Lib.hid (regrown_below hw2); clear hw2
          go_wp2_with fail
          go_meet
          exact ⟨congrArg Value.bool HA.out.symm, hb2.out⟩
  case rest =>
    obtain ⟨rfl, hbc⟩ := hcut
    have HB := Lib.hid hbc
    have HPS := Lib.hid (H1.out.below hbc)
    have HTC := Lib.hid (HT.out.below hbc)
    have HZC := Lib.hid (HZ.out.step hbc)
    clear KI c0 c1 HTOK hbc H1 HT HZ
    cases hb : asg (rest P p) with
    | true =>
      have HB1 := Lib.hid hb
      have HI1 : Hid (isB 1 ⟨#[]⟩ (rest P p) = true) := Lib.hid (by
        rw [isB_none]
        unfold asg at hb
        rw [Bool.and_eq_true] at hb
        exact hb.1)
      have HLT : Hid (p + 2 ≤ N) := Lib.hid (by
        unfold asg at hb
        rw [Bool.and_eq_true] at hb
        have h1 := tail_lt hb.2
        rw [rest_tail, rest_tail, rest_len, rest_len, HNN.out] at h1
        omega)
      have hlt := HLT.out
      clear hb
      have KN := Lib.hid (need_yes HPS.out HI1.out)
      rw [HPB.out] at KN
      have hx4 := text_le (p := p) HF.out
      generalize hxx : txt (rest P p) = x at *
      have HXX := Lib.hid hxx; clear hxx
      go_wp2_with fail
      refine KN.out.mono ?_
      rintro e w3 ⟨rfl, h3, ht3⟩
      have h4 := h3.go (p + 2) (by rw [HNN.out]; exact HLT.out)
      have ht4 := (HTC.out.trans ht3).set 1 (.int .i64 ((p : Int) + 1 + 1))
      rw [show ((p + 2 : Nat) : Int) = (p : Int) + 1 + 1 by omega] at h4
      have HPS3 := Lib.hid h4
      have HT3 := Lib.hid ht4
      clear h4 ht4
      have c1 := h3.c1
      have fz := h3.fz 1
      rw [HPB.out] at c1 fz HPS3 HT3
      have HZ3 := Lib.hid (HZC.out.turn ht3 (by rw [HPB.out]; omega))
      have hg3 := HZ3.out.size
      clear h3 ht3 KN
      have KX := Lib.hid (hx P (p + 2) _ HPS3.out (by
        have h1 := HLEN.out
        rw [rest_len, HNN.out] at h1 ⊢
        omega))
      rw [HPB.out] at KX
      have HZ4 := Lib.hid (HZ3.out.turn ((Turn.refl P w3).set 1 (.int .i64 ((p : Int) + 1 + 1))) (by rw [HPB.out]; omega))
      rw [HPB.out] at HZ4
      have hw4 : w.heap.size + 1 ≤ (w3.setCell ⟨pb, 1, none⟩ (.int .i64 ((p : Int) + 1 + 1))).heap.size := by simp [World.setCell]; omega
      go_wp2_with fail
      refine KX.out.mono ?_
      rintro e w5 ⟨v5, t5, q5, b5, rfl, hr5, h5, ht5, hg5⟩
      obtain ⟨xn5, xk5, rfl, hnode5⟩ := hr5
      obtain ⟨za, zl, zc, va, vl, vc, rfl, rfl⟩ := node_forms hnode5
      have HG2 : Hid (G = Got b5 (.mk 5 x 0 [] [t5], rest P q5)) := Lib.hid (by rw [HG.out, expr_asg HB1.out (by rw [rest_tail, rest_tail]; exact hg5), HXX.out])
      have hb9 := put5_below (Below.refl w.heap.size w5) (B := w.heap.size) (Nat.le_refl _) (.int .i64 5) (.string x) (.int .i64 0) (.slice none 0 0) (.slice (some ⟨w5.heap.size, 0, none⟩) 1 1)
      have hs9 : (put5 w5 w.heap.size (.int .i64 5) (.string x) (.int .i64 0) (.slice none 0 0) (.slice (some ⟨w5.heap.size, 0, none⟩) 1 1)).heap.size = w5.heap.size := by simp [put5, World.setCell]
      have hba : ∀ W : World, Below W.heap.size W (W.alloc (.cells #[.int .i64 t5.kind, .string t5.text, .int .i64 t5.num, .slice za zl zc, .slice va vl vc] 25)) := fun W => (Below.refl _ _).alloc (Nat.le_refl _) _
      have HK6 := Lib.hid (lit_one (w := put5 w5 w.heap.size (.int .i64 5) (.string x) (.int .i64 0) (.slice none 0 0) (.slice (some ⟨w5.heap.size, 0, none⟩) 1 1)) (lo := w.heap.size) (NodeAt.keep (lo := w.heap.size) (hi := w.heap.size + 1) (Nat.le_succ _) (kept_put5 w5 (Nat.lt_succ_self _) (.int .i64 5) (.string x) (.int .i64 0) (.slice none 0 0) (.slice (some ⟨w5.heap.size, 0, none⟩) 1 1)) _ _ _ (NodeAt.keep (lo := w.heap.size + 1) hw4 (fun _ _ _ _ hc => hc) _ _ _ hnode5)) (by have := ht5.size; rw [hs9]; omega))
      rw [hs9] at HK6
      have HPS6 := Lib.hid ((h5.low hb9 HLO.out).below (hba _))
      have HT6 := Lib.hid (((HT3.out.trans ht5).low hb9).below (hba _))
      obtain ⟨hsz, z0, z1, z2, z3, z4, fz5⟩ := HZ4.out.turn ht5 (by rw [HPB.out]; omega)
      clear h5 ht5 hg5 hnode5 hba hb9 hs9 fz c1
      go_wp2_with fail
      refine bodyPost_ret (v := .agg #[.int .i64 5, .string x, .int .i64 0, .slice none 0 0, .slice (some ⟨w5.heap.size, 0, none⟩) 1 1]) (by simp [results, Tryz.results10, go_sem, *]) rfl ?_
      exact ⟨_, .mk 5 x 0 [] [t5], q5, b5, rfl, ⟨_, _, rfl, node_iff.2 ⟨by rfl, by rfl, by show x.size ≤ maxLen; unfold maxLen; omega, texts_none _ _, HK6.out.kids⟩⟩, HPS6.out, HT6.out, HG2.out⟩
    | false =>
      have HB0 := Lib.hid hb
      clear hb
      have KB := Lib.hid (binary_read hx HPS.out HLEN.out)
      rw [HPB.out] at KB
      go_wp2_with fail
      refine KB.out.mono ?_
      rintro e w3 ⟨v3, t3, s3, q3, b3, rfl, hr3, h3, ht3, hg3⟩
      obtain ⟨xn, xk, rfl, hnode⟩ := hr3
      obtain ⟨xa, xl, xc, ya, yl, yc, rfl, rfl⟩ := node_forms hnode
      have hba : Below w3.heap.size w3 (w3.alloc (.cells #[.int .i64 t3.kind, .string t3.text, .int .i64 t3.num, .slice xa xl xc, .slice ya yl yc] 25)) := (Below.refl _ _).alloc (Nat.le_refl _) _
      have HPS3 := Lib.hid (h3.below hba)
      have HT3 := Lib.hid ((HTC.out.trans ht3).below hba)
      have HZ3 := Lib.hid ((HZC.out.turn ht3 (by rw [HPB.out]; omega)).step hba)
      have HF3 := Lib.hid (five_new w3 (.int .i64 t3.kind) (.string t3.text) (.int .i64 t3.num) (.slice xa xl xc) (.slice ya yl yc) 25)
      have HN3 := Lib.hid (off_new (B := w3.heap.size) (lo := w.heap.size + 1) (NodeAt.keep HZC.out.size (fun _ _ _ _ hc => hc) _ _ _ hnode) (Nat.le_refl _) (kept_below hba))
      have HG3 : Hid ((b3 = false → p ≤ q3 ∧ binary (expr n) (rest P p) = some (t3, s3, rest P q3)) ∧ (b3 = true → G = none)) := by
        refine Lib.hid ⟨fun e => ?_, fun e => ?_⟩
        · rw [e] at hg3
          refine ⟨?_, hg3⟩
          have := binary_lt (expr_short n) hg3
          rw [rest_len, rest_len] at this
          omega
        · rw [e] at hg3
          rw [HG.out, expr_bad HB0.out hg3]
      have hB3 : w.heap.size < w3.heap.size := Nat.lt_of_lt_of_le HZC.out.size ht3.size
      have hw3 : (w3.alloc (.cells #[.int .i64 t3.kind, .string t3.text, .int .i64 t3.num, .slice xa xl xc, .slice ya yl yc] 25)).heap.size = w3.heap.size + 1 := by simp
      have KK := Lib.hid (key_read hx HPS3.out (fun e => by
        have h1 := HLEN.out
        have h2 := (HG3.out.1 e).1
        rw [rest_len] at h1 ⊢
        omega))
      rw [HPB.out] at KK
      clear h3 ht3 hnode hg3 hba KB
      go_wp2_with fail
      refine KK.out.mono ?_
      rintro e w4 ⟨sel, v4, L, q, b, rfl, hk4, hL, hsel, h4, ht4, hbb, -, hg4⟩
      obtain ⟨ka, kc, hv4, -⟩ := hk4.kids
      have hlt : (trees L).length = L.length := by simp [trees]
      rw [hlt] at hv4
      subst hv4
      rw [hw3] at hk4
      have HK4 := Lib.hid hk4
      have HPS4 := Lib.hid h4
      have HT4 := Lib.hid (HT3.out.trans ht4)
      have HZ4 := Lib.hid (HZ3.out.turn ht4 (by rw [HPB.out]; omega))
      have HF4 := Lib.hid (HF3.out.turn ht4 (by rw [HPB.out]; omega))
      have HN4 := Lib.hid (HN3.out.kept ((ht4.keptW (w := w) (by rw [HPB.out]; exact hpbl)).mono (Nat.le_succ _)))
      have HG4 : Hid ((b = false → b3 = false ∧ G = if sel.size = 0 then cascade (expr n) t3 s3 (rest P q) else cascade (expr n) (eSend t3 sel (trees L)) true (rest P q)) ∧ (b = true → G = none)) := by
        refine Lib.hid ⟨fun e => ?_, fun e => ?_⟩
        · have e3 := hbb e
          have h1 := hg4 e3
          rw [e] at h1
          exact ⟨e3, by rw [HG.out, expr_go HB0.out (HG3.out.1 e3).2 h1]⟩
        · cases b3 with
          | true => exact HG3.out.2 rfl
          | false =>
            have h1 := hg4 rfl
            rw [e] at h1
            rw [HG.out, expr_key HB0.out (HG3.out.1 rfl).2 h1]
      have HQ4 : Hid (b = false → (rest P q).length ≤ n) := Lib.hid (fun e => by
        have e3 := hbb e
        have h1 := hg4 e3
        rw [e] at h1
        have h2 := keyLoop_le _ _ _ _ _ _ _ (Nat.le_refl _) h1
        have h3 := HLEN.out
        have h4 := (HG3.out.1 e3).1
        rw [rest_len P p] at h3
        rw [rest_len P q3] at h2
        omega)
      have hsl : sel.size ≤ 4000 * 801 := hsel
      have h34 := ht4.size
      rw [hw3] at h34
      clear hk4 h4 ht4 hbb hg4 hlt KK hw3 HZ3 HF3 HN3 HT3 HPS3
      go_upto_if 79 with fail
      go_cut [5] from 78 to 83 (fun s5 wx => ∃ (t : E) (s : Bool) (xa : Option Addr) (xl xc : Nat) (ya : Option Addr) (yl yc : Nat), s5 = .bool s ∧ PS P q b wx ∧ Turn P w wx ∧ Zero w.heap.size wx ∧ Five w3.heap.size (.int .i64 t.kind) (.string t.text) (.int .i64 t.num) (.slice xa xl xc) (.slice ya yl yc) wx ∧ Off w3.heap.size (w.heap.size + 1) wx t (.slice xa xl xc) (.slice ya yl yc) ∧ (s = true → b = false → Sent t) ∧ (b = false → G = cascade (expr n) t s (rest P q)) ∧ (b = true → G = none))
      case first =>
        by_cases hs : sel.size = 0
        · have HG5 : Hid (b = false → G = cascade (expr n) t3 s3 (rest P q)) := Lib.hid (fun e => by rw [(HG4.out.1 e).2, if_pos hs])
          have e2 : sel.toList.isEmpty = true := by
            rw [ByteArray.toList_eq, List.isEmpty_iff]
            exact List.eq_nil_of_length_eq_zero (by rw [Array.length_toList]; exact hs)
          have e3 : (!sel.toList.isEmpty) = false := by rw [e2]; rfl
          simp only [e3]
          clear hs e3
          go_wp2_with fail
          go_meet
          refine ⟨t3, s3, xa, xl, xc, ya, yl, yc, rfl, HPS4.out, HT4.out, HZ4.out, HF4.out, HN4.out, fun hs hb => ?_, HG5.out, HG4.out.2⟩
          have h1 := (HG3.out.1 (HG4.out.1 hb).1).2
          rw [hs] at h1
          exact binary_sent h1
        · have HG5 : Hid (b = false → G = cascade (expr n) (eSend t3 sel (trees L)) true (rest P q)) := Lib.hid (fun e => by rw [(HG4.out.1 e).2, if_neg hs])
          have e2 := no_text hs
          have e3 : (!sel.toList.isEmpty) = true := by rw [e2]; rfl
          simp only [e3]
          clear hs e3
          obtain ⟨hsz5, f0, f1, f2, f3, f4, ffz⟩ := HF4.out
          have KS := Lib.hid (send_raw (lo := w.heap.size + 1) (L := L) (s := sel) HN4.out.on (HK4.out.mono (by omega)) (by omega))
          go_wp2_with fail
          refine KS.out.mono ?_
          rintro e w7 ⟨vk', rfl, ho7, hb7⟩
          obtain ⟨ka', kc', rfl⟩ := Kit.row_form ho7
          have HPS7 := Lib.hid (HPS4.out.below hb7)
          have HT7 := Lib.hid (HT4.out.below hb7)
          have HZ7 := Lib.hid (HZ4.out.step hb7)
          have HF7 := Lib.hid (HF4.out.step hb7)
          have HOF7 := Lib.hid (off_send (L := L) (s := sel) HN4.out (fun y hy => off_above (HK4.out.1 y hy) (by omega) (by omega)) (by unfold maxLen; omega) hb7 ho7 (by omega) (by omega))
          clear ho7 hb7 f0 f1 f2 f3 f4 ffz
          obtain ⟨hs3, f0, f1, f2, f3, f4, ffz⟩ := HF7.out
          go_wp2_with fail
          go_meet
          have hb9 := put5_below (Below.refl w.heap.size w7) (B := w3.heap.size) (Nat.le_of_lt hB3) (.int .i64 6) (.string sel) (.int .i64 0) (.slice none 0 0) (.slice ka' (L.length + 1) kc')
          have hb8 := put5_below (Below.refl (w.heap.size + 1) w7) (B := w3.heap.size) hB3 (.int .i64 6) (.string sel) (.int .i64 0) (.slice none 0 0) (.slice ka' (L.length + 1) kc')
          exact ⟨eSend t3 sel (trees L), true, none, 0, 0, ka', L.length + 1, kc', rfl, HPS7.out.low hb9 HLO.out, HT7.out.low hb9, HZ7.out.low hb8 (Nat.lt_succ_self _), five_put HF7.out, HOF7.out.keep (off_put5 w7 _ _ _ _ _), fun _ _ => ⟨_, _, _, rfl⟩, HG5.out, HG4.out.2⟩
      case rest =>
        clear HG3 HG4 HPS4 HT4 HZ4 HF4 HN4 HK4 HB HPS HTC HZC HB0 HG
        obtain ⟨t, s, xa, xl, xc, ya, yl, yc, rfl, hps, htr, hz, hf, hoff, hsent, hgood, hbad⟩ := hcut
        have HPS := Lib.hid hps
        have HTR := Lib.hid htr
        have HZ := Lib.hid hz
        have HFV := Lib.hid hf
        have HOFF := Lib.hid hoff
        have hgw : w.heap.size ≤ wc.heap.size := htr.size
        cases b with
        | true =>
          have c2 := hps.c2
          rw [HPB.out] at c2
          have HG2 : Hid (G = Got true (t, rest P q)) := Lib.hid (hbad rfl)
          clear hps htr hz hoff hsent hgood hbad
          obtain ⟨hsz5, f0, f1, f2, f3, f4, ffz⟩ := hf
          obtain ⟨hszz, y0, y1, y2, y3, y4, yfz⟩ := HZ.out
          go_wp2_with fail
          have hb9 := put5_below (Below.refl w.heap.size (wc)) (B := w.heap.size) (Nat.le_refl _) (.int .i64 t.kind) (.string t.text) (.int .i64 t.num) (.slice xa xl xc) (.slice ya yl yc)
          refine bodyPost_ret (v := .agg #[.int .i64 t.kind, .string t.text, .int .i64 t.num, .slice xa xl xc, .slice ya yl yc]) (by simp [results, Tryz.results10, go_sem, *]) rfl ?_
          exact ⟨_, t, q, true, rfl, ⟨_, _, rfl, NodeAt.keep (lo := w.heap.size) (hi := w.heap.size + 1) (Nat.le_succ _) (kept_put5 (wc) (Nat.lt_succ_self _) _ _ _ _ _) _ _ _ (HOFF.out.on)⟩, (HPS.out).low hb9 HLO.out, (HTR.out).low hb9, HG2.out⟩
        | false =>
          have c2 := hps.c2
          rw [HPB.out] at c2
          have KI := Lib.hid (is_any hps 7 ⟨#[59]⟩)
          rw [HPB.out] at KI
          have HGD := Lib.hid (hgood rfl)
          have HSN := Lib.hid (fun hs : s = true => hsent hs rfl)
          clear hps htr hz hoff hsent hgood hbad hf
          cases hb : isB 7 ⟨#[59]⟩ (rest P q) with
          | false =>
            have HG2 : Hid (G = Got false (t, rest P q)) := Lib.hid (by rw [HGD.out, cascade_no (by rw [← isB_semi]; exact hb)]; rfl)
            rw [hb] at KI
            clear hb
            go_wp2_with fail
            refine KI.out.mono ?_
            rintro e w6 ⟨rfl, hd⟩
            have HPS6 := Lib.hid (HPS.out.drawn hd)
            have HTR6 := Lib.hid (HTR.out.drawn hd)
            have HOF6 := Lib.hid (HOFF.out.kept (kept_below hd.below))
            obtain ⟨hsz6, f0, f1, f2, f3, f4, ffz⟩ := HFV.out.step hd.below
            obtain ⟨hszz, y0, y1, y2, y3, y4, yfz⟩ := HZ.out.step hd.below
            clear hd KI c2
            go_wp2_with fail
            have hb9 := put5_below (Below.refl w.heap.size (w6)) (B := w.heap.size) (Nat.le_refl _) (.int .i64 t.kind) (.string t.text) (.int .i64 t.num) (.slice xa xl xc) (.slice ya yl yc)
            refine bodyPost_ret (v := .agg #[.int .i64 t.kind, .string t.text, .int .i64 t.num, .slice xa xl xc, .slice ya yl yc]) (by simp [results, Tryz.results10, go_sem, *]) rfl ?_
            exact ⟨_, t, q, false, rfl, ⟨_, _, rfl, NodeAt.keep (lo := w.heap.size) (hi := w.heap.size + 1) (Nat.le_succ _) (kept_put5 (w6) (Nat.lt_succ_self _) _ _ _ _ _) _ _ _ (HOF6.out.on)⟩, (HPS6.out).low hb9 HLO.out, (HTR6.out).low hb9, HG2.out⟩
          | true =>
            have HB := Lib.hid hb
            rw [hb] at KI
            clear hb
            cases s with
            | false =>
              have HG2 : Hid (G = Got true (t, rest P q)) := Lib.hid (by rw [HGD.out, cascade_unsent (by rw [← isB_semi]; exact HB.out)]; rfl)
              go_wp2_with fail
              refine KI.out.mono ?_
              rintro e w6 ⟨rfl, hd⟩
              have h6 := HPS.out.drawn hd
              have ht6 := HTR.out.drawn hd
              have tc := (Turn.refl P w6).set 2 (.bool true)
              rw [HPB.out] at tc
              have HPS6 := Lib.hid h6.no
              have HTR6 := Lib.hid (ht6.trans tc)
              rw [HPB.out] at HPS6
              have fzp := h6.fz 2
              have c26 := h6.c2
              rw [HPB.out] at fzp c26
              have HOF6 := Lib.hid ((HOFF.out.kept (kept_below hd.below)).kept ((tc.keptW (w := w) (by rw [HPB.out]; exact hpbl)).mono (Nat.le_succ _)))
              obtain ⟨hsz6, f0, f1, f2, f3, f4, ffz⟩ := HFV.out.step hd.below
              obtain ⟨hszz, y0, y1, y2, y3, y4, yfz⟩ := HZ.out.step hd.below
              clear hd KI c2 h6 ht6 tc
              go_wp2_with fail
              have hb9 := put5_below (Below.refl w.heap.size (w6.setCell ⟨pb, 2, none⟩ (.bool true))) (B := w.heap.size) (Nat.le_refl _) (.int .i64 t.kind) (.string t.text) (.int .i64 t.num) (.slice xa xl xc) (.slice ya yl yc)
              refine bodyPost_ret (v := .agg #[.int .i64 t.kind, .string t.text, .int .i64 t.num, .slice xa xl xc, .slice ya yl yc]) (by simp [results, Tryz.results10, go_sem, *]) rfl ?_
              exact ⟨_, t, q, true, rfl, ⟨_, _, rfl, NodeAt.keep (lo := w.heap.size) (hi := w.heap.size + 1) (Nat.le_succ _) (kept_put5 (w6.setCell ⟨pb, 2, none⟩ (.bool true)) (Nat.lt_succ_self _) _ _ _ _ _) _ _ _ (HOF6.out.on)⟩, (HPS6.out).low hb9 HLO.out, (HTR6.out).low hb9, HG2.out⟩
            | true =>
              obtain ⟨e0, sl, args, ht⟩ := HSN.out rfl
              subst ht
              go_wp2_with fail
              refine KI.out.mono ?_
              rintro e w6 ⟨rfl, hd⟩
              have HPS6 := Lib.hid (HPS.out.drawn hd)
              have HTR6 := Lib.hid (HTR.out.drawn hd)
              have HOF6 := Lib.hid (HOFF.out.kept (kept_below hd.below))
              have HZ6 := Lib.hid (HZ.out.step hd.below)
              obtain ⟨hsz6, f0, f1, f2, f3, f4, ffz⟩ := HFV.out.step hd.below
              clear hd KI c2
              obtain ⟨-, -, htx, -, hkids⟩ := node_iff.1 HOF6.out.on
              obtain ⟨L0, hL0, hK0⟩ := kids_items hkids (by simp [eSend, E.kids])
              cases L0 with
              | nil => simp [trees, eSend, E.kids] at hL0
              | cons x0 L1 =>
                obtain ⟨x0e, x0n, x0k⟩ := x0
                have hn0 := hK0.1 _ (List.mem_cons_self ..)
                obtain ⟨za, zl, zc, va, vl, vc, rfl, rfl⟩ := node_forms hn0
                obtain ⟨bk, ok, ck, hv, m1, m2, hbk, hc⟩ : ∃ bk ok ck, Value.slice ya yl yc = .slice (some ⟨bk, ok, none⟩) (L1.length + 1) ck ∧ L1.length + 1 ≤ ck ∧ ck ≤ maxLen ∧ w.heap.size + 1 ≤ bk ∧ ∀ j u, (row5 ((x0e, .slice za zl zc, .slice va vl vc) :: L1))[j]? = some u → w6.cell? ⟨bk, ok + j, none⟩ = some u := by
                  rcases hK0.2 with ⟨-, h⟩ | ⟨bk, ok, ck, hv, m1, m2, hbk, hc⟩
                  · cases h
                  · exact ⟨bk, ok, ck, hv, m1, m2, hbk, hc⟩
                injection hv with hv1 hv2 hv3
                subst hv1 hv2 hv3
                have g0 := hc 0 _ rfl
                have g1 := hc 1 _ rfl
                have g2 := hc 2 _ rfl
                have g3 := hc 3 _ rfl
                have g4 := hc 4 _ rfl
                rw [Nat.add_zero] at g0
                simp only [eSend, E.kind, E.text, E.num] at f0 f1 f2 f3
                have HK0 := Lib.hid hK0
                have HC := Lib.hid hc
                have HL0 := Lib.hid hL0
                have HTX := Lib.hid htx
                clear hK0 hc hL0 htx hn0 hkids
                unfold maxLen at m2
                go_wp2_with fail
                go_region
                obtain ⟨i0, hi, hz0, hz1, hz2⟩ := info_parts infoE
                have hx0 : x0e = e0 := by
                  have := HL0.out
                  simp [trees, eSend, E.kids] at this
                  exact this.1
                have hx1 : trees L1 = args := by
                  have := HL0.out
                  simp [trees, eSend, E.kids] at this
                  simp [trees]
                  exact this.2
                have HW8 := Lib.hid (out_two (base := w.heap.size + 1) (lo := w.heap.size + 1) (w := w6) (x := (x0e, .slice za zl zc, .slice va vl vc)) (y := (eMsg sl args, .slice none 0 0, .slice (if yc = 1 then some ⟨bk, ok, none⟩ else some ⟨bk, ok + 5, none⟩) L1.length (yc - 1)))
                  (HK0.out.1 _ (List.mem_cons_self ..)) (node_iff.2 ⟨by rfl, by rfl, HTX.out, texts_none _ _, by
                    have := kids_tail (lo := w.heap.size + 1) (w := w6) (x := (x0e, .slice za zl zc, .slice va vl vc)) (L := L1) (bk := bk) (ok := ok) (ck := yc) (fun y hy => HK0.out.1 y (List.mem_cons_of_mem _ hy)) m1 (by unfold maxLen; omega) hbk HC.out
                    rw [hx1] at this
                    exact this⟩) (Nat.le_refl _) HZ6.out.size)
                have hb8 : Below w6.heap.size w6 (w6.alloc (.cells #[.int .i64 x0e.kind, .string x0e.text, .int .i64 x0e.num, .slice za zl zc, .slice va vl vc, .int .i64 6, .string sl, .int .i64 0, .slice none 0 0, .slice (if yc = 1 then some ⟨bk, ok, none⟩ else some ⟨bk, ok + 5, none⟩) L1.length (yc - 1)] 25)).drew := ((Below.refl _ _).alloc (Nat.le_refl _) _).drew
                have HPS8 := Lib.hid (HPS6.out.below hb8)
                have HT8 := Lib.hid (HTR6.out.below hb8)
                have HZ8 := Lib.hid (HZ6.out.step hb8)
                have HT2 : Hid (trees [((x0e, .slice za zl zc, .slice va vl vc) : Item), (eMsg sl args, .slice none 0 0, .slice (if yc = 1 then some ⟨bk, ok, none⟩ else some ⟨bk, ok + 5, none⟩) L1.length (yc - 1))] = [e0, eMsg sl args]) := Lib.hid (by rw [← hx0]; rfl)
                clear hb8 HK0 HC HL0 HTX hx0 hx1 HOF6 HZ6 HPS6 HTR6 g0 g1 g2 g3 g4 f0 f1 f2 f3 f4 ffz
                generalize (if yc = 1 then some ⟨bk, ok, none⟩ else some ⟨bk, ok + 5, none⟩ : Option Addr) = sa at *
                generalize hC : casLoop (expr n) [e0, eMsg sl args] (rest P q) = C
                have HCC := Lib.hid hC
                have HGC : Hid (∀ b ks r1, C = Got b (ks, r1) → G = Got b (.mk 7 none_ 0 [] ks, r1)) := Lib.hid (fun b ks r1 h => by rw [HGD.out, cascade_got (by rw [← isB_semi]; exact HB.out) (hC.trans h)])
                clear hC
                have HLO1 := Lib.hid (HLO.out.le (Nat.le_succ w.heap.size))
                have hqN := HPS8.out.le
                rw [HNN.out] at hqN
                have HLQ : Hid ((rest P q).length ≤ n) := Lib.hid (HQ4.out (by simp))
                go_wp2_with fail
                go_loopw [8] (fun v wr => ∃ (L2 : List Item) (q2 : Nat) (b : Bool), L2.length ≤ N + 2 ∧ PS P q2 b wr ∧ Turn P w wr ∧ Zero w.heap.size wr ∧ Out (w.heap.size + 1) wr L2 v ∧ (b = false → q ≤ q2 ∧ L2.length ≤ q2 + 2 ∧ C = casLoop (expr n) (trees L2) (rest P q2)) ∧ (b = true → C = none)) (fun _ wr => left pb N wr)
                case atStart => exact ⟨_, q, false, by simp, HPS8.out, HT8.out, HZ8.out, HW8.out, fun _ => ⟨Nat.le_refl _, by simp, by rw [HT2.out, HCC.out]⟩, fun h => nomatch h⟩
                case round =>
                  clear HW8 HPS8 HT8 HZ8 HT2 HCC
                  obtain ⟨L2, q2, b, hLN, hps, htr, hz, hout, hgood, hbad⟩ := hrel
                  have HPS := Lib.hid hps
                  have HTR := Lib.hid htr
                  have HZ2 := Lib.hid hz
                  have HOUT := Lib.hid hout
                  have c2 := hps.c2
                  rw [HPB.out] at c2
                  obtain ⟨ra, rc, rfl⟩ := hout.form
                  have hgw : w.heap.size ≤ wr.heap.size := htr.size
                  have hzs := hz.size
                  clear hps htr hout hz
                  cases b with
                  | true =>
                    have HG2 : Hid (G = Got true (.mk 7 none_ 0 [] (trees L2), rest P q2)) := Lib.hid (HGC.out _ _ _ (hbad rfl))
                    clear hbad hgood
                    obtain ⟨hszz, y0, y1, y2, y3, y4, yfz⟩ := HZ2.out
                    go_wp2_with fail
                    have hb9 := put5_below (Below.refl w.heap.size wr) (B := w.heap.size) (Nat.le_refl _) (.int .i64 7) (.string ⟨#[]⟩) (.int .i64 0) (.slice none 0 0) (.slice ra L2.length rc)
                    refine bodyPost_ret (v := .agg #[.int .i64 7, .string ⟨#[]⟩, .int .i64 0, .slice none 0 0, .slice ra L2.length rc]) (by simp [results, Tryz.results10, go_sem, *]) rfl ?_
                    exact ⟨_, .mk 7 none_ 0 [] (trees L2), q2, true, rfl, ⟨_, _, rfl, node_iff.2 ⟨by rfl, by rfl, Nat.zero_le _, texts_none _ _, ((HOUT.out.kids.keep (kept_put5 wr (Nat.lt_succ_self _) _ _ _ _ _)).mono (Nat.le_succ _)).kids⟩⟩, HPS.out.low hb9 HLO.out, HTR.out.low hb9, HG2.out⟩
                  | false =>
                    have HGO := Lib.hid (hgood rfl)
                    clear hbad hgood
                    have hlf : Hid (left pb N wr = 1 + (N - q2)) := Lib.hid (by rw [← HPB.out]; exact HPS.out.left_go N)
                    cases hb : isB 7 ⟨#[59]⟩ (rest P q2) with
                    | false =>
                      have HG2 : Hid (G = Got false (.mk 7 none_ 0 [] (trees L2), rest P q2)) := Lib.hid (HGC.out _ _ _ (by rw [HGO.out.2.2, cas_stop (by rw [← isB_semi]; exact hb)]; rfl))
                      have KT := Lib.hid (take_no HPS.out hb)
                      rw [HPB.out] at KT
                      clear hb
                      go_wp2_with fail
                      refine KT.out.mono ?_
                      rintro e w7 ⟨rfl, h7, ht7⟩
                      have HPS7 := Lib.hid h7
                      have HTR7 := Lib.hid (HTR.out.trans ht7)
                      have HO7 := Lib.hid (HOUT.out.turn ht7 (by rw [HPB.out]; omega))
                      obtain ⟨hszz, y0, y1, y2, y3, y4, yfz⟩ := HZ2.out.turn ht7 (by rw [HPB.out]; omega)
                      clear h7 ht7 KT c2
                      go_wp2_with fail
                      have hb9 := put5_below (Below.refl w.heap.size w7) (B := w.heap.size) (Nat.le_refl _) (.int .i64 7) (.string ⟨#[]⟩) (.int .i64 0) (.slice none 0 0) (.slice ra L2.length rc)
                      refine bodyPost_ret (v := .agg #[.int .i64 7, .string ⟨#[]⟩, .int .i64 0, .slice none 0 0, .slice ra L2.length rc]) (by simp [results, Tryz.results10, go_sem, *]) rfl ?_
                      exact ⟨_, .mk 7 none_ 0 [] (trees L2), q2, false, rfl, ⟨_, _, rfl, node_iff.2 ⟨by rfl, by rfl, Nat.zero_le _, texts_none _ _, ((HO7.out.kids.keep (kept_put5 w7 (Nat.lt_succ_self _) _ _ _ _ _)).mono (Nat.le_succ _)).kids⟩⟩, HPS7.out.low hb9 HLO.out, HTR7.out.low hb9, HG2.out⟩
                    | true =>
                      have HB2 := Lib.hid hb
                      have hq2 := isB_lt hb
                      rw [HNN.out] at hq2
                      have KT := Lib.hid (take_yes HPS.out hb)
                      rw [HPB.out] at KT
                      clear hb
                      go_wp2_with fail
                      refine KT.out.mono ?_
                      rintro e w7 ⟨rfl, h7, ht7⟩
                      have KM := Lib.hid (message_read hx h7 (by
                        have h1 := HLQ.out
                        have h2 := HGO.out.1
                        rw [rest_len] at h1 ⊢
                        omega))
                      rw [HPB.out] at KM
                      have HT7 := Lib.hid (HTR.out.trans ht7)
                      have HO7 := Lib.hid (HOUT.out.turn ht7 (by rw [HPB.out]; omega))
                      have HZ7 := Lib.hid (HZ2.out.turn ht7 (by rw [HPB.out]; omega))
                      have hg7 := HZ7.out.size
                      clear h7 ht7 KT c2
                      go_wp2_with fail
                      refine KM.out.mono ?_
                      rintro e w9 ⟨v9, t9, q9, b9, rfl, hr9, h9, ht9, hg9⟩
                      obtain ⟨xn9, xk9, rfl, hnode9⟩ := hr9
                      have HNODE := Lib.hid hnode9
                      have HPS9 := Lib.hid h9
                      have HT9 := Lib.hid (HT7.out.trans ht9)
                      have HO9 := Lib.hid (HO7.out.turn ht9 (by rw [HPB.out]; omega))
                      have HZ9 := Lib.hid (HZ7.out.turn ht9 (by rw [HPB.out]; omega))
                      have HBL9 := Lib.hid (own_lt HO7.out)
                      have hg9' : w.heap.size + 1 ≤ w9.heap.size := Nat.le_trans hg7 ht9.size
                      have HONE := Lib.hid (node_one (x := (t9, xn9, xk9)) hnode9)
                      have HQ9 : Hid ((b9 = false → q2 + 1 < q9 ∧ C = casLoop (expr n) (trees (L2 ++ [(t9, xn9, xk9)])) (rest P q9)) ∧ (b9 = true → C = none)) := by
                        refine Lib.hid ⟨fun e => ?_, fun e => ?_⟩
                        · rw [e] at hg9
                          refine ⟨?_, ?_⟩
                          · have h1 := message_lt (expr_short n) hg9
                            rw [rest_len, rest_len] at h1
                            omega
                          · rw [HGO.out.2.2, cas_go (expr_short n) (by rw [← isB_semi]; exact HB2.out) (by rw [rest_tail]; exact hg9), trees_append]; rfl
                        · rw [e] at hg9
                          rw [HGO.out.2.2, cas_none (by rw [← isB_semi]; exact HB2.out) (by rw [rest_tail]; exact hg9)]
                      clear h9 ht9 hg9 hnode9 KM
                      go_wp2_with (at_builtin; go_must (refine wpList_append_own_at _ rfl _ _ 23 rfl (w.heap.size + 1) 25 i0 (.agg #[.int .i64 0, .string ByteArray.empty, .int .i64 0, .slice none 0 0, .slice none 0 0]) 5 80 Tryz.underlying23 hi hz0 hz1 hz2 rfl (by decide) _ L2.length (row5 L2) rfl (HO9.out.below ((Below.refl _ _).alloc (Nat.le_refl _) _)).own ⟨w9.heap.size, 0, none⟩ 1 1 (row5 [(t9, xn9, xk9)]) rfl rfl ?c1 ?c2 ?c3 ?c4 ?c5 ?_))
                      case c1 => exact five_cells w9 (t9, xn9, xk9) _
                      case c2 => exact all_one (w := w9) (L := [(t9, xn9, xk9)]) (fun y hy => by rw [List.mem_singleton.1 hy]; exact HNODE.out)
                      case c3 => unfold maxLen; omega
                      case c4 => omega
                      case c5 => simp; omega
                      intro v10 w10 hown hgr hnn hat
                      have HO10 : Hid (Out (w.heap.size + 1) w10 (L2 ++ [(t9, xn9, xk9)]) v10) := Lib.hid (HO9.out.app (l1 := w7.heap.size) HNODE.out hg7 HBL9.out hown hgr hat hnn)
                      have hlow := app_low (base := w.heap.size + 1) hg9' HO9.out.own hgr
                      have HPS10 := Lib.hid (HPS9.out.low hlow HLO1.out)
                      have HT10 := Lib.hid (HT9.out.low (hlow.mono (Nat.le_succ _)))
                      have HZ10 := Lib.hid (HZ9.out.low hlow (Nat.lt_succ_self _))
                      clear hown hgr hnn hat hlow
                      go_wp2_with fail
                      go_roundw
                      case rel =>
                        have h4 := HGO.out.2.1
                        refine ⟨L2 ++ [(t9, xn9, xk9)], q9, b9, by simp; omega, HPS10.out, HT10.out, HZ10.out, HO10.out, fun e => ?_, HQ9.out.2⟩
                        obtain ⟨h1, h2⟩ := HQ9.out.1 e
                        have h3 := HGO.out.1
                        exact ⟨by omega, by simp; omega, h2⟩
                      case measure =>
                        rw [hlf.out]
                        cases b9 with
                        | true =>
                          have := HPS10.out.left_bad N
                          rw [HPB.out] at this
                          omega
                        | false =>
                          have h2 := HPS10.out.left_go N
                          rw [HPB.out] at h2
                          have h3 := (HQ9.out.1 rfl).1
                          omega
theorem expr_step {n : Nat} (hx : XC n) : XC (n + 1) := fun _ _ _ h hn => expr_read hx h (Nat.le_of_lt_succ hn)
theorem expr_all : ∀ n, XC n
  | 0 => fun _ _ _ _ hn => absurd hn (Nat.not_lt_zero _)
  | n + 1 => expr_step (expr_all n)
end Go.Proofs.YtbflpocbjdccgaaGreatDoor.Parser
