/-
  The model's parser: blocks.
-/
import Derived.Test.YtbflpocbjdccgaaGreatDoorBParseStat
import Derived.Test.YtbflpocbjdccgaaGreatDoorBParseNames
namespace Go.Proofs.YtbflpocbjdccgaaGreatDoor.Parser
open Go.RowKit
open Strs Tree Gram

theorem isB_colon (r : R) : isB 7 ⟨#[58]⟩ r = mk cColon r := isB_mk cColon (by decide) r
theorem isB_bar (r : R) : isB 7 ⟨#[124]⟩ r = mk cBar r := isB_mk cBar (by decide) r
theorem isB_right (r : R) : isB 7 ⟨#[93]⟩ r = mk cRight r := isB_mk cRight (by decide) r
theorem par_stop {ps : List ByteArray} {r : R} (h : mk cColon r = false) : parLoop ps r = some (ps, r) := by
  match r, h with
  | [], _ => rw [parLoop]
  | [t], h => rw [parLoop, if_neg (by rw [h]; simp)]
  | t :: u :: r, h => rw [parLoop, if_neg (by rw [show mk cColon [t] = mk cColon (t :: u :: r) from rfl, h]; simp)]
theorem par_no {ps : List ByteArray} {r : R} (h : mk cColon r = true) (h2 : hd 1 r.tail = false) : parLoop ps r = none := by
  match r, h, h2 with
  | [t], h, _ => rw [parLoop, if_pos h]
  | t :: u :: r, h, h2 =>
    rw [parLoop, if_pos (show mk cColon [t] = true from h), if_neg]
    simpa [hd] using h2
theorem par_go {ps : List ByteArray} {r : R} (h : mk cColon r = true) (h2 : hd 1 r.tail = true) : parLoop ps r = parLoop (ps ++ [txt r.tail]) r.tail.tail := by
  match r, h, h2 with
  | [t], _, h2 => cases h2
  | t :: u :: r, h, h2 =>
    rw [parLoop, if_pos (show mk cColon [t] = true from h), if_pos]
    · rfl
    · simpa [hd] using h2
/-- A block is read if all its parts are. -/
theorem block_back {P : Cst} {ex : X} {r0 : R} {ps ts : List ByteArray} {ks : List E} {q1 q2 q3 q4 q5 : Nat} {b1 b2 b3 b4 b5 : Bool}
    (h1 : parLoop [] r0 = Got b1 (ps, rest P q1))
    (h2 : (b2 = false → b1 = false ∧ ((ps.length = 0 ∧ q2 = q1) ∨ (¬ ps.length = 0 ∧ mk cBar (rest P q1) = true ∧ q2 = q1 + 1))) ∧ (b2 = true → b1 = true ∨ (¬ ps.length = 0 ∧ mk cBar (rest P q1) = false)))
    (h3 : (b3 = false → b2 = false ∧ names (rest P q2) = some (ts, rest P q3)) ∧ (b3 = true → b2 = true ∨ names (rest P q2) = none))
    (h4 : (b3 = true → b4 = true) ∧ (b3 = false → stLoop ex [] (rest P q3) = Got b4 (ks, rest P q4)))
    (h5 : (b5 = false → b4 = false ∧ mk cRight (rest P q4) = true ∧ q5 = q4 + 1) ∧ (b5 = true → b4 = true ∨ mk cRight (rest P q4) = false)) :
    block ex r0 = Got b5 (eBlock ps ts ks, rest P q5) := by
  unfold block
  rw [h1]
  cases b1 with
  | true =>
    have e2 : b2 = true := by cases b2 with | true => rfl | false => exact (h2.1 rfl).1.symm
    have e3 : b3 = true := by cases b3 with | true => rfl | false => exact ((h3.1 rfl).1.symm.trans e2)
    have e4 := h4.1 e3
    have e5 : b5 = true := by cases b5 with | true => rfl | false => exact ((h5.1 rfl).1.symm.trans e4)
    rw [e5]; rfl
  | false =>
    simp only [Got, Bool.false_eq_true, if_false]
    cases b2 with
    | true =>
      obtain h | h := h2.2 rfl
      · cases h
      have e3 : b3 = true := by cases b3 with | true => rfl | false => exact (h3.1 rfl).1.symm
      have e4 := h4.1 e3
      have e5 : b5 = true := by cases b5 with | true => rfl | false => exact ((h5.1 rfl).1.symm.trans e4)
      rw [if_neg (by rw [h.2]; simp [h.1]), e5]; rfl
    | false =>
      obtain ⟨-, h2⟩ := h2.1 rfl
      have hc : ps.length = 0 ∨ mk cBar (rest P q1) = true := by
        rcases h2 with h | h
        · exact .inl h.1
        · exact .inr h.2.1
      have hr : (if ps.length = 0 then rest P q1 else (rest P q1).tail) = rest P q2 := by
        rcases h2 with h | h
        · rw [if_pos h.1, h.2]
        · rw [if_neg h.1, rest_tail, h.2.2]
      rw [if_pos hc, hr]
      cases b3 with
      | true =>
        obtain h | h := h3.2 rfl
        · cases h
        have e4 := h4.1 rfl
        have e5 : b5 = true := by cases b5 with | true => rfl | false => exact ((h5.1 rfl).1.symm.trans e4)
        rw [h, e5]; rfl
      | false =>
        rw [(h3.1 rfl).2]
        simp only
        rw [h4.2 rfl]
        cases b4 with
        | true =>
          have e5 : b5 = true := by cases b5 with | true => rfl | false => exact (h5.1 rfl).1.symm
          rw [e5]; rfl
        | false =>
          simp only [Got, Bool.false_eq_true, if_false]
          cases b5 with
          | true =>
            obtain h | h := h5.2 rfl
            · cases h
            rw [if_neg (by rw [h]; simp)]; rfl
          | false =>
            obtain ⟨-, h6, rfl⟩ := h5.1 rfl
            rw [if_pos h6, rest_tail]; rfl
/-- What the reader of statements hands back, whether something was wrong before or not. -/
def StBack2 (P : Cst) (w : World) (b : Bool) (g : Option (List E × R)) (e : Ending) (w' : World) : Prop :=
  ∃ v L q b', e = .returned v ∧ Kids5 w.heap.size w' L v ∧ PS P q b' w' ∧ Turn P w w' ∧ (b = true → b' = true) ∧ (b = false → g = Got b' (trees L, rest P q))
theorem st_both {n : Nat} (hx : XC n) {P : Cst} {p : Nat} {b : Bool} {w : World} (h : PS P p b w) (hn : b = false → (rest P p).length < n) :
    Calls Tryz.prog 122 #[.pointer (some ⟨P.pb, 0, none⟩)] w (StBack2 P w b (stLoop (expr n) [] (rest P p))) := by
  cases b with
  | true =>
    refine (st_bad h).mono ?_
    rintro e w' ⟨v, L, q, b, he, h1, h2, h3, h4⟩
    have hb : b = true := by
      cases b with
      | true => rfl
      | false => cases h4
    exact ⟨v, L, q, b, he, h1, h2, h3, fun _ => hb, (fun e => nomatch e)⟩
  | false =>
    refine (st_any hx h (hn rfl)).mono ?_
    rintro e w' ⟨v, L, q, b, he, h1, h2, h3, h4⟩
    exact ⟨v, L, q, b, he, h1, h2, h3, (fun e => nomatch e), fun _ => h4⟩
theorem Turn.keptW {P : Cst} {w a b : World} (h : Turn P a b) (hp : P.pb < w.heap.size) : Kept w.heap.size a b := h.kept.mono (by omega)

set_option maxRecDepth 10000 in
set_option maxHeartbeats 8000000 in
theorem block_read {n : Nat} (hx : XC n) {P : Cst} {p : Nat} {w : World} (h : PS P p false w) (hn : (rest P p).length < n) :
    Calls Tryz.prog 101 #[.pointer (some ⟨P.pb, 0, none⟩)] w (Back P w (block (expr n) (rest P p))) := by
  obtain ⟨i0, hi, hz0, hz1, hz2⟩ := info_parts infoS
  have KT1 := fun (w1 : World) (q : Nat) (b : Bool) (c : ByteArray) (h1 : PS P q b w1) (hb : isB 7 c (rest P q) = true) => Lib.hid (take_yes h1 hb)
  have KT0 := fun (w1 : World) (q : Nat) (b : Bool) (c : ByteArray) (h1 : PS P q b w1) (hb : isB 7 c (rest P q) = false) => Lib.hid (take_no h1 hb)
  have KN := fun (w1 : World) (q : Nat) (b : Bool) (k : Int) (c : ByteArray) (h1 : PS P q b w1) => Lib.hid (need_any h1 k c)
  have KM := fun (w1 : World) (q : Nat) (b : Bool) (h1 : PS P q b w1) => Lib.hid (names_any h1)
  have KS := fun (w1 : World) (q : Nat) (b : Bool) (h1 : PS P q b w1) (hl : b = false → (rest P q).length < n) => Lib.hid (st_both hx h1 hl)
  have hb0 : Below w.heap.size w ((w.alloc (.cells #[.int .i64 0, .string ⟨#[]⟩, .int .i64 0, .slice none 0 0, .slice none 0 0] 25)).alloc (.cells #[] 9)) := ((Below.refl _ _).alloc (Nat.le_refl _) _).alloc (by simp) _
  have H1 := Lib.hid (h.below hb0)
  have HT := Lib.hid ((Turn.refl P w).low hb0)
  have HZ : Hid (Zero w.heap.size ((w.alloc (.cells #[.int .i64 0, .string ⟨#[]⟩, .int .i64 0, .slice none 0 0, .slice none 0 0] 25)).alloc (.cells #[] 9))) := Lib.hid ((zero_new w _).step ((Below.refl _ _).alloc (Nat.le_refl _) _))
  have HO : Hid (((w.alloc (.cells #[.int .i64 0, .string ⟨#[]⟩, .int .i64 0, .slice none 0 0, .slice none 0 0] 25)).alloc (.cells #[] 9)).ownsRow (w.heap.size + 1) 9 1 (.slice (some ⟨w.heap.size + 1, 0, none⟩) 0 0) 0 ([].map Value.string)) := by
    have e1 : (w.alloc (.cells #[.int .i64 0, .string ⟨#[]⟩, .int .i64 0, .slice none 0 0, .slice none 0 0] 25)).heap.size = w.heap.size + 1 := by simp
    have := World.ownsRow_lit (base := w.heap.size + 1) (e := 9) (size := 1) (w.alloc (.cells #[.int .i64 0, .string ⟨#[]⟩, .int .i64 0, .slice none 0 0, .slice none 0 0] 25)) #[] 0 (by rw [e1]; exact Nat.le_refl _) (Nat.zero_le _) rfl
    rw [e1] at this
    exact this
  have HLO := Lib.hid (h.lo.le (Nat.le_succ _))
  have HLO0 := Lib.hid h.lo
  have hpbl := h.size
  have h8 := h.fit.len
  have hpl := h.le
  have HN := Lib.hid hn
  clear h hn hx hb0
  generalize hpb : P.pb = pb at *
  generalize hNN : P.toks.length = N at *
  have HPB := Lib.hid hpb; clear hpb
  have HNN := Lib.hid hNN; clear hNN
  go_enter Tryz.func101, Tryz.ntmps101
  go_wp2_with fail
  go_loopw [3] (fun v wr => ∃ (ps : List ByteArray) (q : Nat) (b : Bool), p ≤ q ∧ q ≤ N ∧ ps.length ≤ q ∧ (∀ x, x ∈ ps → x.size ≤ maxLen) ∧ PS P q b wr ∧ Turn P w wr ∧ wr.ownsRow (w.heap.size + 1) 9 1 v ps.length (ps.map Value.string) ∧ v ≠ .slice none 0 0 ∧ Zero w.heap.size wr ∧ (b = false → parLoop [] (rest P p) = parLoop ps (rest P q)) ∧ (b = true → parLoop [] (rest P p) = none)) (fun _ wr => N - plc pb wr)
  case atStart => exact ⟨[], p, false, Nat.le_refl _, hpl, Nat.zero_le _, (fun _ h => nomatch h), H1.out, HT.out, HO.out, by simp, HZ.out, fun _ => rfl, (fun h => nomatch h)⟩
  case round =>
    obtain ⟨ps, q, b, hpq, hqN, hlen, hsz, hps, htr, hown, hnn, hz, hgood, hbad⟩ := hrel
    have hps' := hps
    have HSZ := Lib.hid hsz; clear hsz
    have HPS := Lib.hid hps
    have HTR := Lib.hid htr
    have HO1 := Lib.hid hown
    have HNL := Lib.hid hnn
    have HZ1 := Lib.hid hz
    have HGD := Lib.hid (And.intro hgood hbad); clear hgood hbad
    have hpl2 : plc pb wr = q := by rw [← HPB.out]; exact hps'.plc
    have HPL := Lib.hid hpl2
    have hgw := Nat.le_trans (Nat.le_succ w.heap.size) (show w.heap.size + 1 ≤ wr.heap.size from hz.size)
    obtain ⟨ra, rc, rfl⟩ := Kit.row_form hown
    clear hps hps' htr hown hnn hz hpl2
    cases hcol : isB 7 ⟨#[58]⟩ (rest P q) with
    | true =>
      have hq4 : q < N := by rw [← HNN.out]; exact isB_lt hcol
      have HCOL := Lib.hid (hcol.symm.trans (isB_colon _)).symm
      have K := KT1 wr q b _ HPS.out hcol
      clear hcol
      go_wp2_with fail
      refine K.out.mono ?_
      rintro e w2 ⟨rfl, h2, ht2⟩
      have H2 := Lib.hid h2
      have HT2 := Lib.hid (HTR.out.trans ht2)
      have HZ2 := Lib.hid (HZ1.out.turn ht2 (by rw [HPB.out]; omega))
      have HO2 := Lib.hid (own_turn HO1.out ht2 (by rw [HPB.out]; omega))
      clear h2 ht2 K
      go_wp2_with fail
      refine (KN _ _ _ _ _ H2.out).out.mono ?_
      rintro e w3 ⟨x, q3, b3, rfl, h3, ht3, hxs, hq3, hy1, hy2⟩
      have H3 := Lib.hid h3
      have HT3 := Lib.hid (HT2.out.trans ht3)
      have HZ3 := Lib.hid (HZ2.out.turn ht3 (by rw [HPB.out]; omega))
      have HO3 := Lib.hid (own_turn HO2.out ht3 (by rw [HPB.out]; omega))
      have HY := Lib.hid (And.intro hy1 hy2); clear hy1 hy2
      have hg3 : w.heap.size + 1 ≤ w3.heap.size := HZ3.out.size
      have hq3N : q3 ≤ N := by rw [← HNN.out]; exact h3.le
      clear h3 ht3
      go_wp2_with (at_builtin; go_must (refine wpList_append_own _ rfl _ _ 22 rfl (w.heap.size + 1) 9 i0 (.string ByteArray.empty) 1 16 Tryz.underlying22 hi hz0 hz1 hz2 rfl (by decide) _ _ _ rfl (HO3.out.alloc _) ⟨w3.heap.size, 0, none⟩ 1 1 [.string x] rfl rfl ?c1 ?c2 ?c3 ?c4 ?c5 ?_))
      case c1 => exact Kit.one_cells _ _ _
      case c2 => exact Kit.one_str _
      case c3 => unfold maxLen; omega
      case c4 => omega
      case c5 => simp; omega
      intro v' w4 hown' hgr hnn'
      have HOWN := Lib.hid hown'
      have HNL' : Hid (v' ≠ .slice none 0 0) := Lib.hid hnn'
      have hlow := app_low hg3 HO3.out hgr
      have HPS4 := Lib.hid (H3.out.low hlow HLO.out)
      have HT4 := Lib.hid (HT3.out.low (hlow.mono (Nat.le_succ _)))
      have HZ4 := Lib.hid (HZ3.out.low hlow (Nat.lt_succ_self _))
      clear hown' hgr hnn' hlow
      go_wp2_with fail
      go_roundw
      case rel =>
        refine ⟨ps ++ [x], q3, b3, by omega, hq3N, by simp; omega, ?_, HPS4.out, HT4.out, by simpa using HOWN.out, HNL'.out, HZ4.out, fun e => ?_, fun e => ?_⟩
        · intro y hy
          rcases List.mem_append.1 hy with hy | hy
          · exact HSZ.out y hy
          · rw [List.mem_singleton.1 hy]; unfold maxLen; omega
        · obtain ⟨e1, e2, rfl, rfl⟩ := HY.out.1 e
          rw [HGD.out.1 e1, par_go HCOL.out (by rw [rest_tail, ← isB_none]; exact e2), rest_tail, rest_tail]
        · rcases HY.out.2 e with e1 | e1
          · exact HGD.out.2 e1
          · cases b with
            | true => exact HGD.out.2 rfl
            | false => rw [HGD.out.1 rfl, par_no HCOL.out (by rw [rest_tail, ← isB_none]; exact e1)]
      case measure =>
        have h1 := HPS4.out.plc
        rw [HPB.out] at h1
        rw [h1, HPL.out]
        omega
    | false =>
      have HCOL := Lib.hid (hcol.symm.trans (isB_colon _)).symm
      have K := KT0 wr q b _ HPS.out hcol
      have F1 : Hid (parLoop [] (rest P p) = Got b (ps, rest P q)) := by
        show _ = _
        cases b with
        | true => exact HGD.out.2 rfl
        | false => rw [HGD.out.1 rfl, par_stop HCOL.out]; rfl
      clear hcol
      by_cases hp0 : ps.length = 0
      · have i0' : ¬ (0 : Int) < (ps.length : Int) := by omega
        have HP0 := Lib.hid hp0; clear hp0
        go_wp2_with fail
        refine K.out.mono ?_
        rintro e w4 ⟨rfl, h4, ht4⟩
        obtain ⟨q2, hq2⟩ : ∃ q2, q2 = q := ⟨_, rfl⟩
        obtain ⟨b2, hb2⟩ : ∃ b2, b2 = b := ⟨_, rfl⟩
        have F2 : Hid ((b2 = false → b = false ∧ ((ps.length = 0 ∧ q2 = q) ∨ (¬ ps.length = 0 ∧ mk cBar (rest P q) = true ∧ q2 = q + 1))) ∧ (b2 = true → b = true ∨ (¬ ps.length = 0 ∧ mk cBar (rest P q) = false))) := Lib.hid ⟨fun e => ⟨hb2.symm.trans e, .inl ⟨HP0.out, hq2⟩⟩, fun e => .inl (hb2.symm.trans e)⟩
        have H4 : Hid (PS P q2 b2 w4) := Lib.hid (by rw [hq2, hb2]; exact h4)
        have HT4 := Lib.hid (HTR.out.trans ht4)
        have HZ4 := Lib.hid (HZ1.out.turn ht4 (by rw [HPB.out]; omega))
        have HP4 := Lib.hid (textsN_own (own_turn HO1.out ht4 (by rw [HPB.out]; omega)) HNL.out (Nat.le_refl (w.heap.size + 1)) HSZ.out)
        clear h4 ht4 K hq2 hb2
        go_wp2_with fail
        refine (KM _ _ _ H4.out).out.mono ?_
        rintro e w5 ⟨vt, ts, q3, b3, rfl, ht5, htl, h5, hu5, hf1, hf2⟩
        have F3 := Lib.hid (names_facts hf1 hf2); clear hf1 hf2
        have H5 := Lib.hid h5
        have HT5 := Lib.hid (HT4.out.trans hu5)
        have HZ5 := Lib.hid (HZ4.out.turn hu5 (by rw [HPB.out]; omega))
        have HP5 := Lib.hid (HP4.out.keep ((hu5.keptW (by rw [HPB.out]; exact hpbl)).mono (Nat.le_succ _)))
        have HV5 := Lib.hid (ht5.mono (show w.heap.size + 1 ≤ w4.heap.size from HZ4.out.size))
        clear h5 hu5 ht5
        go_wp2_with fail
        have hq3 : b3 = false → (rest P q3).length < n := fun e => by
          obtain ⟨e2, hnm⟩ := F3.out.1 e
          have h1 := names_le hnm
          have h2 : p ≤ q2 := by
            rcases (F2.out.1 e2).2 with h | h
            · omega
            · omega
          have h3 := HN.out
          rw [rest_len] at h1 h3
          rw [rest_len] at h1
          rw [rest_len]
          omega
        refine (KS _ _ _ H5.out hq3).out.mono ?_
        clear hq3
        rintro e w6 ⟨vk, L, q4, b4, rfl, hk6, h6, hu6, hs1, hs2⟩
        have F4 := Lib.hid (And.intro hs1 hs2); clear hs1 hs2
        have H6 := Lib.hid h6
        have HT6 := Lib.hid (HT5.out.trans hu6)
        have HZ6 := Lib.hid (HZ5.out.turn hu6 (by rw [HPB.out]; omega))
        have HP6 := Lib.hid (HP5.out.keep ((hu6.keptW (by rw [HPB.out]; exact hpbl)).mono (Nat.le_succ _)))
        have HV6 := Lib.hid (HV5.out.keep ((hu6.keptW (by rw [HPB.out]; exact hpbl)).mono (Nat.le_succ _)))
        have HK6 := Lib.hid (hk6.mono (show w.heap.size + 1 ≤ w5.heap.size from HZ5.out.size))
        clear h6 hu6 hk6
        go_wp2_with fail
        refine (KN _ _ _ _ _ H6.out).out.mono ?_
        rintro e w7 ⟨s7, q5, b5, rfl, h7, hu7, -, -, hr1, hr2⟩
        have F5 := Lib.hid (And.intro hr1 hr2); clear hr1 hr2
        have H7 := Lib.hid h7
        have HT7 := Lib.hid (HT6.out.trans hu7)
        have HZ7 := Lib.hid (HZ6.out.turn hu7 (by rw [HPB.out]; omega))
        have HP7 := Lib.hid (HP6.out.keep ((hu7.keptW (by rw [HPB.out]; exact hpbl)).mono (Nat.le_succ _)))
        have HV7 := Lib.hid (HV6.out.keep ((hu7.keptW (by rw [HPB.out]; exact hpbl)).mono (Nat.le_succ _)))
        have HK7 := Lib.hid (HK6.out.keep ((hu7.keptW (by rw [HPB.out]; exact hpbl)).mono (Nat.le_succ _)))
        clear h7 hu7
        have hp800 : ps.length ≤ 800 := Nat.le_trans hlen (Nat.le_trans hqN h8)
        have KB := block_any HP7.out HV7.out HK7.out.kids hp800 htl (show w.heap.size + 1 ≤ w7.heap.size from HZ7.out.size)
        have KB := Lib.hid KB
        go_wp2_with fail
        refine KB.out.mono ?_
        rintro e w8 ⟨v8, rfl, hr8, hb8⟩
        have H8 := Lib.hid (H7.out.below hb8)
        have HT8 := Lib.hid (HT7.out.below hb8)
        have HBK := Lib.hid (block_back (q5 := q5) (b5 := b5) F1.out F2.out F3.out F4.out ⟨fun e => by (have h := F5.out.1 e; exact ⟨h.1, (isB_right _).symm.trans h.2.1, h.2.2.1⟩), fun e => (F5.out.2 e).imp id (fun h => (isB_right _).symm.trans h)⟩)
        generalize eBlock ps ts (trees L) = t8 at *
        obtain ⟨xn, xk, rfl, hnode⟩ := hr8
        obtain ⟨xa, xl, xc, ya, yl, yc, rfl, rfl⟩ := node_forms hnode
        have HNODE := Lib.hid hnode
        obtain ⟨hsz8, z0, z1, z2, z3, z4, fz⟩ := HZ7.out.step hb8
        clear hb8 hnode
        go_wp2_with fail
        refine bodyPost_ret (v := .agg #[.int .i64 t8.kind, .string t8.text, .int .i64 t8.num, .slice xa xl xc, .slice ya yl yc]) (by simp [results, Tryz.results101, go_sem, *]) rfl ?_
        have hb9 := put5_below (Below.refl w.heap.size w8) (B := w.heap.size) (Nat.le_refl _) (.int .i64 t8.kind) (.string t8.text) (.int .i64 t8.num) (.slice xa xl xc) (.slice ya yl yc)
        exact ⟨_, t8, q5, b5, rfl, ⟨_, _, rfl, NodeAt.keep (Nat.le_succ _) (kept_put5 w8 (Nat.lt_succ_self _) _ _ _ _ _) _ _ _ HNODE.out⟩, H8.out.low hb9 HLO0.out, HT8.out.low hb9, HBK.out⟩
      · have i0' : (0 : Int) < (ps.length : Int) := by omega
        have HP0 := Lib.hid hp0; clear hp0
        go_wp2_with fail
        refine K.out.mono ?_
        rintro e w3 ⟨rfl, h3, ht3⟩
        have H3 := Lib.hid h3
        have HT3 := Lib.hid (HTR.out.trans ht3)
        have HZ3 := Lib.hid (HZ1.out.turn ht3 (by rw [HPB.out]; omega))
        have HO3 := Lib.hid (own_turn HO1.out ht3 (by rw [HPB.out]; omega))
        clear h3 ht3 K
        go_wp2_with fail
        refine (KN _ _ _ _ _ H3.out).out.mono ?_
        rintro e w4 ⟨x, q2, b2, rfl, h4, ht4, -, -, hy1, hy2⟩
        have F2 : Hid ((b2 = false → b = false ∧ ((ps.length = 0 ∧ q2 = q) ∨ (¬ ps.length = 0 ∧ mk cBar (rest P q) = true ∧ q2 = q + 1))) ∧ (b2 = true → b = true ∨ (¬ ps.length = 0 ∧ mk cBar (rest P q) = false))) := by
          refine Lib.hid ⟨fun e => ?_, fun e => ?_⟩
          · obtain ⟨e1, e2, e3, -⟩ := hy1 e
            exact ⟨e1, .inr ⟨HP0.out, by rw [← isB_bar]; exact e2, e3⟩⟩
          · rcases hy2 e with e1 | e1
            · exact .inl e1
            · exact .inr ⟨HP0.out, by rw [← isB_bar]; exact e1⟩
        have H4 := Lib.hid h4
        have HT4 := Lib.hid (HT3.out.trans ht4)
        have HZ4 := Lib.hid (HZ3.out.turn ht4 (by rw [HPB.out]; omega))
        have HP4 := Lib.hid (textsN_own (own_turn HO3.out ht4 (by rw [HPB.out]; omega)) HNL.out (Nat.le_refl (w.heap.size + 1)) HSZ.out)
        clear h4 ht4 hy1 hy2
        go_wp2_with fail
        refine (KM _ _ _ H4.out).out.mono ?_
        rintro e w5 ⟨vt, ts, q3, b3, rfl, ht5, htl, h5, hu5, hf1, hf2⟩
        have F3 := Lib.hid (names_facts hf1 hf2); clear hf1 hf2
        have H5 := Lib.hid h5
        have HT5 := Lib.hid (HT4.out.trans hu5)
        have HZ5 := Lib.hid (HZ4.out.turn hu5 (by rw [HPB.out]; omega))
        have HP5 := Lib.hid (HP4.out.keep ((hu5.keptW (by rw [HPB.out]; exact hpbl)).mono (Nat.le_succ _)))
        have HV5 := Lib.hid (ht5.mono (show w.heap.size + 1 ≤ w4.heap.size from HZ4.out.size))
        clear h5 hu5 ht5
        go_wp2_with fail
        have hq3 : b3 = false → (rest P q3).length < n := fun e => by
          obtain ⟨e2, hnm⟩ := F3.out.1 e
          have h1 := names_le hnm
          have h2 : p ≤ q2 := by
            rcases (F2.out.1 e2).2 with h | h
            · omega
            · omega
          have h3 := HN.out
          rw [rest_len] at h1 h3
          rw [rest_len] at h1
          rw [rest_len]
          omega
        refine (KS _ _ _ H5.out hq3).out.mono ?_
        clear hq3
        rintro e w6 ⟨vk, L, q4, b4, rfl, hk6, h6, hu6, hs1, hs2⟩
        have F4 := Lib.hid (And.intro hs1 hs2); clear hs1 hs2
        have H6 := Lib.hid h6
        have HT6 := Lib.hid (HT5.out.trans hu6)
        have HZ6 := Lib.hid (HZ5.out.turn hu6 (by rw [HPB.out]; omega))
        have HP6 := Lib.hid (HP5.out.keep ((hu6.keptW (by rw [HPB.out]; exact hpbl)).mono (Nat.le_succ _)))
        have HV6 := Lib.hid (HV5.out.keep ((hu6.keptW (by rw [HPB.out]; exact hpbl)).mono (Nat.le_succ _)))
        have HK6 := Lib.hid (hk6.mono (show w.heap.size + 1 ≤ w5.heap.size from HZ5.out.size))
        clear h6 hu6 hk6
        go_wp2_with fail
        refine (KN _ _ _ _ _ H6.out).out.mono ?_
        rintro e w7 ⟨s7, q5, b5, rfl, h7, hu7, -, -, hr1, hr2⟩
        have F5 := Lib.hid (And.intro hr1 hr2); clear hr1 hr2
        have H7 := Lib.hid h7
        have HT7 := Lib.hid (HT6.out.trans hu7)
        have HZ7 := Lib.hid (HZ6.out.turn hu7 (by rw [HPB.out]; omega))
        have HP7 := Lib.hid (HP6.out.keep ((hu7.keptW (by rw [HPB.out]; exact hpbl)).mono (Nat.le_succ _)))
        have HV7 := Lib.hid (HV6.out.keep ((hu7.keptW (by rw [HPB.out]; exact hpbl)).mono (Nat.le_succ _)))
        have HK7 := Lib.hid (HK6.out.keep ((hu7.keptW (by rw [HPB.out]; exact hpbl)).mono (Nat.le_succ _)))
        clear h7 hu7
        have hp800 : ps.length ≤ 800 := Nat.le_trans hlen (Nat.le_trans hqN h8)
        have KB := block_any HP7.out HV7.out HK7.out.kids hp800 htl (show w.heap.size + 1 ≤ w7.heap.size from HZ7.out.size)
        have KB := Lib.hid KB
        go_wp2_with fail
        refine KB.out.mono ?_
        rintro e w8 ⟨v8, rfl, hr8, hb8⟩
        have H8 := Lib.hid (H7.out.below hb8)
        have HT8 := Lib.hid (HT7.out.below hb8)
        have HBK := Lib.hid (block_back (q5 := q5) (b5 := b5) F1.out F2.out F3.out F4.out ⟨fun e => by (have h := F5.out.1 e; exact ⟨h.1, (isB_right _).symm.trans h.2.1, h.2.2.1⟩), fun e => (F5.out.2 e).imp id (fun h => (isB_right _).symm.trans h)⟩)
        generalize eBlock ps ts (trees L) = t8 at *
        obtain ⟨xn, xk, rfl, hnode⟩ := hr8
        obtain ⟨xa, xl, xc, ya, yl, yc, rfl, rfl⟩ := node_forms hnode
        have HNODE := Lib.hid hnode
        obtain ⟨hsz8, z0, z1, z2, z3, z4, fz⟩ := HZ7.out.step hb8
        clear hb8 hnode
        go_wp2_with fail
        refine bodyPost_ret (v := .agg #[.int .i64 t8.kind, .string t8.text, .int .i64 t8.num, .slice xa xl xc, .slice ya yl yc]) (by simp [results, Tryz.results101, go_sem, *]) rfl ?_
        have hb9 := put5_below (Below.refl w.heap.size w8) (B := w.heap.size) (Nat.le_refl _) (.int .i64 t8.kind) (.string t8.text) (.int .i64 t8.num) (.slice xa xl xc) (.slice ya yl yc)
        exact ⟨_, t8, q5, b5, rfl, ⟨_, _, rfl, NodeAt.keep (Nat.le_succ _) (kept_put5 w8 (Nat.lt_succ_self _) _ _ _ _ _) _ _ _ HNODE.out⟩, H8.out.low hb9 HLO0.out, HT8.out.low hb9, HBK.out⟩
end Go.Proofs.YtbflpocbjdccgaaGreatDoor.Parser
