/-
  The model's parser: binary messages.
  The model's parser: keyword messages.
  The model's parser: one message of a cascade.
  The model's parser: expressions, plain mathematics of what is read.
-/
import Derived.Test.YtbflpocbjdccgaaGreatDoorBParseUn
namespace Go.Proofs.YtbflpocbjdccgaaGreatDoor.Parser
open Go.RowKit
open Strs Tree Gram

theorem bin_stop {ex : X} {e : E} {s : Bool} {r : R} (h : hd 6 r = false) : binLoop ex e s r = some (e, s, r) := by rw [binLoop, if_neg (by rw [h]; simp)]
theorem bin_none {ex : X} {e : E} {s : Bool} {r : R} (h : hd 6 r = true) (h2 : unary ex r.tail = none) : binLoop ex e s r = none := by rw [binLoop, if_pos h, h2]
theorem bin_go {ex : X} (hx : Short ex) {e a : E} {s s' : Bool} {r r1 : R} (h : hd 6 r = true) (h2 : unary ex r.tail = some (a, s', r1)) : binLoop ex e s r = binLoop ex (eSend e (txt r) [a]) true r1 := by
  have hlt : r1.length < r.length := Nat.lt_trans (unary_lt hx h2) (hd_lt h)
  rw [binLoop, if_pos h, h2]
  simp only
  rw [dif_pos hlt]

set_option maxRecDepth 10000 in
set_option maxHeartbeats 8000000 in
theorem binary_read {n : Nat} (hx : XC n) {P : Cst} {p : Nat} {w : World} (h : PS P p false w) (hn : (rest P p).length ≤ n) :
    Calls Tryz.prog 25 #[.pointer (some ⟨P.pb, 0, none⟩)] w (Back2 P w (binary (expr n) (rest P p))) := by
  have hb0 : Below w.heap.size w (w.alloc (.cells #[.int .i64 0, .string ⟨#[]⟩, .int .i64 0, .slice none 0 0, .slice none 0 0] 25)) := (Below.refl _ _).alloc (Nat.le_refl _) _
  have h1 := h.below hb0
  have HT := Lib.hid ((Turn.refl P w).low hb0)
  have HZ := Lib.hid (zero_new w 25)
  have HLO := Lib.hid h.lo
  have hl := h.fit.len
  have hpbl := h.size
  have KP := Lib.hid (unary_read hx h1 hn)
  have KI := fun (w1 : World) (q : Nat) (h1 : PS P q false w1) => Lib.hid (is_any h1 6 ⟨#[]⟩)
  have KN := fun (w1 : World) (q : Nat) (h1 : PS P q false w1) (hb : isB 6 ⟨#[]⟩ (rest P q) = true) => Lib.hid (need_yes h1 hb)
  have HF := Lib.hid h.fit
  have KU := Lib.hid fun (w1 : World) (q : Nat) (h1 : PS P q false w1) (hl : (rest P q).length ≤ n) => unary_read hx h1 hl
  have HLEN := Lib.hid hn
  generalize hG : binary (expr n) (rest P p) = G
  have HG : Hid (G = binary (expr n) (rest P p)) := Lib.hid hG.symm
  clear h h1 hb0 hn hx hG
  generalize hNN : P.toks.length = N at *
  have HNN := Lib.hid hNN; clear hNN
  generalize hpb : P.pb = pb at *
  have HPB := Lib.hid hpb; clear hpb
  go_enter Tryz.func25, Tryz.ntmps25
  go_wp2_with fail
  refine KP.out.mono ?_
  rintro e w1 ⟨v1, t1, s1, q1, b1, rfl, hr1, h1, ht1, hg1⟩
  obtain ⟨xn, xk, rfl, hnode⟩ := hr1
  obtain ⟨xa, xl, xc, ya, yl, yc, rfl, rfl⟩ := node_forms hnode
  have hba : ∀ o, Below w1.heap.size w1 (w1.alloc o) := fun o => (Below.refl _ _).alloc (Nat.le_refl _) o
  have H1 := Lib.hid (h1.below (hba (.cells #[.int .i64 t1.kind, .string t1.text, .int .i64 t1.num, .slice xa xl xc, .slice ya yl yc] 25)))
  have HT1 := Lib.hid ((HT.out.trans ht1).below (hba (.cells #[.int .i64 t1.kind, .string t1.text, .int .i64 t1.num, .slice xa xl xc, .slice ya yl yc] 25)))
  have HZ1 := Lib.hid ((HZ.out.turn ht1 (by rw [HPB.out]; omega)).step (hba (.cells #[.int .i64 t1.kind, .string t1.text, .int .i64 t1.num, .slice xa xl xc, .slice ya yl yc] 25)))
  have HF1 := Lib.hid (five_new w1 (.int .i64 t1.kind) (.string t1.text) (.int .i64 t1.num) (.slice xa xl xc) (.slice ya yl yc) 25)
  have HN1 := Lib.hid (off_new (B := w1.heap.size) (lo := w.heap.size + 1) (NodeAt.keep HZ.out.size (fun _ _ _ _ hc => hc) _ _ _ hnode) (Nat.le_refl _) (kept_below (hba (.cells #[.int .i64 t1.kind, .string t1.text, .int .i64 t1.num, .slice xa xl xc, .slice ya yl yc] 25))))
  have HG1 : Hid ((b1 = false → p ≤ q1 ∧ G = binLoop (expr n) t1 s1 (rest P q1)) ∧ (b1 = true → G = none)) := by
    refine Lib.hid ⟨fun e => ?_, fun e => ?_⟩
    · refine ⟨?_, by rw [HG.out, binary, hg1, e]; rfl⟩
      rw [e] at hg1
      have := unary_lt (expr_short n) hg1
      rw [rest_len, rest_len] at this
      omega
    · rw [HG.out, binary, hg1, e]; rfl
  have hB1 : w.heap.size < w1.heap.size := Nat.lt_of_lt_of_le HZ.out.size ht1.size
  clear h1 ht1 hnode hg1 hba HG
  go_wp2_with fail
  go_loopw [5] (fun v wr => ∃ (t : E) (s : Bool) (q : Nat) (b : Bool) (xa : Option Addr) (xl xc : Nat) (ya : Option Addr) (yl yc : Nat), v = .bool s ∧ PS P q b wr ∧ Turn P w wr ∧ Zero w.heap.size wr ∧ Five w1.heap.size (.int .i64 t.kind) (.string t.text) (.int .i64 t.num) (.slice xa xl xc) (.slice ya yl yc) wr ∧ Off w1.heap.size (w.heap.size + 1) wr t (.slice xa xl xc) (.slice ya yl yc) ∧ (b = false → p ≤ q ∧ G = binLoop (expr n) t s (rest P q)) ∧ (b = true → G = none)) (fun _ wr => left pb N wr)
  case atStart => exact ⟨t1, s1, q1, b1, xa, xl, xc, ya, yl, yc, rfl, H1.out, HT1.out, HZ1.out, HF1.out, HN1.out, HG1.out.1, HG1.out.2⟩
  case round =>
    clear HG1 HN1 HF1 HZ1 H1 HT1
    obtain ⟨t, s, q, b, xa, xl, xc, ya, yl, yc, rfl, hps, htr, hz, hf, hoff, hgood, hbad⟩ := hrel
    have HPS := Lib.hid hps
    have HTR := Lib.hid htr
    have HZ := Lib.hid hz
    have HFV := Lib.hid hf
    have HOFF := Lib.hid hoff
    have HGD := Lib.hid (And.intro hgood hbad)
    have c2 := hps.c2
    rw [HPB.out] at c2
    obtain ⟨hsz5, f0, f1, f2, f3, f4, ffz⟩ := hf
    clear hps htr hz hoff hgood hbad
    cases b with
    | true =>
      have HG2 : Hid (G = Got true (t, s, rest P q)) := Lib.hid (HGD.out.2 rfl)
      obtain ⟨hszz, y0, y1, y2, y3, y4, yfz⟩ := HZ.out
      go_wp2_with fail
      have hb9 := put5_below (Below.refl w.heap.size wr) (B := w.heap.size) (Nat.le_refl _) (.int .i64 t.kind) (.string t.text) (.int .i64 t.num) (.slice xa xl xc) (.slice ya yl yc)
      refine bodyPost_ret (v := .tuple #[.agg #[.int .i64 t.kind, .string t.text, .int .i64 t.num, .slice xa xl xc, .slice ya yl yc], .bool s]) (by simp [results, Tryz.results25, go_sem, *]) rfl ?_
      exact ⟨_, t, s, q, true, rfl, ⟨_, _, rfl, NodeAt.keep (lo := w.heap.size) (hi := w.heap.size + 1) (Nat.le_succ _) (kept_put5 wr (Nat.lt_succ_self _) _ _ _ _ _) _ _ _ HOFF.out.on⟩, HPS.out.low hb9 HLO.out, HTR.out.low hb9, HG2.out⟩
    | false =>
      have K := KI wr q HPS.out
      cases hb : isB 6 ⟨#[]⟩ (rest P q) with
      | false =>
        have HG2 : Hid (G = Got false (t, s, rest P q)) := Lib.hid (by rw [(HGD.out.1 rfl).2, bin_stop (by rw [← isB_none]; exact hb)]; rfl)
        rw [hb] at K
        clear hb
        go_wp2_with fail
        refine K.out.mono ?_
        rintro e w2 ⟨rfl, hd⟩
        have HPS2 := Lib.hid (HPS.out.drawn hd)
        have HTR2 := Lib.hid (HTR.out.drawn hd)
        have HOF2 := Lib.hid (HOFF.out.kept (kept_below hd.below))
        obtain ⟨hsz6, f0, f1, f2, f3, f4, ffz⟩ := HFV.out.step hd.below
        obtain ⟨hszz, y0, y1, y2, y3, y4, yfz⟩ := HZ.out.step hd.below
        clear hd
        go_wp2_with fail
        have hb9 := put5_below (Below.refl w.heap.size w2) (B := w.heap.size) (Nat.le_refl _) (.int .i64 t.kind) (.string t.text) (.int .i64 t.num) (.slice xa xl xc) (.slice ya yl yc)
        refine bodyPost_ret (v := .tuple #[.agg #[.int .i64 t.kind, .string t.text, .int .i64 t.num, .slice xa xl xc, .slice ya yl yc], .bool s]) (by simp [results, Tryz.results25, go_sem, *]) rfl ?_
        exact ⟨_, t, s, q, false, rfl, ⟨_, _, rfl, NodeAt.keep (lo := w.heap.size) (hi := w.heap.size + 1) (Nat.le_succ _) (kept_put5 w2 (Nat.lt_succ_self _) _ _ _ _ _) _ _ _ HOF2.out.on⟩, HPS2.out.low hb9 HLO.out, HTR2.out.low hb9, HG2.out⟩
      | true =>
        have HB := Lib.hid hb
        have HGT := Lib.hid (HGD.out.1 rfl)
        rw [hb] at K
        clear hb
        go_wp2_with fail
        refine K.out.mono ?_
        rintro e w2 ⟨rfl, hd⟩
        have HD := Lib.hid hd
        have HPS2 := Lib.hid (HPS.out.drawn hd)
        obtain ⟨hsz6, f0, f1, f2, f3, f4, ffz⟩ := HFV.out.step hd.below
        clear hd
        have HQ1 : Hid ((rest P (q + 1)).length ≤ n) := by
          have h1 := HLEN.out
          have h2 := HGT.out.1
          show _ ≤ _
          rw [rest_len] at h1 ⊢
          omega
        have hqN := isB_lt HB.out
        rw [HNN.out] at hqN
        have hlf : Hid (left pb N wr = 1 + (N - q)) := Lib.hid (by rw [← HPB.out]; exact HPS.out.left_go N)
        have KN2 := Lib.hid (need_yes HPS2.out HB.out)
        rw [HPB.out] at KN2
        have HX4 : Hid ((txt (rest P q)).size ≤ maxLen) := Lib.hid (Nat.le_trans (text_le HF.out) (by unfold maxLen; omega))
        have HTR2 := Lib.hid (HTR.out.drawn HD.out)
        have HZ2 := Lib.hid (HZ.out.step HD.out.below)
        have HF2 := Lib.hid (HFV.out.step HD.out.below)
        have HOF2 := Lib.hid (HOFF.out.kept (kept_below HD.out.below))
        generalize hxx : txt (rest P q) = x at *
        have HXX := Lib.hid hxx; clear hxx
        clear K f0 f1 f2 f3 f4 ffz
        go_wp2_with fail
        refine KN2.out.mono ?_
        rintro e w3 ⟨rfl, h3, ht3⟩
        have HPS3 := Lib.hid h3
        have HT3 := Lib.hid (HTR2.out.trans ht3)
        have HZ3 := Lib.hid (HZ2.out.turn ht3 (by rw [HPB.out]; omega))
        have HF3 := Lib.hid (HF2.out.turn ht3 (by rw [HPB.out]; omega))
        have HOF3 := Lib.hid (HOF2.out.kept ((ht3.keptW (w := w) (by rw [HPB.out]; exact hpbl)).mono (Nat.le_succ _)))
        clear h3 ht3 KN2
        go_wp2_with fail
        refine (KU.out _ _ HPS3.out HQ1.out).mono ?_
        rintro e w5 ⟨v5, t5, s5, q5, b5, rfl, hr5, h5, ht5, hg5⟩
        obtain ⟨xn5, xk5, rfl, hnode5⟩ := hr5
        obtain ⟨za, zl, zc, va, vl, vc, rfl, rfl⟩ := node_forms hnode5
        have hba : ∀ o, Below w5.heap.size w5 (w5.alloc o) := fun o => (Below.refl _ _).alloc (Nat.le_refl _) o
        have h35 := ht5.size
        have HOA5 := Lib.hid (off_above (B := w1.heap.size) (lo := w.heap.size + 1) hnode5 (by have := HZ3.out.size; omega) HF3.out.size)
        have HPS5 := Lib.hid (h5.below (hba (.cells #[.int .i64 t5.kind, .string t5.text, .int .i64 t5.num, .slice za zl zc, .slice va vl vc] 25)))
        have HT5 := Lib.hid ((HT3.out.trans ht5).below (hba (.cells #[.int .i64 t5.kind, .string t5.text, .int .i64 t5.num, .slice za zl zc, .slice va vl vc] 25)))
        have HZ5 := Lib.hid ((HZ3.out.turn ht5 (by rw [HPB.out]; omega)).step (hba (.cells #[.int .i64 t5.kind, .string t5.text, .int .i64 t5.num, .slice za zl zc, .slice va vl vc] 25)))
        have HF5 := Lib.hid ((HF3.out.turn ht5 (by rw [HPB.out]; omega)).step (hba (.cells #[.int .i64 t5.kind, .string t5.text, .int .i64 t5.num, .slice za zl zc, .slice va vl vc] 25)))
        have HFA5 := Lib.hid (five_new w5 (.int .i64 t5.kind) (.string t5.text) (.int .i64 t5.num) (.slice za zl zc) (.slice va vl vc) 25)
        have HOF5 := Lib.hid ((HOF3.out.kept ((ht5.keptW (w := w) (by rw [HPB.out]; exact hpbl)).mono (Nat.le_succ _))).kept (kept_below (hba (.cells #[.int .i64 t5.kind, .string t5.text, .int .i64 t5.num, .slice za zl zc, .slice va vl vc] 25))))
        have HOB5 := Lib.hid (HOA5.out.kept (kept_below (hba (.cells #[.int .i64 t5.kind, .string t5.text, .int .i64 t5.num, .slice za zl zc, .slice va vl vc] 25))))
        have HG5 := Lib.hid hg5
        have hw5 : (w5.alloc (.cells #[.int .i64 t5.kind, .string t5.text, .int .i64 t5.num, .slice za zl zc, .slice va vl vc] 25)).heap.size = w5.heap.size + 1 := by simp
        clear h5 ht5 hg5 hnode5 hba
        obtain ⟨hs1, f0, f1, f2, f3, f4, ffz⟩ := HF5.out
        obtain ⟨hs2, g0, g1, g2, g3, g4, gfz⟩ := HFA5.out
        have KS := Lib.hid (send_raw (lo := w.heap.size + 1) (L := [(t5, .slice za zl zc, .slice va vl vc)]) (s := x) (HOF5.out.on.below ((Below.refl _ _).alloc (Nat.le_refl _) (.cells #[.int .i64 t5.kind, .string t5.text, .int .i64 t5.num, .slice za zl zc, .slice va vl vc] 25))) (lit_one HOB5.out.on (by have := HZ5.out.size; omega)) (by simp))
        rw [hw5] at KS
        have hba6 : ∀ W : World, Below W.heap.size W (W.alloc (.cells #[.int .i64 t5.kind, .string t5.text, .int .i64 t5.num, .slice za zl zc, .slice va vl vc] 25)) := fun W => (Below.refl _ _).alloc (Nat.le_refl _) _
        have HPS6 := Lib.hid (HPS5.out.below (hba6 _))
        have HT6 := Lib.hid (HT5.out.below (hba6 _))
        have HZ6 := Lib.hid (HZ5.out.step (hba6 _))
        have HF6 := Lib.hid (HF5.out.step (hba6 _))
        have HOF6 := Lib.hid (HOF5.out.kept (kept_below (hba6 _)))
        have HOB6 := Lib.hid (HOB5.out.kept (kept_below (hba6 _)))
        clear hba6
        go_wp2_with fail
        refine KS.out.mono ?_
        rintro e w7 ⟨vk', rfl, ho7, hb7⟩
        obtain ⟨ka, kc, rfl⟩ := Kit.row_form ho7
        have HPS7 := Lib.hid (HPS6.out.below hb7)
        have HT7 := Lib.hid (HT6.out.below hb7)
        have HZ7 := Lib.hid (HZ6.out.step hb7)
        have HF7 := Lib.hid (HF6.out.step hb7)
        have HOF7 := Lib.hid (off_send (L := [(t5, .slice za zl zc, .slice va vl vc)]) HOF6.out (fun y hy => by rw [List.mem_singleton.1 hy]; exact HOB6.out) HX4.out hb7 ho7 (by have := HZ6.out.size; omega) (by have := HF6.out.size; omega))
        clear ho7 hb7 f0 f1 f2 f3 f4 ffz
        obtain ⟨hs3, f0, f1, f2, f3, f4, ffz⟩ := HF7.out
        go_wp2_with fail
        go_roundw
        case rel =>
          have hb9 := put5_below (Below.refl w.heap.size w7) (B := w1.heap.size) (Nat.le_of_lt hB1) (.int .i64 6) (.string x) (.int .i64 0) (.slice none 0 0) (.slice ka 2 kc)
          have hb8 := put5_below (Below.refl (w.heap.size + 1) w7) (B := w1.heap.size) hB1 (.int .i64 6) (.string x) (.int .i64 0) (.slice none 0 0) (.slice ka 2 kc)
          refine ⟨eSend t x [t5], true, q5, b5, none, 0, 0, ka, 2, kc, rfl, HPS7.out.low hb9 HLO.out, HT7.out.low hb9, HZ7.out.low hb8 (Nat.lt_succ_self _), five_put HF7.out, HOF7.out.keep (off_put5 w7 _ _ _ _ _), fun e => ?_, fun e => ?_⟩
          · have hg := HG5.out
            rw [e] at hg
            refine ⟨?_, ?_⟩
            · have h1 := unary_lt (expr_short n) hg
              have h2 := HGT.out.1
              rw [rest_len, rest_len] at h1
              omega
            · rw [HGT.out.2, bin_go (expr_short n) (by rw [← isB_none]; exact HB.out) (by rw [rest_tail]; exact hg), HXX.out]
          · have hg := HG5.out
            rw [e] at hg
            rw [HGT.out.2, bin_none (by rw [← isB_none]; exact HB.out) (by rw [rest_tail]; exact hg)]
        case measure =>
          have hb9 := put5_below (Below.refl w.heap.size w7) (B := w1.heap.size) (Nat.le_of_lt hB1) (.int .i64 6) (.string x) (.int .i64 0) (.slice none 0 0) (.slice ka 2 kc)
          have h1 := HPS7.out.low hb9 HLO.out
          show left pb N (put5 w7 w1.heap.size _ _ _ _ _) < left pb N wr
          rw [hlf.out]
          cases b5 with
          | true =>
            have := h1.left_bad N
            rw [HPB.out] at this
            omega
          | false =>
            have h2 := h1.left_go N
            rw [HPB.out] at h2
            have h3 := unary_lt (expr_short n) (show _ = some _ from HG5.out)
            rw [rest_len, rest_len, HNN.out] at h3
            omega
end Go.Proofs.YtbflpocbjdccgaaGreatDoor.Parser

namespace Go.Proofs.YtbflpocbjdccgaaGreatDoor.Parser
open Go.RowKit
open Strs Tree Gram

theorem key_stop {ex : X} {s : ByteArray} {xs : List E} {r : R} (h : hd 2 r = false) : keyLoop ex s xs r = some (s, xs, r) := by rw [keyLoop, if_neg (by rw [h]; simp)]
theorem key_none {ex : X} {s : ByteArray} {xs : List E} {r : R} (h : hd 2 r = true) (h2 : binary ex r.tail = none) : keyLoop ex s xs r = none := by rw [keyLoop, if_pos h, h2]
theorem key_go {ex : X} (hx : Short ex) {s : ByteArray} {xs : List E} {a : E} {s' : Bool} {r r1 : R} (h : hd 2 r = true) (h2 : binary ex r.tail = some (a, s', r1)) : keyLoop ex s xs r = keyLoop ex (s ++ txt r) (xs ++ [a]) r1 := by
  have hlt : r1.length < r.length := Nat.lt_trans (binary_lt hx h2) (hd_lt h)
  rw [keyLoop, if_pos h, h2]
  simp only
  rw [dif_pos hlt]
/-- What the reader of keyword messages hands back. -/
def KeyBack (P : Cst) (w : World) (bad : Bool) (g : Option (ByteArray × List E × R)) (e : Ending) (w' : World) : Prop :=
  ∃ sel v L q b, e = .returned (.tuple #[.string sel, v]) ∧ Kids5 w.heap.size w' L v ∧ L.length ≤ 801 ∧ sel.size ≤ 4000 * 801 ∧ PS P q b w' ∧ Turn P w w' ∧ (b = false → bad = false) ∧ (bad = true → sel = ⟨#[]⟩ ∧ L = []) ∧ (bad = false → g = Got b (sel, trees L, rest P q))

set_option maxRecDepth 10000 in
set_option maxHeartbeats 8000000 in
theorem key_read {n : Nat} (hx : XC n) {P : Cst} {p : Nat} {bad : Bool} {w : World} (h : PS P p bad w) (hn : bad = false → (rest P p).length ≤ n) :
    Calls Tryz.prog 26 #[.pointer (some ⟨P.pb, 0, none⟩)] w (KeyBack P w bad (keyLoop (expr n) none_ [] (rest P p))) := by
  obtain ⟨i0, hi, hz0, hz1, hz2⟩ := info_parts infoE
  have KI := fun (w1 : World) (q : Nat) (h1 : PS P q false w1) => Lib.hid (is_any h1 2 ⟨#[]⟩)
  have KN := fun (w1 : World) (q : Nat) (h1 : PS P q false w1) (hb : isB 2 ⟨#[]⟩ (rest P q) = true) => Lib.hid (need_yes h1 hb)
  have KU := Lib.hid fun (w1 : World) (q : Nat) (h1 : PS P q false w1) (hl : (rest P q).length ≤ n) => binary_read hx h1 hl
  have H1 := Lib.hid (h.below ((Below.refl _ _).alloc (Nat.le_refl _) (.cells #[] 25)))
  have HT := Lib.hid (Turn.refl_alloc P w (.cells #[] 25))
  have HO := Lib.hid (Out.new w)
  have HLO := Lib.hid h.lo
  have hpbl := h.size
  have h8 := h.fit.len
  have hpl := h.le
  have HLEN := Lib.hid hn
  have HF := Lib.hid h.fit
  clear h hn hx
  generalize hG : keyLoop (expr n) none_ [] (rest P p) = G
  have HG : Hid (G = keyLoop (expr n) none_ [] (rest P p)) := Lib.hid hG.symm
  clear hG
  generalize hpb : P.pb = pb at *
  generalize hNN : P.toks.length = N at *
  have HPB := Lib.hid hpb; clear hpb
  have HNN := Lib.hid hNN; clear hNN
  go_enter Tryz.func26, Tryz.ntmps26
  go_wp2_with fail
  go_loopw [4, 5] (fun sv v wr => ∃ (sel : ByteArray) (L : List Item) (q : Nat) (b : Bool), sv = .string sel ∧ L.length ≤ N ∧ sel.size ≤ 4000 * L.length ∧ PS P q b wr ∧ Turn P w wr ∧ Out w.heap.size wr L v ∧ (b = false → bad = false ∧ p ≤ q ∧ L.length ≤ q ∧ G = keyLoop (expr n) sel (trees L) (rest P q)) ∧ (b = true → (bad = true ∧ sel = ⟨#[]⟩ ∧ L = []) ∨ (bad = false ∧ G = none))) (fun _ _ wr => left pb N wr)
  case atStart => exact ⟨⟨#[]⟩, [], p, bad, rfl, Nat.zero_le _, Nat.zero_le _, H1.out, HT.out, HO.out, fun e => ⟨e, Nat.le_refl _, Nat.zero_le _, HG.out⟩, fun e => .inl ⟨e, rfl, rfl⟩⟩
  case round =>
    obtain ⟨sel, L, q, b, rfl, hLN, hsel, hps, htr, hout, hgood, hbad⟩ := hrel
    have HPS := Lib.hid hps
    have HTR := Lib.hid htr
    have HOUT := Lib.hid hout
    have c2 := hps.c2
    rw [HPB.out] at c2
    obtain ⟨ra, rc, rfl⟩ := hout.form
    have hgw : w.heap.size ≤ wr.heap.size := htr.size
    clear hps htr hout
    cases b with
    | true =>
      have HB := Lib.hid (hbad rfl); clear hbad hgood
      go_wp2_with fail
      go_ret2
      refine ⟨sel, _, L, q, true, rfl, HOUT.out.kids, by omega, by omega, HPS.out, HTR.out, (fun e => nomatch e), fun e => ?_, fun e => ?_⟩
      · rcases HB.out with h | h
        · exact h.2
        · rw [e] at h; cases h.1
      · rcases HB.out with h | h
        · rw [e] at h; cases h.1
        · exact h.2
    | false =>
      obtain ⟨hbf, hpq, hLq, hgo⟩ := hgood rfl
      have HGO := Lib.hid hgo; clear hgo hbad hgood
      have HBF := Lib.hid hbf; clear hbf
      have K := KI wr q HPS.out
      have hlf : Hid (left pb N wr = 1 + (N - q)) := Lib.hid (by rw [← HPB.out]; exact HPS.out.left_go N)
      cases hb : isB 2 ⟨#[]⟩ (rest P q) with
      | false =>
        have HG2 : Hid (G = Got false (sel, trees L, rest P q)) := Lib.hid (by rw [HGO.out, key_stop (by rw [← isB_none]; exact hb)]; rfl)
        rw [hb] at K
        clear hb
        go_wp2_with fail
        refine K.out.mono ?_
        rintro e w2 ⟨rfl, hd⟩
        have HPS2 := Lib.hid (HPS.out.drawn hd)
        have HTR2 := Lib.hid (HTR.out.drawn hd)
        have HO2 := Lib.hid (HOUT.out.below hd.below)
        clear hd
        go_wp2_with fail
        go_ret2
        exact ⟨sel, _, L, q, false, rfl, HO2.out.kids, by omega, by omega, HPS2.out, HTR2.out, fun _ => HBF.out, fun e => by (rw [HBF.out] at e; cases e), fun _ => HG2.out⟩
      | true =>
        have HB := Lib.hid hb
        have hqN := isB_lt hb
        rw [HNN.out] at hqN
        have HQ1 : Hid ((rest P (q + 1)).length ≤ n) := by
          have h1 := HLEN.out HBF.out
          show _ ≤ _
          rw [rest_len] at h1 ⊢
          omega
        rw [hb] at K
        clear hb
        go_wp2_with fail
        refine K.out.mono ?_
        rintro e w2 ⟨rfl, hd⟩
        have HPS2 := Lib.hid (HPS.out.drawn hd)
        have HTR2 := Lib.hid (HTR.out.drawn hd)
        have HO2 := Lib.hid (HOUT.out.below hd.below)
        have KN2 := Lib.hid (need_yes HPS2.out HB.out)
        rw [HPB.out] at KN2
        have hx4 := text_le (p := q) HF.out
        generalize hxx : txt (rest P q) = x at *
        have HXX := Lib.hid hxx; clear hxx
        clear hd K
        go_wp2_with fail
        refine KN2.out.mono ?_
        rintro e w3 ⟨rfl, h3, ht3⟩
        have HPS3 := Lib.hid h3
        have HT3 := Lib.hid (HTR2.out.trans ht3)
        have HO3 := Lib.hid (HO2.out.turn ht3 (by rw [HPB.out]; exact hpbl))
        have hg3 : w.heap.size ≤ w3.heap.size := HT3.out.size
        clear h3 ht3 KN2
        go_wp2_with fail
        refine (KU.out _ _ HPS3.out HQ1.out).mono ?_
        rintro e w5 ⟨v5, t5, s5, q5, b5, rfl, hr5, h5, ht5, hg5⟩
        obtain ⟨xn5, xk5, rfl, hnode5⟩ := hr5
        obtain ⟨za, zl, zc, va, vl, vc, rfl, rfl⟩ := node_forms hnode5
        have hba : ∀ o, Below w5.heap.size w5 (w5.alloc o) := fun o => (Below.refl _ _).alloc (Nat.le_refl _) o
        have HNODE := Lib.hid (hnode5.below (hba (.cells #[.int .i64 t5.kind, .string t5.text, .int .i64 t5.num, .slice za zl zc, .slice va vl vc] 25)))
        have HPS5 := Lib.hid (h5.below (hba (.cells #[.int .i64 t5.kind, .string t5.text, .int .i64 t5.num, .slice za zl zc, .slice va vl vc] 25)))
        have HT5 := Lib.hid ((HT3.out.trans ht5).below (hba (.cells #[.int .i64 t5.kind, .string t5.text, .int .i64 t5.num, .slice za zl zc, .slice va vl vc] 25)))
        have HO5 := Lib.hid ((HO3.out.turn ht5 (by rw [HPB.out]; exact hpbl)).below (hba (.cells #[.int .i64 t5.kind, .string t5.text, .int .i64 t5.num, .slice za zl zc, .slice va vl vc] 25)))
        have HBL5 := Lib.hid (own_lt HO3.out)
        have hg5' : w.heap.size ≤ w5.heap.size := Nat.le_trans hg3 ht5.size
        have hw5 : (w5.alloc (.cells #[.int .i64 t5.kind, .string t5.text, .int .i64 t5.num, .slice za zl zc, .slice va vl vc] 25)).heap.size = w5.heap.size + 1 := by simp
        have HG5 := Lib.hid hg5
        have HQ5 : Hid ((b5 = false → q + 1 < q5 ∧ G = keyLoop (expr n) (sel ++ x) (trees (L ++ [(t5, .slice za zl zc, .slice va vl vc)])) (rest P q5)) ∧ (b5 = true → G = none)) := by
          refine Lib.hid ⟨fun e => ?_, fun e => ?_⟩
          · rw [e] at hg5
            refine ⟨?_, ?_⟩
            · have h1 := binary_lt (expr_short n) hg5
              rw [rest_len, rest_len] at h1
              omega
            · rw [HGO.out, key_go (expr_short n) (by rw [← isB_none]; exact HB.out) (by rw [rest_tail]; exact hg5), HXX.out, trees_append]; rfl
          · rw [e] at hg5
            rw [HGO.out, key_none (by rw [← isB_none]; exact HB.out) (by rw [rest_tail]; exact hg5)]
        have F5 := five_new w5 (.int .i64 t5.kind) (.string t5.text) (.int .i64 t5.num) (.slice za zl zc) (.slice va vl vc) 25
        obtain ⟨hs2, g0, g1, g2, g3, g4, gfz⟩ := F5
        clear h5 ht5 hg5 hnode5 hba
        go_wp2_with (at_builtin; go_must (refine wpList_append_own_at _ rfl _ _ 23 rfl w.heap.size 25 i0 (.agg #[.int .i64 0, .string ByteArray.empty, .int .i64 0, .slice none 0 0, .slice none 0 0]) 5 80 Tryz.underlying23 hi hz0 hz1 hz2 rfl (by decide) _ L.length (row5 L) rfl (HO5.out.below ((Below.refl _ _).alloc (Nat.le_refl _) _)).own ⟨w5.heap.size + 1, 0, none⟩ 1 1 (row5 [(t5, .slice za zl zc, .slice va vl vc)]) rfl rfl ?c1 ?c2 ?c3 ?c4 ?c5 ?_))
        case c1 => exact five_cells2 w5 _ (t5, .slice za zl zc, .slice va vl vc) _
        case c2 => exact all_one (w := w5.alloc (.cells #[.int .i64 t5.kind, .string t5.text, .int .i64 t5.num, .slice za zl zc, .slice va vl vc] 25)) (L := [(t5, .slice za zl zc, .slice va vl vc)]) (fun y hy => by rw [List.mem_singleton.1 hy]; exact HNODE.out)
        case c3 => unfold maxLen; omega
        case c4 => omega
        case c5 => simp; omega
        intro v6 w6 hown hgr hnn hat
        have HO6 : Hid (Out w.heap.size w6 (L ++ [(t5, .slice za zl zc, .slice va vl vc)]) v6) := Lib.hid (HO5.out.app (l1 := w3.heap.size) HNODE.out hg3 HBL5.out hown hgr (by rw [hw5]; exact hat) hnn)
        have hlow := app_low (base := w.heap.size) (by rw [hw5]; omega) HO5.out.own hgr
        have HPS6 := Lib.hid (HPS5.out.low hlow HLO.out)
        have HT6 := Lib.hid (HT5.out.low hlow)
        clear hown hgr hnn hat hlow g0 g1 g2 g3 g4 gfz
        go_wp2_with fail
        go_roundw
        case rel =>
          refine ⟨sel ++ x, L ++ [(t5, .slice za zl zc, .slice va vl vc)], q5, b5, rfl, by simp; omega, by simp [ByteArray.size_append]; omega, HPS6.out, HT6.out, HO6.out, fun e => ?_, fun e => .inr ⟨HBF.out, HQ5.out.2 e⟩⟩
          obtain ⟨h1, h2⟩ := HQ5.out.1 e
          exact ⟨HBF.out, by omega, by simp; omega, h2⟩
        case measure =>
          rw [hlf.out]
          cases b5 with
          | true =>
            have := HPS6.out.left_bad N
            rw [HPB.out] at this
            omega
          | false =>
            have h2 := HPS6.out.left_go N
            rw [HPB.out] at h2
            have h3 := (HQ5.out.1 rfl).1
            omega
end Go.Proofs.YtbflpocbjdccgaaGreatDoor.Parser

namespace Go.Proofs.YtbflpocbjdccgaaGreatDoor.Parser
open Go.RowKit
open Strs Tree Gram

theorem msg_unary {ex : X} {r : R} (h : hd 1 r = true) : message ex r = some (eMsg (txt r) [], r.tail) := by rw [message, if_pos h]
theorem msg_binary {ex : X} {r : R} (h : hd 1 r = false) (h6 : hd 6 r = true) {b : Bool} {t : E} {s : Bool} {r1 : R} (h2 : unary ex r.tail = Got b (t, s, r1)) : message ex r = Got b (eMsg (txt r) [t], r1) := by
  rw [message, if_neg (by rw [h]; simp), if_pos h6, h2]
  cases b <;> rfl
theorem msg_key {ex : X} {r : R} (h : hd 1 r = false) (h6 : hd 6 r = false) {b : Bool} {sel : ByteArray} {L : List E} {r1 : R} (h2 : keyLoop ex none_ [] r = Got b (sel, L, r1)) : message ex r = if sel.size = 0 then none else Got b (eMsg sel L, r1) := by
  rw [message, if_neg (by rw [h]; simp), if_neg (by rw [h6]; simp), h2]
  cases b with
  | true => simp [Got]
  | false => rfl

set_option maxRecDepth 10000 in
set_option maxHeartbeats 8000000 in
theorem message_read {n : Nat} (hx : XC n) {P : Cst} {p : Nat} {w : World} (h : PS P p false w) (hn : (rest P p).length ≤ n) :
    Calls Tryz.prog 29 #[.pointer (some ⟨P.pb, 0, none⟩)] w (Back P w (message (expr n) (rest P p))) := by
  have hb0 : Below w.heap.size w (w.alloc (.cells #[.int .i64 0, .string ⟨#[]⟩, .int .i64 0, .slice none 0 0, .slice none 0 0] 25)) := (Below.refl _ _).alloc (Nat.le_refl _) _
  have h1 := h.below hb0
  have H1 := Lib.hid h1
  have HT := Lib.hid ((Turn.refl P w).low hb0)
  have HZ := Lib.hid (zero_new w 25)
  have HLO := Lib.hid h.lo
  have hpbl := h.size
  have HLEN := Lib.hid hn
  have HF := Lib.hid h.fit
  have KI1 := Lib.hid (is_any h1 1 ⟨#[]⟩)
  have KI6 := fun (w1 : World) (h1 : PS P p false w1) => Lib.hid (is_any h1 6 ⟨#[]⟩)
  have KN := fun (w1 : World) (k : Int) (h1 : PS P p false w1) (hb : isB k ⟨#[]⟩ (rest P p) = true) => Lib.hid (need_yes h1 hb)
  have KU := Lib.hid fun (w1 : World) (q : Nat) (h1 : PS P q false w1) (hl : (rest P q).length ≤ n) => unary_read hx h1 hl
  have KK := Lib.hid fun (w1 : World) (h1 : PS P p false w1) => key_read hx h1 (fun _ => hn)
  generalize hG : message (expr n) (rest P p) = G
  have HG : Hid (G = message (expr n) (rest P p)) := Lib.hid hG.symm
  clear h h1 hb0 hn hx hG
  generalize hpb : P.pb = pb at *
  have HPB := Lib.hid hpb; clear hpb
  cases hb1 : isB 1 ⟨#[]⟩ (rest P p) with
  | true =>
    have HB := Lib.hid hb1
    have HG2 : Hid (G = Got false (eMsg (txt (rest P p)) [], rest P (p + 1))) := Lib.hid (by rw [HG.out, msg_unary (by rw [← isB_none]; exact hb1), rest_tail]; rfl)
    rw [hb1] at KI1
    clear hb1
    go_enter Tryz.func29, Tryz.ntmps29
    go_wp2_with fail
    refine KI1.out.mono ?_
    rintro e w2 ⟨rfl, hd⟩
    have HPS2 := Lib.hid (H1.out.drawn hd)
    have HT2 := Lib.hid (HT.out.drawn hd)
    have HZ2 := Lib.hid (HZ.out.step hd.below)
    have KN2 := Lib.hid (need_yes HPS2.out HB.out)
    rw [HPB.out] at KN2
    have hx4 := text_le (p := p) HF.out
    generalize txt (rest P p) = x at *
    clear hd
    go_wp2_with fail
    refine KN2.out.mono ?_
    rintro e w3 ⟨rfl, h3, ht3⟩
    have HPS3 := Lib.hid h3
    have HT3 := Lib.hid (HT2.out.trans ht3)
    obtain ⟨hsz, z0, z1, z2, z3, z4, fz⟩ := HZ2.out.turn ht3 (by rw [HPB.out]; omega)
    clear h3 ht3
    go_wp2_with fail
    have hb9 := put5_below (Below.refl w.heap.size w3) (B := w.heap.size) (Nat.le_refl _) (.int .i64 6) (.string x) (.int .i64 0) (.slice none 0 0) (.slice none 0 0)
    refine bodyPost_ret (v := .agg #[.int .i64 6, .string x, .int .i64 0, .slice none 0 0, .slice none 0 0]) (by simp [results, Tryz.results29, go_sem, *]) rfl ?_
    exact ⟨_, eMsg x [], p + 1, false, rfl, ⟨_, _, rfl, leaf_node (by rfl) (by rfl) (by show x.size ≤ maxLen; unfold maxLen; omega)⟩, HPS3.out.low hb9 HLO.out, HT3.out.low hb9, HG2.out⟩
  | false =>
    have HN1 := Lib.hid hb1
    rw [hb1] at KI1
    clear hb1
    cases hb6 : isB 6 ⟨#[]⟩ (rest P p) with
    | true =>
      have HB := Lib.hid hb6
      have HQ1 : Hid ((rest P (p + 1)).length ≤ n) := by
        have h1 := HLEN.out
        show _ ≤ _
        rw [rest_len] at h1 ⊢
        omega
      clear hb6
      go_enter Tryz.func29, Tryz.ntmps29
      go_wp2_with fail
      refine KI1.out.mono ?_
      rintro e w2 ⟨rfl, hd⟩
      have HPS2 := Lib.hid (H1.out.drawn hd)
      have HT2 := Lib.hid (HT.out.drawn hd)
      have HZ2 := Lib.hid (HZ.out.step hd.below)
      clear hd
      have K6 := KI6 _ HPS2.out
      rw [HB.out] at K6
      go_wp2_with fail
      refine K6.out.mono ?_
      rintro e w3 ⟨rfl, hd⟩
      have HPS3 := Lib.hid (HPS2.out.drawn hd)
      have HT3 := Lib.hid (HT2.out.drawn hd)
      have HZ3 := Lib.hid (HZ2.out.step hd.below)
      clear hd
      have KN2 := Lib.hid (need_yes HPS3.out HB.out)
      rw [HPB.out] at KN2
      have hx4 := text_le (p := p) HF.out
      generalize hxx : txt (rest P p) = x at *
      have HXX := Lib.hid hxx; clear hxx
      go_wp2_with fail
      refine KN2.out.mono ?_
      rintro e w4 ⟨rfl, h4, ht4⟩
      have HPS4 := Lib.hid h4
      have HT4 := Lib.hid (HT3.out.trans ht4)
      have HZ4 := Lib.hid (HZ3.out.turn ht4 (by rw [HPB.out]; omega))
      clear h4 ht4
      go_wp2_with fail
      refine (KU.out _ _ HPS4.out HQ1.out).mono ?_
      rintro e w5 ⟨v5, t5, s5, q5, b5, rfl, hr5, h5, ht5, hg5⟩
      obtain ⟨xn5, xk5, rfl, hnode5⟩ := hr5
      obtain ⟨za, zl, zc, va, vl, vc, rfl, rfl⟩ := node_forms hnode5
      have HG2 : Hid (G = Got b5 (eMsg x [t5], rest P q5)) := Lib.hid (by rw [HG.out, msg_binary (by rw [← isB_none]; exact HN1.out) (by rw [← isB_none]; exact HB.out) (by rw [rest_tail]; exact hg5), HXX.out])
      have hba : ∀ W : World, Below W.heap.size W (W.alloc (.cells #[.int .i64 t5.kind, .string t5.text, .int .i64 t5.num, .slice za zl zc, .slice va vl vc] 25)) := fun W => (Below.refl _ _).alloc (Nat.le_refl _) _
      have hb9 := put5_below (Below.refl w.heap.size w5) (B := w.heap.size) (Nat.le_refl _) (.int .i64 6) (.string x) (.int .i64 0) (.slice none 0 0) (.slice (some ⟨w5.heap.size + 1, 0, none⟩) 1 1)
      have hs9 : (put5 w5 w.heap.size (.int .i64 6) (.string x) (.int .i64 0) (.slice none 0 0) (.slice (some ⟨w5.heap.size + 1, 0, none⟩) 1 1)).heap.size = w5.heap.size := by simp [put5, World.setCell]
      have hw5 : ((put5 w5 w.heap.size (.int .i64 6) (.string x) (.int .i64 0) (.slice none 0 0) (.slice (some ⟨w5.heap.size + 1, 0, none⟩) 1 1)).alloc (.cells #[.int .i64 t5.kind, .string t5.text, .int .i64 t5.num, .slice za zl zc, .slice va vl vc] 25)).heap.size = w5.heap.size + 1 := by simp [hs9]
      have HK6 := Lib.hid (lit_one (lo := w.heap.size) (NodeAt.keep (lo := w.heap.size) (hi := w.heap.size + 1) (Nat.le_succ _) (kept_below (hba (put5 w5 w.heap.size (.int .i64 6) (.string x) (.int .i64 0) (.slice none 0 0) (.slice (some ⟨w5.heap.size + 1, 0, none⟩) 1 1)))) _ _ _ (NodeAt.keep (lo := w.heap.size + 1) HZ4.out.size (fun _ _ _ _ hc => hc) _ _ _ hnode5 |> NodeAt.keep (Nat.le_refl _) (kept_put5 w5 (Nat.lt_succ_self _) (.int .i64 6) (.string x) (.int .i64 0) (.slice none 0 0) (.slice (some ⟨w5.heap.size + 1, 0, none⟩) 1 1)) _ _ _)) (by have := HZ4.out.size; have := ht5.size; rw [hw5]; omega))
      rw [hw5] at HK6
      have HPS6 := Lib.hid (((h5.low hb9 HLO.out).below (hba _)).below (hba _))
      have HT6 := Lib.hid ((((HT4.out.trans ht5).low hb9).below (hba _)).below (hba _))
      obtain ⟨hsz, z0, z1, z2, z3, z4, fz⟩ := HZ4.out.turn ht5 (by rw [HPB.out]; omega)
      have hB5 : w.heap.size < w5.heap.size := Nat.lt_of_lt_of_le HZ4.out.size ht5.size
      clear h5 ht5 hg5 hnode5 hba hb9 hs9 hw5
      go_wp2_with fail
      refine bodyPost_ret (v := .agg #[.int .i64 6, .string x, .int .i64 0, .slice none 0 0, .slice (some ⟨w5.heap.size + 1, 0, none⟩) 1 1]) (by simp [results, Tryz.results29, go_sem, *]) rfl ?_
      exact ⟨_, eMsg x [t5], q5, b5, rfl, (send_reads (L := [(t5, .slice za zl zc, .slice va vl vc)]) HK6.out (by unfold maxLen; omega)), HPS6.out, HT6.out, HG2.out⟩
    | false =>
      have HN6 := Lib.hid hb6
      clear hb6
      go_enter Tryz.func29, Tryz.ntmps29
      go_wp2_with fail
      refine KI1.out.mono ?_
      rintro e w2 ⟨rfl, hd⟩
      have HPS2 := Lib.hid (H1.out.drawn hd)
      have HT2 := Lib.hid (HT.out.drawn hd)
      have HZ2 := Lib.hid (HZ.out.step hd.below)
      clear hd
      have K6 := KI6 _ HPS2.out
      rw [HN6.out] at K6
      go_wp2_with fail
      refine K6.out.mono ?_
      rintro e w3 ⟨rfl, hd⟩
      have HPS3 := Lib.hid (HPS2.out.drawn hd)
      have HT3 := Lib.hid (HT2.out.drawn hd)
      have HZ3 := Lib.hid (HZ2.out.step hd.below)
      clear hd
      go_wp2_with fail
      refine (KK.out _ HPS3.out).mono ?_
      rintro e w4 ⟨sel, v4, L, q, b, rfl, hk4, hL, hsel, h4, ht4, -, -, hg4⟩
      have HGK : Hid (G = if sel.size = 0 then none else Got b (eMsg sel (trees L), rest P q)) := Lib.hid (by rw [HG.out, msg_key (by rw [← isB_none]; exact HN1.out) (by rw [← isB_none]; exact HN6.out) (hg4 rfl)])
      obtain ⟨ka, kc, hv4, -⟩ := hk4.kids
      have hlt : (trees L).length = L.length := by simp [trees]
      rw [hlt] at hv4
      subst hv4
      have HK4 := Lib.hid (hk4.mono (show w.heap.size + 1 ≤ w3.heap.size from HZ3.out.size))
      have HPS4 := Lib.hid h4
      have HT4 := Lib.hid (HT3.out.trans ht4)
      have c2 := h4.c2
      have fzp := h4.fz
      rw [HPB.out] at c2 fzp
      obtain ⟨hsz, z0, z1, z2, z3, z4, fz⟩ := HZ3.out.turn ht4 (by rw [HPB.out]; omega)
      clear hk4 h4 ht4 hg4 hlt KI1 K6 KN KU KK KI6
      by_cases hs : sel.size = 0
      · have HG2 : Hid (G = Got true (eMsg sel (trees L), rest P q)) := Lib.hid (by rw [HGK.out, if_pos hs]; rfl)
        have e2 : sel.toList.isEmpty = true := by
          rw [ByteArray.toList_eq, List.isEmpty_iff]
          exact List.eq_nil_of_length_eq_zero (by rw [Array.length_toList]; exact hs)
        have hsl : sel.size ≤ 4000 * 801 := hsel
        have HSZ := Lib.hid hs
        clear hs
        have h9 := HPS4.out.no
        have ht9 := HT4.out.set 2 (.bool true)
        rw [HPB.out] at h9 ht9
        have H9 := Lib.hid h9
        have HT9 := Lib.hid ht9
        clear h9 ht9
        go_wp2_with fail
        have hb9 := put5_below (Below.refl w.heap.size (w4.setCell ⟨pb, 2, none⟩ (.bool true))) (B := w.heap.size) (Nat.le_refl _) (.int .i64 6) (.string sel) (.int .i64 0) (.slice none 0 0) (.slice ka L.length kc)
        refine bodyPost_ret (v := .agg #[.int .i64 6, .string sel, .int .i64 0, .slice none 0 0, .slice ka L.length kc]) (by simp [results, Tryz.results29, go_sem, *]) rfl ?_
        exact ⟨_, eMsg sel (trees L), q, true, rfl, send_reads ((HK4.out.keep ((kept_set (lo := w.heap.size + 1) w4 ⟨pb, 2, none⟩ (.bool true) (Nat.lt_succ_of_lt hpbl)).trans (kept_put5 (w4.setCell ⟨pb, 2, none⟩ (.bool true)) (Nat.lt_succ_self _) _ _ _ _ _))).mono (Nat.le_succ _)) (by unfold maxLen; omega), H9.out.low hb9 HLO.out, HT9.out.low hb9, HG2.out⟩
      · have HG2 : Hid (G = Got b (eMsg sel (trees L), rest P q)) := Lib.hid (by rw [HGK.out, if_neg hs])
        have e2 := no_text hs
        clear hs
        go_wp2_with fail
        have hb9 := put5_below (Below.refl w.heap.size w4) (B := w.heap.size) (Nat.le_refl _) (.int .i64 6) (.string sel) (.int .i64 0) (.slice none 0 0) (.slice ka L.length kc)
        refine bodyPost_ret (v := .agg #[.int .i64 6, .string sel, .int .i64 0, .slice none 0 0, .slice ka L.length kc]) (by simp [results, Tryz.results29, go_sem, *]) rfl ?_
        exact ⟨_, eMsg sel (trees L), q, b, rfl, send_reads ((HK4.out.keep ((kept_put5 w4 (Nat.lt_succ_self _) _ _ _ _ _))).mono (Nat.le_succ _)) (by unfold maxLen; omega), HPS4.out.low hb9 HLO.out, HT4.out.low hb9, HG2.out⟩
end Go.Proofs.YtbflpocbjdccgaaGreatDoor.Parser

namespace Go.Proofs.YtbflpocbjdccgaaGreatDoor.Parser
open Go.RowKit
open Strs Tree Gram

/-- Whether an assignment begins. -/
def asg (r : R) : Bool := hd 1 r && mk cGets r.tail
theorem expr_asg {ex : X} {r : R} (h : asg r = true) {b : Bool} {t : E} {r1 : R} (h2 : ex r.tail.tail = Got b (t, r1)) : exprF ex r = Got b (.mk 5 (txt r) 0 [] [t], r1) := by
  unfold asg at h
  rw [exprF, if_pos h, h2]
  cases b <;> rfl
theorem expr_bad {ex : X} {r : R} (h : asg r = false) (h2 : binary ex r = none) : exprF ex r = none := by
  unfold asg at h
  rw [exprF, if_neg (by rw [h]; simp), h2]
theorem expr_key {ex : X} {r r1 : R} {t : E} {s : Bool} (h : asg r = false) (h2 : binary ex r = some (t, s, r1)) (h3 : keyLoop ex none_ [] r1 = none) : exprF ex r = none := by
  unfold asg at h
  rw [exprF, if_neg (by rw [h]; simp), h2]
  simp only
  rw [h3]
theorem expr_go {ex : X} {r r1 r2 : R} {t : E} {s : Bool} {sel : ByteArray} {L : List E} (h : asg r = false) (h2 : binary ex r = some (t, s, r1)) (h3 : keyLoop ex none_ [] r1 = some (sel, L, r2)) :
    exprF ex r = if sel.size = 0 then cascade ex t s r2 else cascade ex (eSend t sel L) true r2 := by
  unfold asg at h
  rw [exprF, if_neg (by rw [h]; simp), h2]
  simp only
  rw [h3]
/-- A message has been sent. -/
def Sent (t : E) : Prop := ∃ e s args, t = eSend e s args
theorem un_sent : ∀ (r : R) (e : E) (s : Bool), (s = true → Sent e) → (unLoop e s r).2.1 = true → Sent (unLoop e s r).1
  | [], e, s, h, h2 => h h2
  | t :: r, e, s, h, h2 => by
    rw [unLoop] at h2 ⊢
    split at h2
    · rename_i hk
      rw [if_pos hk]
      exact un_sent r _ true (fun _ => ⟨_, _, _, rfl⟩) h2
    · rename_i hk
      rw [if_neg hk]
      exact h h2
theorem unary_sent {ex : X} {r r1 : R} {t : E} {s : Bool} (h : unary ex r = some (t, s, r1)) (hs : s = true) : Sent t := by
  unfold unary at h
  split at h
  · cases h
  · rename_i e r2 _
    have := un_sent r2 e false (fun e => nomatch e)
    injection h with h
    rw [h] at this
    exact this hs
theorem bin_sent {ex : X} : ∀ (m : Nat) (r : R) (e e' : E) (s s' : Bool) (r1 : R), r.length ≤ m → (s = true → Sent e) → binLoop ex e s r = some (e', s', r1) → s' = true → Sent e' := by
  intro m
  induction m with
  | zero =>
    intro r e e' s s' r1 hm hS h hs
    have : r = [] := List.eq_nil_of_length_eq_zero (by omega)
    subst this
    rw [binLoop] at h
    simp [hd] at h
    obtain ⟨rfl, rfl, -⟩ := h
    exact hS hs
  | succ m ih =>
    intro r e e' s s' r1 hm hS h hs
    rw [binLoop] at h
    split at h
    · split at h
      · cases h
      · split at h
        · rename_i hlt
          exact ih _ _ _ _ _ _ (by omega) (fun _ => ⟨_, _, _, rfl⟩) h hs
        · cases h
    · cases h; exact hS hs
theorem binary_sent {ex : X} {r r1 : R} {t : E} (h : binary ex r = some (t, true, r1)) : Sent t := by
  unfold binary at h
  split at h
  · cases h
  · rename_i e s r2 hu
    exact bin_sent _ _ _ _ _ _ _ (Nat.le_refl _) (fun hs => unary_sent hu hs) h rfl
theorem cas_stop {ex : X} {ks : List E} {r : R} (h : mk cSemi r = false) : casLoop ex ks r = some (ks, r) := by rw [casLoop, if_neg (by rw [h]; simp)]
theorem cas_none {ex : X} {ks : List E} {r : R} (h : mk cSemi r = true) (h2 : message ex r.tail = none) : casLoop ex ks r = none := by rw [casLoop, if_pos h, h2]
theorem cas_go {ex : X} (hx : Short ex) {ks : List E} {r r1 : R} {m : E} (h : mk cSemi r = true) (h2 : message ex r.tail = some (m, r1)) : casLoop ex ks r = casLoop ex (ks ++ [m]) r1 := by
  have hlt : r1.length < r.length := Nat.lt_trans (message_lt hx h2) (tail_lt h)
  rw [casLoop, if_pos h, h2]
  simp only
  rw [dif_pos hlt]
theorem cascade_no {ex : X} {e : E} {s : Bool} {r : R} (h : mk cSemi r = false) : cascade ex e s r = some (e, r) := by rw [cascade, if_neg (by rw [h]; simp)]
theorem cascade_unsent {ex : X} {e : E} {r : R} (h : mk cSemi r = true) : cascade ex e false r = none := by rw [cascade, if_pos h, if_neg (by simp)]
theorem cascade_got {ex : X} {e : E} {s : ByteArray} {args : List E} {r : R} (h : mk cSemi r = true) {b : Bool} {ks : List E} {r1 : R} (h2 : casLoop ex [e, eMsg s args] r = Got b (ks, r1)) : cascade ex (eSend e s args) true r = Got b (.mk 7 none_ 0 [] ks, r1) := by
  rw [cascade, if_pos h, if_pos rfl]
  show (match casLoop ex [e, eMsg s args] r with | none => none | some (ks, r1) => some (E.mk 7 none_ 0 [] ks, r1)) = _
  rw [h2]
  cases b <;> rfl
theorem isB_semi (r : R) : isB 7 ⟨#[59]⟩ r = mk cSemi r := isB_mk ⟨#[59]⟩ (by decide) r
/-- The last two of the tests for an assignment. -/
theorem asg_one {t : Tok.T} : asg [t] = false := by simp [asg, mk]
theorem asg_two {t u : Tok.T} {r : R} : asg (t :: u :: r) = (decide (t.kind = 1) && (decide (u.kind = 7) && decide (u.text = cGets))) := rfl
theorem asg_no {r : R} (h : hd 1 r = false) : asg r = false := by unfold asg; rw [h]; rfl
end Go.Proofs.YtbflpocbjdccgaaGreatDoor.Parser
