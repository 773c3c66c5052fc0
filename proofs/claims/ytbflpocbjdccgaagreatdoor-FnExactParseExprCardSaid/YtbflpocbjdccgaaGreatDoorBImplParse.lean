/-
  impl's parser: expressions.
  impl's parser: reading all tokens, with the recovery from a syntax error.
  impl's ParseExpr: it answers as the grammar says, with a tree in blocks of its own.
-/
import Derived.Test.YtbflpocbjdccgaaGreatDoorBParCas
import Derived.Test.YtbflpocbjdccgaaGreatDoorBSpecParseW
import Derived.Test.YtbflpocbjdccgaaGreatDoorBImplTokens
import Derived.Defers
import Derived.Recover
import Derived.Test.YtbflpocbjdccgaaGreatDoorBImplIsExpr
namespace Go.Proofs.YtbflpocbjdccgaaGreatDoor.ParI
open Go.RowKit
open Strs Tree Gram Placed
open Go.Proofs.YtbflpocbjdccgaaGreatDoor.Parser

theorem msgs {n : Nat} (hx : XI n) : MC n 1 ∧ MC n 6 ∧ MC n 2 := ⟨message_1 n, message_6 hx, message_2 hx⟩
/-- What the parser's cell is seen to be. -/
theorem IS.cell {P : Cst} {p : Nat} {w : World} (h : IS P p w) : ∃ a c, w.cell? ⟨P.pb, 0, none⟩ = some (.slice a (P.toks.length - p) c) := by
  obtain ⟨a, c, h1, -⟩ := h.c0
  exact ⟨a, c, h1⟩
def asgOut (x : ByteArray) : Option (E × R) → Option (E × R)
  | none => none
  | some (e, r1) => some (.mk 5 x 0 [] [e], r1)
theorem expr_asg1 {ex : X} {r : R} (h : asg r = true) : exprF ex r = asgOut (txt r) (ex r.tail.tail) := by
  unfold asg at h
  rw [exprF, if_pos h]
  cases ex r.tail.tail with
  | none => rfl
  | some y => rfl

set_option maxRecDepth 10000 in
set_option maxHeartbeats 8000000 in
theorem expr_asgn {n : Nat} (hx : XI n) {P : Cst} {p : Nat} {w : World} (h : IS P p w) (hn : (rest P p).length < n + 1) (ha : asg (rest P p) = true) :
    Calls Tryz.prog 14 #[.pointer (some ⟨P.pb, 0, none⟩)] w (IBack P w (expr (n + 1) (rest P p))) := by
  have hb0 : Below w.heap.size w (w.alloc (.cells #[.int .i64 0, .string ⟨#[]⟩, .int .i64 0, .slice none 0 0, .slice none 0 0] 25)) := (Below.refl _ _).alloc (Nat.le_refl _) _
  have h1 := h.below hb0
  have KA := Lib.hid (startsAssignment_any h1)
  have hh1 : hd 1 (rest P p) = true := by unfold asg at ha; rw [Bool.and_eq_true] at ha; exact ha.1
  have hh2 : mk cGets (rest P (p + 1)) = true := by unfold asg at ha; rw [Bool.and_eq_true, rest_tail] at ha; exact ha.2
  have HG := Lib.hid (expr_asg1 (ex := expr n) ha)
  have HH1 := Lib.hid hh1
  have HH2 := Lib.hid hh2
  have HPS := Lib.hid h1
  have HT := Lib.hid ((Turn.refl P w).low hb0)
  have HZ := Lib.hid (zero_new w 25)
  have HLO := Lib.hid h.lo
  have hpbl := h.size
  have HLEN := Lib.hid hn
  have htx := text_le (p := p) h.fit.fit
  rw [ha] at KA
  clear h hn ha hh1 hh2 h1
  show Calls _ _ _ _ (IBack P w (exprF (expr n) (rest P p)))
  generalize exprF (expr n) (rest P p) = G at *
  generalize hpb : P.pb = pb at *
  have HPB := Lib.hid hpb; clear hpb
  go_enter Tryz.func14, Tryz.ntmps14
  go_wp2_with fail
  refine KA.out.mono ?_
  rintro e w1 ⟨rfl, hb1⟩
  have hps1 := HPS.out.below hb1
  have KT := Lib.hid (take_yes hps1 HH1.out)
  have HT1 := Lib.hid (HT.out.below hb1)
  have HZ1 := Lib.hid (HZ.out.step hb1)
  rw [HPB.out] at KT
  clear hb1 hps1 KA HPS HT HZ
  generalize hxx : txt (rest P p) = x at *
  have HXX := Lib.hid hxx; clear hxx
  go_wp2_with fail
  refine KT.out.mono ?_
  rintro e w2 ⟨rfl, h2, ht2⟩
  have KN := Lib.hid (need_yes h2 HH2.out)
  have HT2 := Lib.hid (HT1.out.trans ht2)
  have HZ2 := Lib.hid (HZ1.out.turn ht2 (by rw [HPB.out]; omega))
  rw [HPB.out] at KN
  clear h2 ht2 KT
  go_wp2_with fail
  refine KN.out.mono ?_
  rintro e w3 ⟨rfl, h3, ht3⟩
  have KE := Lib.hid (hx P (p + 1 + 1) w3 h3 (by
    have h1 := HLEN.out
    have h4 := mk_lt' HH2.out
    rw [rest_len] at h1 ⊢
    omega))
  have HT3 := Lib.hid (HT2.out.trans ht3)
  have HZ3 := Lib.hid (HZ2.out.turn ht3 (by rw [HPB.out]; omega))
  have hs3 := HT3.out.size
  have HG1 : Hid (G = asgOut x (expr n (rest P (p + 1 + 1)))) := Lib.hid (by rw [HG.out, rest_tail, rest_tail])
  rw [HPB.out] at KE
  clear h3 ht3 KN hx HG
  go_wp2_with fail
  refine KE.out.mono ?_
  rintro e w4 (⟨t, q4, rfl, ho4, h4, ht4, hg4⟩ | ⟨⟨v, rfl⟩, ht4, hg4⟩)
  case inr =>
    have HG2 : Hid (G = none) := Lib.hid (by rw [HG1.out, hg4]; rfl)
    have HT4 := Lib.hid (HT3.out.trans ht4)
    clear ht4 hg4 KE HG1
    go_wp2_with fail
    exact ⟨rfl, .inr ⟨⟨_, rfl⟩, HT4.out, HG2.out⟩⟩
  have HG2 : Hid (G = some (.mk 5 x 0 [] [toE t], rest P q4)) := Lib.hid (by rw [HG1.out, hg4]; rfl)
  have hba : Below w4.heap.size w4 (w4.alloc (.cells #[.int .i64 t.kind, .string t.text, .int .i64 t.num, t.vn, t.vk] 25)) := (Below.refl _ _).alloc (Nat.le_refl _) _
  have hz3s := HZ3.out.size
  have HL4 := Lib.hid ((lit_row ho4 ht4.size).node (k := 5) (n := 0) (s := x) (by rfl) (by rfl) (by unfold maxLen; omega))
  have HPS4 := Lib.hid (h4.below hba)
  have HT4 := Lib.hid ((HT3.out.trans ht4).below hba)
  obtain ⟨hszz, y0, y1, y2, y3, y4, yfz⟩ := (HZ3.out.turn ht4 (by rw [HPB.out]; omega)).step hba
  unfold agg
  clear h4 ht4 hg4 ho4 hba KE HG1
  go_wp2_with fail
  have hb9 := put5_below (Below.refl w.heap.size (w4.alloc (.cells #[.int .i64 t.kind, .string t.text, .int .i64 t.num, t.vn, t.vk] 25))) (B := w.heap.size) (Nat.le_refl _) (.int .i64 5) (.string x) (.int .i64 0) (.slice none 0 0) (.slice (some ⟨w4.heap.size, 0, none⟩) 1 1)
  refine bodyPost_ret (v := .agg #[.int .i64 5, .string x, .int .i64 0, .slice none 0 0, .slice (some ⟨w4.heap.size, 0, none⟩) 1 1]) (by simp [results, Tryz.results14, go_sem, *]) rfl ?_
  exact .inl ⟨.mk 5 x 0 [] (.slice none 0 0) (.slice (some ⟨w4.heap.size, 0, none⟩) 1 1) [t], q4, rfl, (Own.put5 HL4.out (B := w.heap.size) (fun hm => by have := HL4.out.lo _ hm; omega) _ _ _ _ _).mono hs3, HPS4.out.low hb9 HLO.out, HT4.out.low hb9, by rw [HG2.out]; rfl⟩
/-- END1 -/
theorem own_sent {u : T} (h : Sent (toE u)) : ∃ s vn vk t0 kt, u = .mk 6 s 0 [] vn vk (t0 :: kt) := by
  obtain ⟨e, s, args, h⟩ := h
  cases u with
  | mk k t n ns vn vk ks =>
    rw [toE] at h
    unfold eSend at h
    injection h with h1 h2 h3 h4 h5
    subst h1 h2 h3 h4
    cases ks with
    | nil => rw [toEs] at h5; cases h5
    | cons t0 kt => exact ⟨_, _, _, _, _, rfl⟩

set_option maxRecDepth 10000 in
set_option maxHeartbeats 8000000 in
theorem expr_other {n : Nat} (hx : XI n) {P : Cst} {p : Nat} {w : World} (h : IS P p w) (hn : (rest P p).length < n + 1) (ha : asg (rest P p) = false) :
    Calls Tryz.prog 14 #[.pointer (some ⟨P.pb, 0, none⟩)] w (IBack P w (expr (n + 1) (rest P p))) := by
  have hb0 : Below w.heap.size w (w.alloc (.cells #[.int .i64 0, .string ⟨#[]⟩, .int .i64 0, .slice none 0 0, .slice none 0 0] 25)) := (Below.refl _ _).alloc (Nat.le_refl _) _
  have h1 := h.below hb0
  have KA := Lib.hid (startsAssignment_any h1)
  have KP := Lib.hid (fun (w1 : World) (q : Nat) (h1 : IS P q w1) (hl : (rest P q).length ≤ n) => primary_any hx h1 hl)
  have KS1 := Lib.hid (fun (w1 : World) (q X : Nat) (t : T) (h1 : IS P q w1) (hl : (rest P q).length ≤ n) (ho : Own (w.heap.size + 1) w1 t) (hw : w.heap.size + 1 ≤ w1.heap.size) (hX : X < w1.heap.size) (hfx : ∀ b, b ∈ foot t → b ≠ X) => sends_x (k := 1) (by decide) (msgs hx).1 h1 hl ho (Nat.lt_succ_of_lt h.size) hw hX hfx)
  have KS2 := Lib.hid (fun (w1 : World) (q X : Nat) (t : T) (h1 : IS P q w1) (hl : (rest P q).length ≤ n) (ho : Own (w.heap.size + 1) w1 t) (hw : w.heap.size + 1 ≤ w1.heap.size) (hX : X < w1.heap.size) (hfx : ∀ b, b ∈ foot t → b ≠ X) => sends_x (k := 6) (by decide) (msgs hx).2.1 h1 hl ho (Nat.lt_succ_of_lt h.size) hw hX hfx)
  have KS3 := Lib.hid (fun (w1 : World) (q X : Nat) (t : T) (h1 : IS P q w1) (hl : (rest P q).length ≤ n) (ho : Own (w.heap.size + 1) w1 t) (hw : w.heap.size + 1 ≤ w1.heap.size) (hX : X < w1.heap.size) (hfx : ∀ b, b ∈ foot t → b ≠ X) => sends_x (k := 2) (by decide) (msgs hx).2.2 h1 hl ho (Nat.lt_succ_of_lt h.size) hw hX hfx)
  have KC := Lib.hid (fun (w1 : World) (q : Nat) (s : ByteArray) (vn vk : Value) (t0 : T) (kt : List T) (h1 : IS P q w1) (hl : (rest P q).length ≤ n) (ho : Own (w.heap.size + 1) w1 (.mk 6 s 0 [] vn vk (t0 :: kt))) (hw : w.heap.size + 1 ≤ w1.heap.size) (hk : kt.length ≤ 3300000) => cascade_any hx h1 hl ho (Nat.lt_succ_of_lt h.size) hw hk)
  have KN := Lib.hid (fun (w1 : World) (q : Nat) (h1 : IS P q w1) => next_any h1)
  have KM := Lib.hid (fun (w1 : World) => mark_any ⟨#[59]⟩ w1)
  have HFINE := Lib.hid (fun (w1 : World) (q : Nat) (h1 : IS P q w1) => fine_rest h1)
  have HTWO : Hid (∀ q, hd 2 (rest P q) = true → 0 < (txt (rest P q)).size) := Lib.hid (fun q hq => by
    obtain ⟨t, r, hr, hk⟩ := hd_some hq
    have h1 := (h.fit.fine t (List.mem_of_getElem? (rest_cons hr).2.1)).two hk
    rw [hr]
    exact h1)
  have HFT := Lib.hid h.fit.fit
  have HA := Lib.hid ha
  have HPS := Lib.hid h1
  have HT := Lib.hid ((Turn.refl P w).low hb0)
  have HZ := Lib.hid (zero_new w 25)
  have HLO := Lib.hid h.lo
  have hpbl := h.size
  have HLEN : Hid (∀ q, p ≤ q → (rest P q).length ≤ n) := Lib.hid (fun q hq => by
    rw [rest_len] at hn ⊢
    omega)
  have hw0 : (w.alloc (.cells #[.int .i64 0, .string ⟨#[]⟩, .int .i64 0, .slice none 0 0, .slice none 0 0] 25)).heap.size = w.heap.size + 1 := by simp
  rw [ha] at KA
  clear h hn ha h1 hx hb0
  show Calls _ _ _ _ (IBack P w (exprF (expr n) (rest P p)))
  generalize hG : exprF (expr n) (rest P p) = G
  have HG := Lib.hid hG; clear hG
  generalize hpb : P.pb = pb at *
  have HPB := Lib.hid hpb; clear hpb
  generalize hN : P.toks.length = N
  have HN := Lib.hid hN; clear hN
  go_enter Tryz.func14, Tryz.ntmps14
  go_wp2_with fail
  refine KA.out.mono ?_
  rintro e w1 ⟨rfl, hb1⟩
  have hps1 := HPS.out.below hb1
  have KP1 := Lib.hid (KP.out w1 p hps1 (HLEN.out p (Nat.le_refl _)))
  have HT1 := Lib.hid (HT.out.below hb1)
  have HZ1 := Lib.hid (HZ.out.step hb1)
  have hs1 := hb1.size
  rw [hw0] at hs1
  clear hb1 hps1 KA HPS HT HZ hw0 KP
  go_wp2_with fail
  refine KP1.out.mono ?_
  rintro e w2 (⟨u0, q0, rfl, ho2, h2, ht2, hg0⟩ | ⟨⟨v, rfl⟩, ht2, hg0⟩)
  case inr =>
    have HG2 : Hid (G = none) := Lib.hid (by rw [← HG.out, expr_prim HA.out hg0])
    have HT2 := Lib.hid (HT1.out.trans ht2)
    clear ht2 hg0 KP1
    go_wp2_with fail
    exact ⟨rfl, .inr ⟨⟨_, rfl⟩, HT2.out, HG2.out⟩⟩
  obtain ⟨ua0, uc0, ub0, ud0, hf1, hf2⟩ := good_forms ho2.good
  obtain ⟨uk0, ut0, un0, uns0, uvn, uvk, uks0⟩ := u0
  simp only [T.vn, T.vk, T.names, T.kids] at hf1 hf2
  subst hf1 hf2
  unfold agg
  simp only [T.kind, T.text, T.num, T.vn, T.vk]
  have hB : w.heap.size + 1 ≤ w2.heap.size := Nat.le_trans hs1 ht2.size
  obtain ⟨w3, hw3⟩ : ∃ w3, w3 = w2.alloc (.cells #[.int .i64 uk0, .string ut0, .int .i64 un0, .slice ua0 uns0.length uc0, .slice ub0 uks0.length ud0] 25) := ⟨_, rfl⟩
  have HW3 := Lib.hid hw3
  have hba : Below w2.heap.size w2 w3 := by rw [hw3]; exact (Below.refl _ _).alloc (Nat.le_refl _) _
  have hsz3 : w3.heap.size = w2.heap.size + 1 := by rw [hw3]; simp
  have hf3 := five_new w2 (.int .i64 uk0) (.string ut0) (.int .i64 un0) (.slice ua0 uns0.length uc0) (.slice ub0 uks0.length ud0) 25
  rw [← hw3] at hf3
  have HP0 := Lib.hid hg0
  have HQ0 : Hid (p < q0 ∧ q0 ≤ N) := Lib.hid (by
    have h3 := primary_lt (expr_short n) hg0
    have h4 := h2.le
    rw [rest_len, rest_len, HN.out] at h3
    rw [HN.out] at h4
    omega)
  have hps3 := h2.below hba
  have HPS0 := Lib.hid hps3
  have HT0 := Lib.hid ((HT1.out.trans ht2).below hba)
  have HZ0 := Lib.hid ((HZ1.out.turn ht2 (by rw [HPB.out]; omega)).step hba)
  have HF0 := Lib.hid hf3
  have HO0 := Lib.hid ((ho2.mono hs1).below hba)
  have HX0 : Hid (∀ b, b ∈ foot (T.mk uk0 ut0 un0 uns0 (.slice ua0 uns0.length uc0) (.slice ub0 uks0.length ud0) uks0) → b ≠ w2.heap.size) := Lib.hid (fun b hb => by
    have h5 := ho2.lt b hb
    omega)
  obtain ⟨ca, cc, c0⟩ := hps3.cell
  rw [HPB.out, HN.out] at c0
  have hq0 := HQ0.out.1
  have hq0' := HQ0.out.2
  generalize hl0 : N - q0 = l0 at c0
  have HL0 := Lib.hid hl0; clear hl0
  clear ho2 h2 ht2 hg0 hba hf3 hps3 KP1 HT1 HZ1 hw3
  go_upto_region 6 with fail
  rw [← HW3.out]
  generalize hBB : w2.heap.size = B at *
  clear HW3
  -- stage 1
  have hsz1w := HF0.out.size
  have KSx := Lib.hid (KS1.out w3 q0 B (T.mk uk0 ut0 un0 uns0 (.slice ua0 uns0.length uc0) (.slice ub0 uks0.length ud0) uks0) HPS0.out (HLEN.out q0 (by omega)) HO0.out (by omega) hsz1w HX0.out)
  unfold agg at KSx
  simp only [T.kind, T.text, T.num, T.vn, T.vk] at KSx
  have f10 := HF0.out.z0
  have f11 := HF0.out.z1
  have f12 := HF0.out.z2
  have f13 := HF0.out.z3
  have f14 := HF0.out.z4
  go_wp2_with fail
  refine KSx.out.mono ?_
  rintro e x1 (⟨u1, q1, rfl, ho, h, ht, hg, hfx⟩ | ⟨⟨v, rfl⟩, ht, hg⟩)
  case inr => exact absurd hg (expr_un (expr_short n))
  obtain ⟨ua1, uc1, ub1, ud1, hf1, hf2⟩ := good_forms ho.good
  obtain ⟨uk1, ut1, un1, uns1, uvn, uvk, uks1⟩ := u1
  simp only [T.vn, T.vk, T.names, T.kids] at hf1 hf2
  subst hf1 hf2
  unfold agg
  simp only [T.kind, T.text, T.num, T.vn, T.vk]
  have HP1 := Lib.hid hg
  have HQ1 : Hid (q0 ≤ q1 ∧ q1 ≤ N) := Lib.hid (by
    have h3 := (sLoop_le (expr_short n) _ _ _ _ _ (Nat.le_refl _) hg).1
    have h4 := h.le
    rw [rest_len, rest_len, HN.out] at h3
    rw [HN.out] at h4
    omega)
  have hq1 := HQ1.out.1
  have hq1' := HQ1.out.2
  obtain ⟨v1, hv1⟩ : ∃ v1, v1 = put5 x1 B (.int .i64 uk1) (.string ut1) (.int .i64 un1) (.slice ua1 uns1.length uc1) (.slice ub1 uks1.length ud1) := ⟨_, rfl⟩
  have HV1 := Lib.hid hv1
  have hb5 : Below B x1 v1 := by rw [hv1]; exact put5_below (Below.refl B x1) (B := B) (Nat.le_refl _) _ _ _ _ _
  have hfo := HF0.out.turn ht (by rw [HPB.out]; omega)
  have HPS1 := Lib.hid (h.low hb5 (HLO.out.le (by omega)))
  have HT1 := Lib.hid ((HT0.out.trans ht).low (hb5.mono (by omega)))
  have HZ1 := Lib.hid ((HZ0.out.turn ht (by rw [HPB.out]; omega)).low hb5 (by omega))
  have HF1 : Hid (Five B (.int .i64 uk1) (.string ut1) (.int .i64 un1) (.slice ua1 uns1.length uc1) (.slice ub1 uks1.length ud1) v1) := Lib.hid (by rw [hv1]; exact five_put hfo)
  have HO1 : Hid (Own (w.heap.size + 1) v1 (T.mk uk1 ut1 un1 uns1 (.slice ua1 uns1.length uc1) (.slice ub1 uks1.length ud1) uks1)) := Lib.hid (by rw [hv1]; exact Own.put5 ho (fun hm => hfx _ hm rfl) _ _ _ _ _)
  have HX1 := Lib.hid hfx
  unfold put5 at hv1
  have HVU1 := Lib.hid hv1
  obtain ⟨-, g0, g1, g2, g3, g4, gfz⟩ := hfo
  clear ho h ht hg hfx hb5 KSx hv1 f10 f11 f12 f13 f14 c0
  go_upto_region 8 with fail
  rw [← HVU1.out]
  clear g0 g1 g2 g3 g4 gfz HVU1 HV1
  -- stage 2
  have hsz2w := HF1.out.size
  have KSx := Lib.hid (KS2.out v1 q1 B (T.mk uk1 ut1 un1 uns1 (.slice ua1 uns1.length uc1) (.slice ub1 uks1.length ud1) uks1) HPS1.out (HLEN.out q1 (by omega)) HO1.out (by omega) hsz2w HX1.out)
  unfold agg at KSx
  simp only [T.kind, T.text, T.num, T.vn, T.vk] at KSx
  have f20 := HF1.out.z0
  have f21 := HF1.out.z1
  have f22 := HF1.out.z2
  have f23 := HF1.out.z3
  have f24 := HF1.out.z4
  go_wp2_with fail
  refine KSx.out.mono ?_
  rintro e x2 (⟨u2, q2, rfl, ho, h, ht, hg, hfx⟩ | ⟨⟨v, rfl⟩, ht, hg⟩)
  case inr =>
    have HG2 : Hid (G = none) := Lib.hid (by rw [← HG.out, expr_bin (expr_short n) HA.out HP0.out HP1.out hg])
    have HTX := Lib.hid (HT1.out.trans ht)
    clear ht hg KSx
    go_wp2_with fail
    exact ⟨rfl, .inr ⟨⟨_, rfl⟩, HTX.out, HG2.out⟩⟩
  obtain ⟨ua2, uc2, ub2, ud2, hf1, hf2⟩ := good_forms ho.good
  obtain ⟨uk2, ut2, un2, uns2, uvn, uvk, uks2⟩ := u2
  simp only [T.vn, T.vk, T.names, T.kids] at hf1 hf2
  subst hf1 hf2
  unfold agg
  simp only [T.kind, T.text, T.num, T.vn, T.vk]
  have HP2 := Lib.hid hg
  have HQ2 : Hid (q1 ≤ q2 ∧ q2 ≤ N) := Lib.hid (by
    have h3 := (sLoop_le (expr_short n) _ _ _ _ _ (Nat.le_refl _) hg).1
    have h4 := h.le
    rw [rest_len, rest_len, HN.out] at h3
    rw [HN.out] at h4
    omega)
  have hq2 := HQ2.out.1
  have hq2' := HQ2.out.2
  obtain ⟨v2, hv2⟩ : ∃ v2, v2 = put5 x2 B (.int .i64 uk2) (.string ut2) (.int .i64 un2) (.slice ua2 uns2.length uc2) (.slice ub2 uks2.length ud2) := ⟨_, rfl⟩
  have HV2 := Lib.hid hv2
  have hb5 : Below B x2 v2 := by rw [hv2]; exact put5_below (Below.refl B x2) (B := B) (Nat.le_refl _) _ _ _ _ _
  have hfo := HF1.out.turn ht (by rw [HPB.out]; omega)
  have HPS2 := Lib.hid (h.low hb5 (HLO.out.le (by omega)))
  have HT2 := Lib.hid ((HT1.out.trans ht).low (hb5.mono (by omega)))
  have HZ2 := Lib.hid ((HZ1.out.turn ht (by rw [HPB.out]; omega)).low hb5 (by omega))
  have HF2 : Hid (Five B (.int .i64 uk2) (.string ut2) (.int .i64 un2) (.slice ua2 uns2.length uc2) (.slice ub2 uks2.length ud2) v2) := Lib.hid (by rw [hv2]; exact five_put hfo)
  have HO2 : Hid (Own (w.heap.size + 1) v2 (T.mk uk2 ut2 un2 uns2 (.slice ua2 uns2.length uc2) (.slice ub2 uks2.length ud2) uks2)) := Lib.hid (by rw [hv2]; exact Own.put5 ho (fun hm => hfx _ hm rfl) _ _ _ _ _)
  have HX2 := Lib.hid hfx
  unfold put5 at hv2
  have HVU2 := Lib.hid hv2
  obtain ⟨-, g0, g1, g2, g3, g4, gfz⟩ := hfo
  clear ho h ht hg hfx hb5 KSx hv2 f20 f21 f22 f23 f24
  go_upto_region 9 with fail
  rw [← HVU2.out]
  clear g0 g1 g2 g3 g4 gfz HVU2 HV2
  -- stage 3
  have hsz3w := HF2.out.size
  have KSx := Lib.hid (KS3.out v2 q2 B (T.mk uk2 ut2 un2 uns2 (.slice ua2 uns2.length uc2) (.slice ub2 uks2.length ud2) uks2) HPS2.out (HLEN.out q2 (by omega)) HO2.out (by omega) hsz3w HX2.out)
  unfold agg at KSx
  simp only [T.kind, T.text, T.num, T.vn, T.vk] at KSx
  have f30 := HF2.out.z0
  have f31 := HF2.out.z1
  have f32 := HF2.out.z2
  have f33 := HF2.out.z3
  have f34 := HF2.out.z4
  go_wp2_with fail
  refine KSx.out.mono ?_
  rintro e x3 (⟨u3, q3, rfl, ho, h, ht, hg, hfx⟩ | ⟨⟨v, rfl⟩, ht, hg⟩)
  case inr =>
    have HG2 : Hid (G = none) := Lib.hid (by rw [← HG.out, expr_key0 (expr_short n) HA.out HP0.out HP1.out HP2.out (HTWO.out q2) hg])
    have HTX := Lib.hid (HT2.out.trans ht)
    clear ht hg KSx
    go_wp2_with fail
    exact ⟨rfl, .inr ⟨⟨_, rfl⟩, HTX.out, HG2.out⟩⟩
  obtain ⟨ua3, uc3, ub3, ud3, hf1, hf2⟩ := good_forms ho.good
  obtain ⟨uk3, ut3, un3, uns3, uvn, uvk, uks3⟩ := u3
  simp only [T.vn, T.vk, T.names, T.kids] at hf1 hf2
  subst hf1 hf2
  unfold agg
  simp only [T.kind, T.text, T.num, T.vn, T.vk]
  have HP3 := Lib.hid hg
  have HQ3 : Hid (q2 ≤ q3 ∧ q3 ≤ N) := Lib.hid (by
    have h3 := (sLoop_le (expr_short n) _ _ _ _ _ (Nat.le_refl _) hg).1
    have h4 := h.le
    rw [rest_len, rest_len, HN.out] at h3
    rw [HN.out] at h4
    omega)
  have hq3 := HQ3.out.1
  have hq3' := HQ3.out.2
  obtain ⟨v3, hv3⟩ : ∃ v3, v3 = put5 x3 B (.int .i64 uk3) (.string ut3) (.int .i64 un3) (.slice ua3 uns3.length uc3) (.slice ub3 uks3.length ud3) := ⟨_, rfl⟩
  have HV3 := Lib.hid hv3
  have hb5 : Below B x3 v3 := by rw [hv3]; exact put5_below (Below.refl B x3) (B := B) (Nat.le_refl _) _ _ _ _ _
  have hfo := HF2.out.turn ht (by rw [HPB.out]; omega)
  have HPS3 := Lib.hid (h.low hb5 (HLO.out.le (by omega)))
  have HT3 := Lib.hid ((HT2.out.trans ht).low (hb5.mono (by omega)))
  have HZ3 := Lib.hid ((HZ2.out.turn ht (by rw [HPB.out]; omega)).low hb5 (by omega))
  have HF3 : Hid (Five B (.int .i64 uk3) (.string ut3) (.int .i64 un3) (.slice ua3 uns3.length uc3) (.slice ub3 uks3.length ud3) v3) := Lib.hid (by rw [hv3]; exact five_put hfo)
  have HO3 : Hid (Own (w.heap.size + 1) v3 (T.mk uk3 ut3 un3 uns3 (.slice ua3 uns3.length uc3) (.slice ub3 uks3.length ud3) uks3)) := Lib.hid (by rw [hv3]; exact Own.put5 ho (fun hm => hfx _ hm rfl) _ _ _ _ _)
  have HX3 := Lib.hid hfx
  unfold put5 at hv3
  have HVU3 := Lib.hid hv3
  obtain ⟨-, g0, g1, g2, g3, g4, gfz⟩ := hfo
  clear ho h ht hg hfx hb5 KSx hv3 f30 f31 f32 f33 f34
  go_upto_region 10 with fail
  rw [← HVU3.out]
  clear g0 g1 g2 g3 g4 gfz HVU3 HV3
  have HG3 : Hid (G = after (expr n) (rest P q0).length (toE (T.mk uk3 ut3 un3 uns3 (.slice ua3 uns3.length uc3) (.slice ub3 uks3.length ud3) uks3)) (rest P q3)) := Lib.hid (by rw [← HG.out, expr_all2 (expr_short n) HA.out HP0.out HP1.out HP2.out (HTWO.out q2) HP3.out])
  have KNx := Lib.hid (KN.out v3 q3 HPS3.out)
  cases hm : mk cSemi (rest P q3) with
  | false =>
    have HNM := Lib.hid (nxt_mark hm)
    have HG4 : Hid (G = some (toE (T.mk uk3 ut3 un3 uns3 (.slice ua3 uns3.length uc3) (.slice ub3 uks3.length ud3) uks3), rest P q3)) := Lib.hid (by rw [HG3.out, after_stop hm])
    clear hm
    generalize nxt (rest P q3) = t at *
    obtain ⟨tk, tt, tn⟩ := t
    by_cases h7 : tk = 7
    · subst h7
      have h8 := HNM.out rfl
      simp only at h8
      have h9 : ¬ tt.toList = [59] := fun e => h8 (by rw [e, ByteArray.toList_eq cSemi]; rfl)
      clear HNM h8
      go_wp2_with fail
      refine KNx.out.mono ?_
      rintro e v4 ⟨rfl, hb4⟩
      have HB4 := Lib.hid hb4
      clear hb4 KNx
      go_wp2_with fail
      refine (KM.out _).mono ?_
      rintro e v5 ⟨rfl, hb5⟩
      have hb := HB4.out.trans (hb5.mono HB4.out.size)
      have HPS5 := Lib.hid (HPS3.out.below hb)
      have HT5 := Lib.hid (HT3.out.below hb)
      have HO5 := Lib.hid (HO3.out.below hb)
      obtain ⟨hszz, y0, y1, y2, y3, y4, yfz⟩ := HZ3.out.step hb
      obtain ⟨hs5, f0, f1, f2, f3, f4, ffz⟩ := HF3.out.step hb
      clear hb5 hb
      go_wp2_with fail
      have hb9 := put5_below (Below.refl w.heap.size v5) (B := w.heap.size) (Nat.le_refl _) (.int .i64 uk3) (.string ut3) (.int .i64 un3) (.slice ua3 uns3.length uc3) (.slice ub3 uks3.length ud3)
      refine bodyPost_ret (v := .agg #[(.int .i64 uk3), (.string ut3), (.int .i64 un3), (.slice ua3 uns3.length uc3), (.slice ub3 uks3.length ud3)]) (by simp [results, Tryz.results14, go_sem, *]) rfl ?_
      exact .inl ⟨(T.mk uk3 ut3 un3 uns3 (.slice ua3 uns3.length uc3) (.slice ub3 uks3.length ud3) uks3), q3, rfl, (Own.put5 HO5.out (B := w.heap.size) (fun hm => by have := HO5.out.lo _ hm; omega) _ _ _ _ _).mono (Nat.le_succ _), HPS5.out.low hb9 HLO.out, HT5.out.low hb9, HG4.out⟩
    · clear HNM
      go_wp2_with fail
      refine KNx.out.mono ?_
      rintro e v4 ⟨rfl, hb4⟩
      have HB4 := Lib.hid hb4
      clear hb4 KNx
      go_wp2_with fail
      refine (KM.out _).mono ?_
      rintro e v5 ⟨rfl, hb5⟩
      have hb := HB4.out.trans (hb5.mono HB4.out.size)
      have HPS5 := Lib.hid (HPS3.out.below hb)
      have HT5 := Lib.hid (HT3.out.below hb)
      have HO5 := Lib.hid (HO3.out.below hb)
      obtain ⟨hszz, y0, y1, y2, y3, y4, yfz⟩ := HZ3.out.step hb
      obtain ⟨hs5, f0, f1, f2, f3, f4, ffz⟩ := HF3.out.step hb
      clear hb5 hb
      go_wp2_with fail
      have hb9 := put5_below (Below.refl w.heap.size v5) (B := w.heap.size) (Nat.le_refl _) (.int .i64 uk3) (.string ut3) (.int .i64 un3) (.slice ua3 uns3.length uc3) (.slice ub3 uks3.length ud3)
      refine bodyPost_ret (v := .agg #[(.int .i64 uk3), (.string ut3), (.int .i64 un3), (.slice ua3 uns3.length uc3), (.slice ub3 uks3.length ud3)]) (by simp [results, Tryz.results14, go_sem, *]) rfl ?_
      exact .inl ⟨(T.mk uk3 ut3 un3 uns3 (.slice ua3 uns3.length uc3) (.slice ub3 uks3.length ud3) uks3), q3, rfl, (Own.put5 HO5.out (B := w.heap.size) (fun hm => by have := HO5.out.lo _ hm; omega) _ _ _ _ _).mono (Nat.le_succ _), HPS5.out.low hb9 HLO.out, HT5.out.low hb9, HG4.out⟩
  | true =>
    obtain ⟨r', hr⟩ := mk_nxt hm (HFINE.out v3 q3 HPS3.out)
    have hnn : nxt (rest P q3) = ⟨7, ⟨#[59]⟩, 0⟩ := by rw [hr]; rfl
    rw [hnn] at KNx
    have HM := Lib.hid hm
    clear hm hr hnn r'
    simp only at KNx
    go_wp2_with fail
    refine KNx.out.mono ?_
    rintro e v4 ⟨rfl, hb4⟩
    have HB4 := Lib.hid hb4
    clear hb4 KNx
    go_wp2_with fail
    refine (KM.out _).mono ?_
    rintro e v5 ⟨rfl, hb5⟩
    have hb := HB4.out.trans (hb5.mono HB4.out.size)
    have HPS5 := Lib.hid (HPS3.out.below hb)
    have HT5 := Lib.hid (HT3.out.below hb)
    have HO5 := Lib.hid (HO3.out.below hb)
    have HZ5 := Lib.hid (HZ3.out.step hb)
    obtain ⟨hs5, f0, f1, f2, f3, f4, ffz⟩ := HF3.out.step hb
    obtain ⟨ca3, cc3, c3⟩ := HPS5.out.cell
    rw [HPB.out, HN.out] at c3
    generalize hl3 : N - q3 = l3 at c3
    have HL3 := Lib.hid hl3; clear hl3
    clear hb5 hb
    by_cases hll : l3 = l0
    · have b1 : ((l3 : Int) == (l0 : Int)) = true := by rw [hll]; exact beq_self_eq_true _
      have HG4 : Hid (G = none) := Lib.hid (by rw [HG3.out, after_bad HM.out (by rw [rest_len, rest_len, HN.out, HL3.out, HL0.out, hll])])
      clear hll
      go_wp2_with fail
      exact ⟨rfl, .inr ⟨⟨_, rfl⟩, HT5.out, HG4.out⟩⟩
    · have b1 : ((l3 : Int) == (l0 : Int)) = false := by
        rw [beq_eq_false_iff_ne]
        omega
      have hne : (rest P q3).length ≠ (rest P q0).length := by rw [rest_len, rest_len, HN.out, HL3.out, HL0.out]; exact hll
      have hsent := (expr_sent (expr_short n) HP1.out HP2.out HP3.out hne).1
      obtain ⟨s, vn, vk, t0, kt, he⟩ := own_sent hsent
      have hsz5 : w.heap.size + 1 ≤ v5.heap.size := by omega
      have KCx : Hid (Calls Tryz.prog 42 #[.pointer (some ⟨pb, 0, none⟩), agg (T.mk uk3 ut3 un3 uns3 (.slice ua3 uns3.length uc3) (.slice ub3 uks3.length ud3) uks3)] v5 (SBack P (w.heap.size + 1) v5 G)) := Lib.hid (by
        have ho := HO5.out
        have h3 := HP3.out
        have hg := HG3.out
        rw [he] at ho h3 hg ⊢
        have hte : toE (T.mk 6 s 0 [] vn vk (t0 :: kt)) = eSend (toE t0) s (toEs kt) := by rw [toE_send]; rfl
        rw [hte] at h3 hg
        have hfew := (sent_few HFT.out HP0.out HP1.out HP2.out h3).1
        rw [toEs_len] at hfew
        rw [hg, after_cas HM.out hne, cascade_sent HM.out]
        exact KC.out v5 q3 s vn vk t0 kt HPS5.out (HLEN.out q3 (by omega)) ho hsz5 hfew)
      unfold agg at KCx
      simp only [T.kind, T.text, T.num, T.vn, T.vk] at KCx
      clear hll hne hsent he
      go_wp2_with fail
      refine KCx.out.mono ?_
      rintro e x6 (⟨u6, q6, rfl, ho, h, ht, hg⟩ | ⟨⟨v, rfl⟩, ht, hg⟩)
      case inr =>
        have HGX := Lib.hid hg
        have HTX := Lib.hid (HT5.out.trans ht)
        clear ht hg KCx
        go_wp2_with fail
        exact ⟨rfl, .inr ⟨⟨_, rfl⟩, HTX.out, HGX.out⟩⟩
      obtain ⟨ua6, uc6, ub6, ud6, hf1, hf2⟩ := good_forms ho.good
      obtain ⟨uk6, ut6, un6, uns6, uvn, uvk, uks6⟩ := u6
      simp only [T.vn, T.vk, T.names, T.kids] at hf1 hf2
      subst hf1 hf2
      unfold agg
      simp only [T.kind, T.text, T.num, T.vn, T.vk]
      have HO6 := Lib.hid ho
      have HPS6 := Lib.hid h
      have HT6 := Lib.hid (HT5.out.trans ht)
      have HG6 := Lib.hid hg
      obtain ⟨hszz, y0, y1, y2, y3, y4, yfz⟩ := HZ5.out.turn ht (by rw [HPB.out]; omega)
      clear ho h ht hg KCx f0 f1 f2 f3 f4 ffz
      go_wp2_with fail
      have hb9 := put5_below (Below.refl w.heap.size x6) (B := w.heap.size) (Nat.le_refl _) (.int .i64 uk6) (.string ut6) (.int .i64 un6) (.slice ua6 uns6.length uc6) (.slice ub6 uks6.length ud6)
      refine bodyPost_ret (v := .agg #[(.int .i64 uk6), (.string ut6), (.int .i64 un6), (.slice ua6 uns6.length uc6), (.slice ub6 uks6.length ud6)]) (by simp [results, Tryz.results14, go_sem, *]) rfl ?_
      exact .inl ⟨(T.mk uk6 ut6 un6 uns6 (.slice ua6 uns6.length uc6) (.slice ub6 uks6.length ud6) uks6), q6, rfl, (Own.put5 HO6.out (B := w.heap.size) (fun hm => by have := HO6.out.lo _ hm; omega) _ _ _ _ _).mono (Nat.le_succ _), HPS6.out.low hb9 HLO.out, HT6.out.low hb9, HG6.out⟩

theorem expr_step {n : Nat} (hx : XI n) : XI (n + 1) := by
  intro P p w h hn
  cases ha : asg (rest P p) with
  | true => exact expr_asgn hx h hn ha
  | false => exact expr_other hx h hn ha
theorem expr_any : ∀ n, XI n
  | 0 => fun _ _ _ _ hn => absurd hn (Nat.not_lt_zero _)
  | n + 1 => expr_step (expr_any n)
end Go.Proofs.YtbflpocbjdccgaaGreatDoor.ParI

namespace Go.Proofs.YtbflpocbjdccgaaGreatDoor.ParI
open Go.RowKit
open Strs Tree Gram Placed
open Go.Proofs.YtbflpocbjdccgaaGreatDoor.Parser

theorem catch_panicking (p : Addr) (x : Bool) (pv : Value) (older : List PanicEntry) (w : World) (hc : w.cell? p = some (.bool x)) (hz : w.frozen? p = false) :
    CallsD Tryz.prog 34 #[.pointer (some p)] (.panicking ({ v := .iface 9 pv, recovered := false } :: older)) w fun e u' w' =>
      e = .returned (.tuple #[]) ∧ u' = .panicking ({ v := .iface 9 pv, recovered := true } :: older) ∧ w' = w.setCell p (.bool false) := by
  refine callsD_of_wpS Tryz.func34 rfl fun c₀ cs hu => ?_
  apply wpS_seq
  apply wpS_region
  simp [wpOpsS, go_sem, recoverD, hu, Tryz.ntmps34, Exit.thenS]
  refine wpS_cond (t := true) (by simp [Act.eval, Array.replicate]) ?_
  simp only [if_true]
  apply wpS_region
  simp [wpOpsS, go_sem, hc, hz, bodyPostS, results, Tryz.results34]

theorem catch_idle (p : Addr) (w : World) :
    CallsD Tryz.prog 34 #[.pointer (some p)] .returning w fun e u' w' => e = .returned (.tuple #[]) ∧ u' = .returning ∧ w' = w := by
  refine callsD_of_wpS Tryz.func34 rfl fun c₀ cs hu => ?_
  apply wpS_seq
  apply wpS_region
  simp [wpOpsS, go_sem, recoverD, hu, Tryz.ntmps34, Exit.thenS]
  refine wpS_cond (t := false) (by simp [Act.eval, Array.replicate]) ?_
  simp only [Bool.false_eq_true, if_false]
  refine wpS_of_wp (wp_skip ?_)
  cases c₀
  simp_all [bodyPostS, results, Tryz.results34]

/-- The function that reads an expression into the variable at block eb. -/
theorem reader_any {P : Cst} {w : World} {eb : Nat} (h : IS P 0 w) (hz : Zero eb w) (hne : eb ≠ P.pb) :
    Calls Tryz.prog 13 #[.pointer (some ⟨P.pb, 0, none⟩), .pointer (some ⟨eb, 0, none⟩)] w fun e w' =>
      (∃ t q w1, e = .returned (.tuple #[]) ∧ Own w.heap.size w1 t ∧ IS P q w1 ∧ Turn P w w1 ∧ w' = put5 w1 eb (.int .i64 t.kind) (.string t.text) (.int .i64 t.num) t.vn t.vk ∧ expr (P.toks.length + 1) (rest P 0) = some (toE t, rest P q)) ∨
      (Dead e ∧ Turn P w w' ∧ expr (P.toks.length + 1) (rest P 0) = none) := by
  have KX := Lib.hid (expr_any (P.toks.length + 1) P 0 w h (by rw [rest_len]; omega))
  have HZ := Lib.hid hz
  clear h hz
  generalize hpb : P.pb = pb at *
  have HPB := Lib.hid hpb; clear hpb
  generalize expr (P.toks.length + 1) (rest P 0) = G at *
  go_enter Tryz.func13, Tryz.ntmps13
  go_wp2_with fail
  refine KX.out.mono ?_
  rintro e w1 (⟨t, q, rfl, ho, h, ht, hg⟩ | ⟨⟨v, rfl⟩, ht, hg⟩)
  case inr =>
    have HG := Lib.hid hg
    have HT := Lib.hid ht
    clear hg ht KX
    go_wp2_with fail
    exact ⟨rfl, .inr ⟨⟨_, rfl⟩, HT.out, HG.out⟩⟩
  obtain ⟨ua, uc, ub, ud, hf1, hf2⟩ := good_forms ho.good
  obtain ⟨uk, ut, un, uns, uvn, uvk, uks⟩ := t
  simp only [T.vn, T.vk, T.names, T.kids] at hf1 hf2
  subst hf1 hf2
  obtain ⟨hszz, y0, y1, y2, y3, y4, yfz⟩ := HZ.out.turn ht (by rw [HPB.out]; exact hne)
  have HO := Lib.hid ho
  have HPS := Lib.hid h
  have HT := Lib.hid ht
  have HG := Lib.hid hg
  unfold agg
  simp only [T.kind, T.text, T.num, T.vn, T.vk]
  clear ho h ht hg KX HZ
  go_wp2_with fail
  go_end0
  exact .inl ⟨_, q, w1, rfl, HO.out, HPS.out, HT.out, rfl, HG.out⟩
/-- A variable of a truth value. -/
structure OkC (B : Nat) (b : Bool) (w : World) : Prop where
  size : B < w.heap.size
  z : w.cell? ⟨B, 0, none⟩ = some (.bool b)
  fz : w.frozen? ⟨B, 0, none⟩ = false
theorem OkC.same {B : Nat} {b : Bool} {w w' : World} (h : OkC B b w) (hs : w.heap.size ≤ w'.heap.size) (hb : w'.heap[B]? = w.heap[B]?) : OkC B b w' :=
  ⟨Nat.lt_of_lt_of_le h.size hs, (World.cell?_of_block (a := ⟨B, 0, none⟩) hb).trans h.z, (World.frozen?_of_block (a := ⟨B, 0, none⟩) hb).trans h.fz⟩
theorem OkC.step {B : Nat} {b : Bool} {w w' : World} (h : OkC B b w) (hb : Below w.heap.size w w') : OkC B b w' := h.same hb.size (hb.block B h.size)
theorem OkC.turn {P : Cst} {B : Nat} {b : Bool} {w w' : World} (h : OkC B b w) (ht : Turn P w w') (hB : B ≠ P.pb) : OkC B b w' := h.same ht.size (World.grownBy.block ht B h.size (by simpa using hB))
theorem okc_new (w : World) (b : Bool) (T : TypeId) : OkC w.heap.size b (w.alloc (.cells #[.bool b] T)) := ⟨by simp, by go_simp, by go_simp⟩
theorem okc_set {B : Nat} {b : Bool} {w : World} (h : OkC B b w) (b' : Bool) : OkC B b' (w.setCell ⟨B, 0, none⟩ (.bool b')) := by
  obtain ⟨h1, h2, h3⟩ := h
  refine ⟨by simpa using h1, ?_, ?_⟩ <;> go_simp
theorem zero_five {B : Nat} {w : World} (h : Zero B w) : Five B (.int .i64 0) (.string ⟨#[]⟩) (.int .i64 0) (.slice none 0 0) (.slice none 0 0) w := ⟨h.size, h.z0, h.z1, h.z2, h.z3, h.z4, h.fz⟩
theorem below_turn {P : Cst} {B : Nat} {a b c : World} (h : Below B a b) (k : Turn P b c) (hp : B ≤ P.pb) (hs : B ≤ b.heap.size) : Below B a c :=
  h.trans ⟨k.os, k.tape, k.output, k.size, fun i hi => World.grownBy.block k i (by omega) (by simp; omega)⟩
theorem below_grown {a b : World} (h : Below a.heap.size a b) (row : Option Nat) : a.grownBy b row := ⟨h.os, h.tape, h.output, h.size, fun i hi _ => h.block i hi⟩
theorem below_grown5 {a b : World} {eb B : Nat} (h : Below a.heap.size a b) (v1 v2 v3 v4 v5 v6 : Value) (hB : a.heap.size ≤ B) : a.grownBy ((put5 b eb v1 v2 v3 v4 v5).setCell ⟨B, 0, none⟩ v6) (some eb) := by
  have h0 : Turn ⟨eb, none, 0, []⟩ a b := (Turn.refl _ a).low h
  have h5 : Turn ⟨eb, none, 0, []⟩ a (put5 b eb v1 v2 v3 v4 v5) := ((((h0.set 0 v1).set 1 v2).set 2 v3).set 3 v4).set 4 v5
  exact h5.low ((Below.refl _ _).setCell (by show a.heap.size ≤ B; exact hB) _)
theorem parse_rest {r r1 : R} {e : E} (h : expr (r.length + 1) r = some (e, r1)) : parse r = if r1.length = 0 then some e else none := by
  unfold parse
  rw [h]
  cases r1 with
  | nil => rfl
  | cons t r => rfl
theorem parse_dead {r : R} (h : expr (r.length + 1) r = none) : parse r = none := by unfold parse; rw [h]
theorem toks_fit {P : Cst} {s : ByteArray} (h : Tok.tokens s = some P.toks) (h1 : P.toks.length ≤ P.cap) (h2 : P.cap ≤ maxLen) : FitI P :=
  ⟨SpecParse.tok_fit h h1 h2, (Tok.tokens_fine s _ h).2.1⟩

/-- What reading all tokens hands back. -/
def AllBack (s : ByteArray) (eb : Nat) (w : World) (e : Ending) (w' : World) : Prop :=
  e = .returned (.bool (Gram.source s).isSome) ∧ w.grownBy w' (some eb) ∧ ∀ t0, Gram.source s = some t0 → ∃ t, toE t = t0 ∧ Own w.heap.size w' t ∧ Five eb (.int .i64 t.kind) (.string t.text) (.int .i64 t.num) t.vn t.vk w'

set_option maxRecDepth 10000 in
set_option maxHeartbeats 8000000 in
theorem parseAll_any (s : ByteArray) (w : World) (hM : Max w) {eb : Nat} (hz : Zero eb w) :
    Calls Tryz.prog 12 #[.string s, .func (.func 13) #[] #[.pointer (some ⟨eb, 0, none⟩)]] w (AllBack s eb w) := by
  have hmf : ∀ (fn : Fn) (first cap : Array Value) (w : World), (Instr.makeFunc fn first cap).run Tryz.prog w = .ok (.func fn first cap) w := fun _ _ _ _ => rfl
  have hb0 : Below w.heap.size w (w.alloc (.cells #[.bool false] 4)) := (Below.refl _ _).alloc (Nat.le_refl _) _
  have KT := Lib.hid (ImplTokens.tokens_any s (w.alloc (.cells #[.bool false] 4)) (hM.keep hb0))
  have HOK := Lib.hid (okc_new w false 4)
  have HZ := Lib.hid (hz.step hb0)
  have HB0 := Lib.hid hb0
  have hez := hz.size
  have hw0 : (w.alloc (.cells #[.bool false] 4)).heap.size = w.heap.size + 1 := by simp
  have HW0 := Lib.hid hw0
  clear hb0 hz hM hw0
  go_enter_defers Tryz.func12, Tryz.ntmps12
  go_wp2_with fail
  refine KT.out.mono ?_
  intro e w1 hread
  cases hts : Tok.tokens s with
  | none =>
    rw [hts] at hread
    obtain ⟨rfl, hb1⟩ := hread
    have hsrc : Gram.source s = none := by unfold Gram.source; rw [hts]
    have HB1 := Lib.hid (HB0.out.trans (hb1.mono (by rw [HW0.out]; omega)))
    have HSRC := Lib.hid hsrc
    obtain ⟨o1, o2, o3⟩ := HOK.out.step hb1
    clear hb1 KT hts hsrc
    go_wp2_with fail
    refine ⟨.bool false, by simp [results, Tryz.results12, go_sem, *], ?_⟩
    have hb9 : Below w.heap.size w ((w1.setCell ⟨w.heap.size, 0, none⟩ (.bool false)).setCell ⟨w.heap.size, 0, none⟩ (.bool false)) := (HB1.out.setCell (by show w.heap.size ≤ w.heap.size; omega) _).setCell (by show w.heap.size ≤ w.heap.size; omega) _
    exact ⟨by rw [HSRC.out]; rfl, below_grown hb9 _, fun t0 h => by (rw [HSRC.out] at h; cases h)⟩
  | some ts =>
    rw [hts] at hread
    obtain ⟨v1, rfl, hown, hb1⟩ := hread
    obtain ⟨ta, cap, rfl⟩ := Kit.row_form hown
    have hroom := SpecParse.own_room hown
    have hs1 : w.heap.size + 1 ≤ w1.heap.size := by rw [← HW0.out]; exact hb1.size
    have hbase : ∀ b o, ta = some ⟨b, o, none⟩ → w.heap.size + 1 ≤ b ∧ b < w1.heap.size := fun b o e => by
      subst e
      have h1 := hown.lt b rfl
      rw [HW0.out] at h1
      exact h1
    have hok1 := HOK.out.step hb1
    obtain ⟨P, hP⟩ : ∃ P : Cst, P = ⟨w1.heap.size, ta, cap, ts⟩ := ⟨_, rfl⟩
    have hpbw : P.pb = w1.heap.size := by rw [hP]
    have hfit : FitI P := toks_fit (s := s) (by rw [hP]; exact hts) (by rw [hP]; exact hroom.2.1) (by rw [hP]; exact hroom.2.2)
    obtain ⟨w3, hw3⟩ : ∃ w3, w3 = (w1.setCell ⟨w.heap.size, 0, none⟩ (.bool true)).alloc (.cells #[.slice ta ts.length cap] 60) := ⟨_, rfl⟩
    have hb2 : Below w.heap.size w1 (w1.setCell ⟨w.heap.size, 0, none⟩ (.bool true)) := (Below.refl _ _).setCell (by show w.heap.size ≤ w.heap.size; omega) _
    have hsz2 : (w1.setCell ⟨w.heap.size, 0, none⟩ (.bool true)).heap.size = w1.heap.size := by simp [World.setCell]
    have hba : Below (w1.setCell ⟨w.heap.size, 0, none⟩ (.bool true)).heap.size (w1.setCell ⟨w.heap.size, 0, none⟩ (.bool true)) w3 := by rw [hw3]; exact (Below.refl _ _).alloc (Nat.le_refl _) _
    have hps : IS P 0 w3 := by
      refine ⟨hfit, ?_, Nat.zero_le _, ?_, fun o => ?_, fun i t ht => ?_⟩
      · rw [hpbw, hw3]
        simp
      · refine ⟨ta, cap, ?_, ?_, hroom.2.2, fun hlt => ?_⟩
        · rw [hpbw, hw3, hP]
          rw [← hsz2]
          go_simp
        · rw [hP]; exact hroom.2.1
        · rw [hP] at hlt
          obtain ⟨b, o, e, -⟩ := SpecParse.tok_cells hown 0 ts[0] (List.getElem?_eq_getElem hlt)
          rw [hP]
          exact ⟨b, o, e, by rw [e]; rfl⟩
      · rw [hpbw, hw3]
        rw [← hsz2]
        go_simp
      · rw [hP] at ht
        obtain ⟨b, o, e, hlt, d0, d1, d2⟩ := SpecParse.tok_cells hown i t ht
        have h1 := hbase b o e
        have hn : b ≠ w.heap.size := by omega
        refine ⟨b, o, by rw [hP]; exact e, by rw [hpbw]; omega, cell_keep hba (other _ _ _ _ _ _ _ (.inl hn) d0), cell_keep hba (other _ _ _ _ _ _ _ (.inl hn) d1), cell_keep hba (other _ _ _ _ _ _ _ (.inl hn) d2)⟩
    have hz1 := HZ.out.step hb1
    have hz3 : Zero eb w3 := (hz1.same (by rw [hsz2]; exact Nat.le_refl _) (set_heap w1 w.heap.size 0 (.bool true) (by omega))).step hba
    have hok3 : OkC w.heap.size true w3 := (okc_set hok1 true).step hba
    have hB3 : Below w.heap.size w w3 := (((HB0.out.trans (hb1.mono (by rw [HW0.out]; omega))).trans hb2).trans (hba.mono (by rw [hsz2]; omega)))
    have KR := Lib.hid (reader_any hps hz3 (by rw [hpbw]; omega))
    rw [hpbw] at KR
    have HSRC : Hid (Gram.source s = parse P.toks) := Lib.hid (by unfold Gram.source; rw [hts, hP])
    have HR0 : Hid (rest P 0 = P.toks) := Lib.hid rfl
    have HPB := Lib.hid hpbw
    have HB3 := Lib.hid hB3
    have HOK3 := Lib.hid hok3
    have HZ4 := Lib.hid hz3
    have hs3 : w3.heap.size = w1.heap.size + 1 := by rw [hw3]; simp
    have HW3 := Lib.hid hw3
    have h8 := hfit.fit.len
    obtain ⟨o1, o2, o3⟩ := hok1
    clear hown hroom hbase hfit hb2 hsz2 hba hps hz1 hz3 hok3 hB3 hb1 KT hts hpbw hP HZ HOK HB0 hw3
    go_upto_region 6 with fail
    rw [← HW3.out]
    clear HW3
    go_wp2_with fail
    refine KR.out.mono ?_
    rintro e w4 (⟨t, q, w4', rfl, ho, h, ht, hw4, hg⟩ | ⟨⟨v, rfl⟩, ht, hg⟩)
    case inr =>
      have hsrc : Gram.source s = none := by
        rw [HSRC.out]
        rw [HR0.out] at hg
        exact parse_dead hg
      have HSRC2 := Lib.hid hsrc
      obtain ⟨o1', o2', o3'⟩ := HOK3.out.turn ht (by rw [HPB.out]; omega)
      have HB4 := Lib.hid (below_turn HB3.out ht (by rw [HPB.out]; omega) (by omega))
      clear hg ht hsrc KR o1 o2 o3
      go_wp2_with fail
      refine leaves_cons (f := 34) (args := #[.pointer (some ⟨w.heap.size, 0, none⟩)]) (by simp) (by simp [go_sem]) ?_
      refine (catch_panicking ⟨w.heap.size, 0, none⟩ true v [] _ o2' o3').mono ?_
      rintro e u' w'' ⟨rfl, rfl, rfl⟩
      refine ⟨.bool false, by simp [results, Tryz.results12, go_sem, *], ?_⟩
      have hb9 : Below w.heap.size w (w4.setCell ⟨w.heap.size, 0, none⟩ (.bool false)) := HB4.out.setCell (by show w.heap.size ≤ w.heap.size; omega) _
      exact ⟨by rw [HSRC2.out]; rfl, below_grown hb9 _, fun t0 h => by (rw [HSRC2.out] at h; cases h)⟩
    have hHe : Gram.source s = if (rest P q).length = 0 then some (toE t) else none := by
      rw [HSRC.out]
      rw [HR0.out] at hg
      exact parse_rest hg
    have hq := h.le
    rw [rest_len] at hHe
    have HSRC2 := Lib.hid hHe
    have hb4 := below_turn HB3.out ht (by rw [HPB.out]; omega) (by omega)
    have hok4 : OkC w.heap.size true w4 := by
      rw [hw4]
      exact (HOK3.out.turn ht (by rw [HPB.out]; omega)).same (by simp [put5, World.setCell]) (put5_heap _ _ _ _ _ _ _ (by omega))
    have HB4 := Lib.hid hb4
    have HW4 := Lib.hid hw4
    obtain ⟨ca, cc, c0⟩ := h.cell
    rw [HPB.out] at c0
    have c1 : w4.cell? ⟨w1.heap.size, 0, none⟩ = some (.slice ca (P.toks.length - q) cc) := by
      rw [hw4]
      exact (World.cell?_of_block (a := ⟨w1.heap.size, 0, none⟩) (put5_heap _ _ _ _ _ _ _ (by show w1.heap.size ≠ eb; omega))).trans c0
    have HO4 : Hid (Own w3.heap.size w4 t) := Lib.hid (by
      rw [hw4]
      exact Own.put5 ho (fun hm => by have := ho.lo _ hm; omega) _ _ _ _ _)
    have HF4 : Hid (Five eb (.int .i64 t.kind) (.string t.text) (.int .i64 t.num) t.vn t.vk w4) := Lib.hid (by
      rw [hw4]
      exact five_put (zero_five (HZ4.out.turn ht (by rw [HPB.out]; omega))))
    generalize P.toks.length - q = l at *
    obtain ⟨o1', o2', o3'⟩ := hok4
    clear hg ht hHe KR o1 o2 o3 ho h hb4 hw4 c0 HSRC HR0
    have hfin : ∀ (b : Bool), (Gram.source s = if b = true then some (toE t) else none) → AllBack s eb w (.returned (.bool b)) (w4.setCell ⟨w.heap.size, 0, none⟩ (.bool b)) := fun b hb => by
      refine ⟨?_, ?_, fun t0 h => ?_⟩
      · rw [hb]; cases b <;> rfl
      · rw [HW4.out]
        exact below_grown5 HB4.out _ _ _ _ _ _ (Nat.le_refl _)
      · rw [hb] at h
        cases b with
        | false => cases h
        | true =>
          cases h
          refine ⟨t, rfl, (HO4.out.frame fun x hx => set_heap _ _ _ _ (by have := HO4.out.lo x hx; omega)).mono (by omega), HF4.out.same (by simp [World.setCell]) (set_heap _ _ _ _ (by omega))⟩
    have HFIN := Lib.hid hfin
    clear hfin
    by_cases hl : l = 0
    · have b1 : ((l : Int) == 0) = true := by rw [hl]; rfl
      have HE : Hid (Gram.source s = if true = true then some (toE t) else none) := Lib.hid (by rw [HSRC2.out, if_pos hl, if_pos rfl])
      clear hl
      go_wp2_with fail
      refine leaves_cons (f := 34) (args := #[.pointer (some ⟨w.heap.size, 0, none⟩)]) (by simp) (by simp [go_sem]) ?_
      refine (catch_idle ⟨w.heap.size, 0, none⟩ _).mono ?_
      rintro e u' w'' ⟨rfl, rfl, rfl⟩
      exact ⟨.bool true, by simp [results, Tryz.results12, go_sem, *], HFIN.out true HE.out⟩
    · have b1 : ((l : Int) == 0) = false := by
        rw [beq_eq_false_iff_ne]
        omega
      have HE : Hid (Gram.source s = if false = true then some (toE t) else none) := Lib.hid (by rw [HSRC2.out, if_neg hl, if_neg (by simp)])
      clear hl
      go_wp2_with fail
      refine leaves_cons (f := 34) (args := #[.pointer (some ⟨w.heap.size, 0, none⟩)]) (by simp) (by simp [go_sem]) ?_
      refine (catch_idle ⟨w.heap.size, 0, none⟩ _).mono ?_
      rintro e u' w'' ⟨rfl, rfl, rfl⟩
      exact ⟨.bool false, by simp [results, Tryz.results12, go_sem, *], HFIN.out false HE.out⟩
end Go.Proofs.YtbflpocbjdccgaaGreatDoor.ParI

namespace Go.Proofs.YtbflpocbjdccgaaGreatDoor.ParI
open Go.RowKit
open Strs Tree Gram Placed
open Go.Proofs.YtbflpocbjdccgaaGreatDoor.Parser

/-- What impl's ParseExpr hands back. -/
def OwnBack (a : Option E) (w : World) (e : Ending) (w' : World) : Prop :=
  ∃ t : T, e = .returned (.tuple #[agg t, .bool a.isSome]) ∧ toE t = a.getD SpecParse.eZero ∧ Own w.heap.size w' t ∧ Below w.heap.size w w'

set_option maxRecDepth 10000 in
set_option maxHeartbeats 8000000 in
theorem parse_any (s : ByteArray) (w : World) (hM : Max w) :
    Calls Tryz.prog 5 #[.string s] w (OwnBack (SpecParse.answer s) w) := by
  have hmf : ∀ (fn : Fn) (first cap : Array Value) (w : World), (Instr.makeFunc fn first cap).run Tryz.prog w = .ok (.func fn first cap) w := fun _ _ _ _ => rfl
  have hnot : ∀ (x : Bool) (w : World), (Op.unary .not (.bool x)).run Tryz.prog w = .ok (.bool (!x)) w := fun _ _ => rfl
  have hb0 : Below w.heap.size w (w.alloc (.cells #[.int .i64 0, .string ⟨#[]⟩, .int .i64 0, .slice none 0 0, .slice none 0 0] 25)) := (Below.refl _ _).alloc (Nat.le_refl _) _
  have hw0 : (w.alloc (.cells #[.int .i64 0, .string ⟨#[]⟩, .int .i64 0, .slice none 0 0, .slice none 0 0] 25)).heap.size = w.heap.size + 1 := by simp
  have hb1 : Below (w.alloc (.cells #[.int .i64 0, .string ⟨#[]⟩, .int .i64 0, .slice none 0 0, .slice none 0 0] 25)).heap.size (w.alloc (.cells #[.int .i64 0, .string ⟨#[]⟩, .int .i64 0, .slice none 0 0, .slice none 0 0] 25)) ((w.alloc (.cells #[.int .i64 0, .string ⟨#[]⟩, .int .i64 0, .slice none 0 0, .slice none 0 0] 25)).alloc (.cells #[.int .i64 0, .string ⟨#[]⟩, .int .i64 0, .slice none 0 0, .slice none 0 0] 25)) := (Below.refl _ _).alloc (Nat.le_refl _) _
  have hb2 := hb0.trans (hb1.mono hb0.size)
  have hz := (zero_new w 25).step hb1
  have hze := zero_new (w.alloc (.cells #[.int .i64 0, .string ⟨#[]⟩, .int .i64 0, .slice none 0 0, .slice none 0 0] 25)) 25
  rw [hw0] at hze
  have hs2 : ((w.alloc (.cells #[.int .i64 0, .string ⟨#[]⟩, .int .i64 0, .slice none 0 0, .slice none 0 0] 25)).alloc (.cells #[.int .i64 0, .string ⟨#[]⟩, .int .i64 0, .slice none 0 0, .slice none 0 0] 25)).heap.size = w.heap.size + 2 := by simp
  have KA := Lib.hid (parseAll_any s _ (hM.keep hb2) hze)
  have HB2 := Lib.hid hb2
  have HZ := Lib.hid hz
  have HS2 := Lib.hid hs2
  have HA : Hid (SpecParse.answer s = match Gram.source s with | none => none | some e => if isExpr e = true then some e else none) := Lib.hid rfl
  have HLI := Lib.hid (fun e h => Gram.source_light (s := s) (e := e) h)
  clear hM hb0 hw0 hb1 hb2 hz hze hs2
  generalize SpecParse.answer s = A at *
  go_enter Tryz.func5, Tryz.ntmps5
  go_wp2_with fail
  refine KA.out.mono ?_
  rintro e w3 ⟨rfl, hgr, hval⟩
  have ht : Turn ⟨w.heap.size + 1, none, 0, []⟩ ((w.alloc (.cells #[.int .i64 0, .string ⟨#[]⟩, .int .i64 0, .slice none 0 0, .slice none 0 0] 25)).alloc (.cells #[.int .i64 0, .string ⟨#[]⟩, .int .i64 0, .slice none 0 0, .slice none 0 0] 25)) w3 := hgr
  have hs3 := ht.size
  rw [HS2.out] at hs3
  have HZ3 := Lib.hid (HZ.out.turn ht (by simp))
  have HB3 := Lib.hid (below_turn HB2.out ht (by simp) HB2.out.size)
  rw [HS2.out] at hval
  clear ht hgr KA HB2 HZ
  cases hsrc : Gram.source s with
  | none =>
    have HA2 : Hid (A = none) := Lib.hid (by rw [HA.out, hsrc])
    obtain ⟨hszz, y0, y1, y2, y3, y4, yfz⟩ := HZ3.out
    have e1 : (none : Option E).isSome = false := rfl
    clear hsrc hval HA HLI HS2
    go_wp2_with fail
    have hb9 := put5_below (Below.refl w.heap.size w3) (B := w.heap.size) (Nat.le_refl _) (.int .i64 0) (.string ⟨#[]⟩) (.int .i64 0) (.slice none 0 0) (.slice none 0 0)
    refine bodyPost_ret (v := .tuple #[.agg #[.int .i64 0, .string ⟨#[]⟩, .int .i64 0, .slice none 0 0, .slice none 0 0], .bool false]) (by simp [results, Tryz.results5, go_sem, *]) rfl ?_
    exact ⟨.mk 0 ⟨#[]⟩ 0 [] (.slice none 0 0) (.slice none 0 0) [], by rw [HA2.out]; rfl, by rw [HA2.out]; rfl, own_leaf (by rfl) (by rfl) (Nat.zero_le _), HB3.out.trans hb9⟩
  | some t0 =>
    obtain ⟨t, hte, ho, hf⟩ := hval t0 hsrc
    have hr := ho.reads
    have hsoft : TreeTo.SoftV (w.heap.size + 2) w3 t0 (agg t) := by
      rw [← hte]
      exact ⟨_, _, _, _, _, rfl, Good.soft t ho.good ho.lo⟩
    rw [hte] at hr
    have KI := Lib.hid (ImplRight.is_expr hr hsoft (Nat.le_trans (HLI.out t0 hsrc) (by decide)))
    have HA2 : Hid (A = if isExpr t0 = true then some t0 else none) := Lib.hid (by rw [HA.out, hsrc])
    have e1 : (some t0).isSome = true := rfl
    clear hsrc hval HA HLI HS2
    obtain ⟨ua, uc, ub, ud, hf1, hf2⟩ := good_forms ho.good
    obtain ⟨uk, ut, un, uns, uvn, uvk, uks⟩ := t
    simp only [T.vn, T.vk, T.names, T.kids] at hf1 hf2
    subst hf1 hf2
    unfold agg at KI
    simp only [T.kind, T.text, T.num, T.vn, T.vk] at KI hf
    have HO := Lib.hid ho
    have HF := Lib.hid hf
    have HTE := Lib.hid hte
    obtain ⟨hs5, f0, f1, f2, f3, f4, ffz⟩ := hf
    clear ho hr hsoft hte
    generalize isExpr t0 = b at *
    cases b with
    | false =>
      rw [if_neg (by simp)] at HA2
      go_wp2_with fail
      refine KI.out.mono ?_
      rintro e w4 ⟨rfl, hb4⟩
      have HB4 := Lib.hid (HB3.out.trans (hb4.mono HB3.out.size))
      obtain ⟨hszz, y0, y1, y2, y3, y4, yfz⟩ := HZ3.out.step hb4
      clear hb4 KI f0 f1 f2 f3 f4 ffz
      go_wp2_with fail
      have hb9 := put5_below (Below.refl w.heap.size w4) (B := w.heap.size) (Nat.le_refl _) (.int .i64 0) (.string ⟨#[]⟩) (.int .i64 0) (.slice none 0 0) (.slice none 0 0)
      refine bodyPost_ret (v := .tuple #[.agg #[.int .i64 0, .string ⟨#[]⟩, .int .i64 0, .slice none 0 0, .slice none 0 0], .bool false]) (by simp [results, Tryz.results5, go_sem, *]) rfl ?_
      exact ⟨.mk 0 ⟨#[]⟩ 0 [] (.slice none 0 0) (.slice none 0 0) [], by rw [HA2.out]; rfl, by rw [HA2.out]; rfl, own_leaf (by rfl) (by rfl) (Nat.zero_le _), HB4.out.trans hb9⟩
    | true =>
      rw [if_pos rfl] at HA2
      go_wp2_with fail
      refine KI.out.mono ?_
      rintro e w4 ⟨rfl, hb4⟩
      have HB4 := Lib.hid (HB3.out.trans (hb4.mono HB3.out.size))
      obtain ⟨hszz, y0, y1, y2, y3, y4, yfz⟩ := HZ3.out.step hb4
      have HO4 := Lib.hid (HO.out.below hb4)
      obtain ⟨gs5, g0, g1, g2, g3, g4, gfz⟩ := HF.out.step hb4
      clear hb4 KI f0 f1 f2 f3 f4 ffz
      go_wp2_with fail
      have hb9 := put5_below (Below.refl w.heap.size w4) (B := w.heap.size) (Nat.le_refl _) (.int .i64 uk) (.string ut) (.int .i64 un) (.slice ua uns.length uc) (.slice ub uks.length ud)
      refine bodyPost_ret (v := .tuple #[.agg #[.int .i64 uk, .string ut, .int .i64 un, .slice ua uns.length uc, .slice ub uks.length ud], .bool true]) (by simp [results, Tryz.results5, go_sem, *]) rfl ?_
      exact ⟨.mk uk ut un uns (.slice ua uns.length uc) (.slice ub uks.length ud) uks, by rw [HA2.out]; rfl, by rw [HA2.out]; exact HTE.out, (Own.put5 HO4.out (B := w.heap.size) (fun hm => by have := HO4.out.lo _ hm; omega) _ _ _ _ _).mono (by omega), HB4.out.trans hb9⟩
end Go.Proofs.YtbflpocbjdccgaaGreatDoor.ParI
