/-
  ImplTree FnExprTextWalk
-/
import Derived.Test.YtbigfeblomfflaaGreatDoorB48
import Derived.Test.YtbigfeblomfflaaGreatDoorB5
import Derived.Test.YtbigfeblomfflaaGreatDoorB10
import Derived.Test.YtbigfeblomfflaaGreatDoorB49
namespace Go.Proofs.YtbigfeblomfflaaGreatDoor
namespace ImplTree
open Go.RowKit
open Strs Tree Soft Dfs TreeTo
theorem field0 (w : World) (a b : Int) : (Instr.field 76 (.agg #[.int .i64 a, .int .i64 b]) 0).run Tryz.prog w = .ok (.int .i64 a) w := by kernel_rfl
theorem field1 (w : World) (a b : Int) : (Instr.field 76 (.agg #[.int .i64 a, .int .i64 b]) 1).run Tryz.prog w = .ok (.int .i64 b) w := by kernel_rfl
theorem size_any {lo : Nat} {e : E} {v : Value} {w : World} (h : Reads lo w e v) (hs : SoftV lo w e v) (hz : size e <= 1048577) :
    Calls Tryz.prog 15 #[v] w fun r w' => r = .returned (.int .i64 (size e)) /\ Below w.heap.size w w' := by
  obtain ⟨vn, vk, rfl, hn⟩ := h
  obtain ⟨_, _, _, _, _, he, hs⟩ := hs
  cases he
  have hb : Below w.heap.size w (w.alloc (.cells #[.int .i64 e.kind, .string e.text, .int .i64 e.num, vn, vk] 27)) := (zB _ _).alloc (zL _) _
  have K := zH (ImplMeas.measure_any _ _ e (node_box hn hs 27) hz)
  have HB := zH hb
  unfold ext at K
  clear hn hs hb hz
  generalize size e = sz at *
  generalize depth e = dp at *
  go_enter Tryz.func15, Tryz.ntmps15
  go_wp2_with fail
  refine K.out.mono ?_
  rintro r w1 ⟨rfl, hb1⟩
  have H1 := zH (HB.out.trans (hb1.mono HB.out.size))
  have f0 := field0 w1 sz dp
  have f1 := field1 w1 sz dp
  clear hb1
  go_wp2_with fail
  go_ret
  exact ⟨rfl, H1.out⟩
theorem depth_any {lo : Nat} {e : E} {v : Value} {w : World} (h : Reads lo w e v) (hs : SoftV lo w e v) (hz : size e <= 1048577) :
    Calls Tryz.prog 16 #[v] w fun r w' => r = .returned (.int .i64 (depth e)) /\ Below w.heap.size w w' := by
  obtain ⟨vn, vk, rfl, hn⟩ := h
  obtain ⟨_, _, _, _, _, he, hs⟩ := hs
  cases he
  have hb : Below w.heap.size w (w.alloc (.cells #[.int .i64 e.kind, .string e.text, .int .i64 e.num, vn, vk] 27)) := (zB _ _).alloc (zL _) _
  have K := zH (ImplMeas.measure_any _ _ e (node_box hn hs 27) hz)
  have HB := zH hb
  unfold ext at K
  clear hn hs hb hz
  generalize size e = sz at *
  generalize depth e = dp at *
  go_enter Tryz.func16, Tryz.ntmps16
  go_wp2_with fail
  refine K.out.mono ?_
  rintro r w1 ⟨rfl, hb1⟩
  have H1 := zH (HB.out.trans (hb1.mono HB.out.size))
  have f0 := field0 w1 sz dp
  have f1 := field1 w1 sz dp
  clear hb1
  go_wp2_with fail
  go_ret
  exact ⟨rfl, H1.out⟩
end ImplTree
namespace fnExprTextW
open Go.RowKit
open Strs Tree Placed Soft
open Go.Proofs.YtbigfeblomfflaaGreatDoor.Parser
open Prn (px parse_of fit_expr flat_len depth_len)
open Print (textOf right_of)
set_option linter.unusedVariables false
theorem flat_some : ∀ l : List Prn.It, Prn.Fit l [] -> l ≠ [] -> Prn.flat l ≠ []
  | [], _, h => absurd rfl h
  | .tok t :: l, hf, _ => by
    obtain ⟨c, F, h1, -⟩ := hf.1
    rw [Prn.flat, Prn.It.text, h1]
    simp
  | .bl c :: l, _, _ => by
    rw [Prn.flat, Prn.It.text]
    simp
theorem text_some {e : E} (h : isExpr e = true) : textOf e ≠ ⟨#[]⟩ := by
  have hr := right_of h
  have hf := fit_expr e true hr
  have hd := depth_len e true hr
  have hp : 0 < depth e := by cases e; rw [depth]; omega
  have hne : px e ≠ [] := by
    intro h0
    rw [h0] at hd
    have : (Prn.toks []).length = 0 := rfl
    omega
  have h1 := flat_some _ hf hne
  unfold textOf
  rw [if_pos h]
  intro h2
  have h3 := congrArg (fun b : ByteArray => b.data.toList) h2
  simp at h3
  exact h1 h3
theorem text_none {e : E} (h : isExpr e = false) : textOf e = ⟨#[]⟩ := by
  unfold textOf
  rw [h]; rfl
theorem text_size {e : E} (hw : weight e <= 900) : (textOf e).size <= 1048576 := by
  unfold textOf
  by_cases h : isExpr e = true
  · rw [if_pos h]
    have := flat_len e true (right_of h)
    show (Prn.flat (px e)).toArray.size <= _
    rw [List.size_toArray]
    omega
  · rw [if_neg h]
    exact Nat.zero_le _
theorem answer_of {e : E} {ts : List Tok.T} (h : isExpr e = true) (hk : e.kind ≠ 9) (ht : Tok.tokens (textOf e) = some ts) : SpecParse.answer (textOf e) = some e := by
  have hr := right_of h
  have hv : right e false = true := by rw [Rights.value_is, hr, decide_eq_true hk]; rfl
  have hd : (textOf e).data.toList = Prn.flat (px e) := by unfold textOf; rw [if_pos h]
  have h1 := Prn.tokens_items (textOf e) (px e) (fit_expr e true hr) hd
  rw [ht] at h1
  split at h1
  · cases h1
    unfold SpecParse.answer Gram.source
    rw [ht]
    show (match Gram.parse (Prn.toks (px e)) with | none => none | some e => if isExpr e = true then some e else none) = some e
    rw [parse_of e hv]
    show (if isExpr e = true then some e else none) = some e
    rw [if_pos h]
  · cases h1
theorem parse_soft (s : ByteArray) (w : World) (hM : Max w) (t0 : E) (ha : SpecParse.answer s = some t0) :
    Calls Tryz.prog 13 #[.string s] w fun e w' => ∃ vn vk, e = .returned (.tuple #[.agg #[.int .i64 t0.kind, .string t0.text, .int .i64 t0.num, vn, vk], .bool true]) /\ DrawTree.NS 0 w' t0 vn vk /\ Below w.heap.size w w' := by
  refine (ParI.parse_any s w hM).mono ?_
  rintro e w' ⟨t, rfl, hte, ho, hb⟩
  rw [ha] at hte
  have h0 : toE t = t0 := hte
  subst h0
  refine ⟨t.vn, t.vk, ?_, ⟨Good.node t ho.good fun _ _ => Nat.zero_le _, Good.soft t ho.good fun _ _ => Nat.zero_le _⟩, hb⟩
  rw [ha, toE_kind, toE_text, toE_num]
  rfl
theorem step5 {B : Nat} {a b c d e : Value} {w w' : World} (h : DrawTree.Fv B a b c d e w) (hb : Below w.heap.size w w') : DrawTree.Fv B a b c d e w' := h.same hb.size (hb.block B h.size)
set_option maxRecDepth 10000 in
set_option maxHeartbeats 8000000 in
theorem walk (w : World) (a : Option Addr) (len cap : Nat) (zs : List Int) (hz : Kit.IsRow .u8 w a len cap zs) (hM : Max w) :
    Calls Tryz.prog 3 #[.slice a len cap] w fun e w' => e = .returned (.bool true) /\ Below w.heap.size w w' := by
  have hm : len <= maxLen := by
    rcases hz with ⟨_, rfl, _⟩ | ⟨x, _, hl, hm, _⟩
    · exact Nat.zero_le _
    · omega
  have HR := zH (Draw.raw_of hz)
  clear hz
  unfold maxLen at hm
  by_cases hbig : (1048576 : Int) < (len : Int)
  · go_enter Tryz.func3, Tryz.ntmps3
    go_wp2
    go_ret
    exact ⟨rfl, zB _ _⟩
  have KD := zH (DrawTree.draws_tree a len cap w (by omega) HR.out)
  have HM := zH hM
  clear hM HR
  go_enter Tryz.func3, Tryz.ntmps3
  go_wp2_with (first | (go_at_call 7; go_in) | fail)
  refine KD.out.mono ?_
  rintro e w1 ⟨t, vn, vk, rfl, hn, hb1, hwt⟩
  obtain ⟨na, nl, nc, ka, kl, kc, rfl, rfl⟩ := zaq hn.1
  obtain ⟨w1b, hw1⟩ : ∃ w1b, w1b = w1.alloc (.cells #[.int .i64 t.kind, .string t.text, .int .i64 t.num, .slice na nl nc, .slice ka kl kc] 27) := ⟨_, rfl⟩
  have hba : Below w1.heap.size w1 w1b := by rw [hw1]; exact (zB _ _).alloc (zL _) _
  have hf := DrawTree.fv_new w1 (.int .i64 t.kind) (.string t.text) (.int .i64 t.num) (.slice na nl nc) (.slice ka kl kc) 27
  rw [<- hw1] at hf
  have HF1 := zH hf
  have HN1 := zH (hn.below hba)
  have hb0 := hb1.trans (hba.mono hb1.size)
  have HB1 := zH hb0
  have HM1 := zH (HM.out.keep hb0)
  have HW1 := zH hw1
  have HWT := zH hwt
  have HSZ : Hid (size t <= 1048577) := zH (by have := Tree.size_weight t; omega)
  have KF := zH (Print.format_any (⟨_, _, rfl, HN1.out.1⟩ : Reads w.heap.size w1b t _) ⟨_, _, _, _, _, rfl, HN1.out.2⟩ (by omega) HM1.out (fun h => by have := flat_len t true (right_of h); omega))
  have HTS := zH (text_size hwt)
  have HT1 : Hid (isExpr t = true -> textOf t ≠ ⟨#[]⟩) := zH text_some
  have HT0 : Hid (isExpr t = false -> textOf t = ⟨#[]⟩) := zH text_none
  have HAN : Hid (∀ ts, isExpr t = true -> t.kind ≠ 9 -> Tok.tokens (textOf t) = some ts -> SpecParse.answer (textOf t) = some t) := zH fun ts h1 h2 h3 => answer_of h1 h2 h3
  clear hn hb1 hba hf hb0 hw1 hwt KD HM
  obtain ⟨-, f0, f1, f2, f3, f4, -⟩ := HF1.out
  go_wp2_with fail
  rw [<- HW1.out]
  clear HW1
  generalize hB3 : w1.heap.size = B3 at *
  clear hB3
  refine KF.out.mono ?_
  rintro e w2 ⟨rfl, hb2⟩
  generalize textOf t = s at *
  have HF2 := zH (step5 HF1.out hb2)
  have HN2 := zH (HN1.out.below hb2)
  have HB2 := zH (HB1.out.trans (hb2.mono HB1.out.size))
  have HM2 := zH (HM1.out.keep hb2)
  have KI := fun d os => zH (Calls.regrown_of (w := w2) (d := d) (os := os) (ImplRight.is_expr (⟨_, _, rfl, HN2.out.1.below (below_regrown w2 d os)⟩ : Reads w.heap.size _ t _) ⟨_, _, _, _, _, rfl, (HN2.out.below (below_regrown w2 d os)).2⟩ (by have := HWT.out; omega)))
  have KS := fun d os => zH (Calls.regrown_of (w := w2) (d := d) (os := os) (SpecRight.is_expr (⟨_, _, rfl, HN2.out.1.below (below_regrown w2 d os)⟩ : Reads w.heap.size _ t _) (by have := HWT.out; omega)))
  clear hb2 KF HF1 HN1 HB1 HM1 f0 f1 f2 f3 f4
  obtain ⟨-, f0, f1, f2, f3, f4, -⟩ := HF2.out
  have k0 := cell_regrown f0; have k1 := cell_regrown f1; have k2 := cell_regrown f2; have k3 := cell_regrown f3; have k4 := cell_regrown f4
  generalize hX : isExpr t = X at *
  cases X with
  | false =>
    obtain rfl := HT0.out rfl
    go_wp2_with fail
    refine wp_region_quiet_below (by kernel_rfl) (by kernel_rfl) ?_
    repeat (go_big_quiet_step (first | (go_at_call 10; exact (KI _ _).out) | (go_at_call 11; exact (KS _ _).out)))
    refine wpQuiet_nil ?_
    intro w3 hw3
    have HB3 := zH (HB2.out.trans ((zac hw3).mono HB2.out.size))
    have KT := zH (SpecParse.tokens_any ⟨#[]⟩ w3 (Nat.zero_le _))
    clear hw3 KI KS k0 k1 k2 k3 k4
    go_wp2_with fail
    refine KT.out.mono ?_
    unfold SpecTokens.Read
    cases Tok.tokens ⟨#[]⟩ with
    | none =>
      rintro e w4 ⟨rfl, hb4⟩
      have HB4 := zH (HB3.out.trans (hb4.mono HB3.out.size))
      clear hb4
      go_wp2_with fail
      go_ret
      exact ⟨rfl, HB4.out⟩
    | some ts =>
      rintro e w4 ⟨v, rfl, -, hb4⟩
      have HB4 := zH (HB3.out.trans (hb4.mono HB3.out.size))
      clear hb4
      go_wp2_with fail
      go_ret
      exact ⟨rfl, HB4.out⟩
  | true =>
    have hne := HT1.out rfl
    have hs3 : s.toList.isEmpty = false := (decide_eq_emptyBytes s).symm.trans (decide_eq_false hne)
    go_wp2_with fail
    refine wp_region_quiet_below (by kernel_rfl) (by kernel_rfl) ?_
    repeat (go_big_quiet_step (first | (go_at_call 10; exact (KI _ _).out) | (go_at_call 11; exact (KS _ _).out)))
    refine wpQuiet_nil ?_
    intro w3 hw3
    have hb3 := zac hw3
    have HB3 := zH (HB2.out.trans (hb3.mono HB2.out.size))
    have HF3 := zH (step5 HF2.out hb3)
    have HN3 := zH (HN2.out.below hb3)
    have HM3 := zH (HM2.out.keep hb3)
    have KT := zH (SpecParse.tokens_any s w3 HTS.out)
    clear hw3 hb3 KI KS HF2 HN2 HB2 HM2 f0 f1 f2 f3 f4 k0 k1 k2 k3 k4 HT0 HT1
    go_wp2_with fail
    refine KT.out.mono ?_
    unfold SpecTokens.Read
    cases hts : Tok.tokens s with
    | none =>
      rintro e w4 ⟨rfl, hb4⟩
      have HB4 := zH (HB3.out.trans (hb4.mono HB3.out.size))
      have HF4 := zH (step5 HF3.out hb4)
      obtain ⟨-, f0, f1, f2, f3, f4, -⟩ := HF4.out
      clear hb4
      go_wp2_with fail
      all_goals go_ret
      all_goals exact ⟨by simp, HB4.out⟩
    | some ts =>
      rintro e w4 ⟨v, rfl, -, hb4⟩
      have HB4 := zH (HB3.out.trans (hb4.mono HB3.out.size))
      have HF4 := zH (step5 HF3.out hb4)
      have HN4 := zH (HN3.out.below hb4)
      have HM4 := zH (HM3.out.keep hb4)
      obtain ⟨-, f0, f1, f2, f3, f4, -⟩ := HF4.out
      clear hb4 KT HB3 HF3 HN3 HM3
      by_cases hk : t.kind = 9
      · have b9 : (t.kind == 9) = true := by rw [beq_iff_eq]; exact hk
        go_wp2_with fail
        go_ret
        exact ⟨by simp, HB4.out⟩
      have b9 : (t.kind == 9) = false := by rw [beq_eq_false_iff_ne]; exact hk
      have KP := zH (parse_soft s w4 HM4.out t (HAN.out ts trivial hk hts))
      clear HAN hts hk HTS
      go_wp2_with fail
      refine KP.out.mono ?_
      rintro e w5 ⟨vn, vk, rfl, hn5, hb5⟩
      obtain ⟨pa, pl, pc, qa, ql, qc, rfl, rfl⟩ := zaq hn5.1
      obtain ⟨w5b, hw5⟩ : ∃ w5b, w5b = w5.alloc (.cells #[.int .i64 t.kind, .string t.text, .int .i64 t.num, .slice pa pl pc, .slice qa ql qc] 27) := ⟨_, rfl⟩
      have hba : Below w5.heap.size w5 w5b := by rw [hw5]; exact (zB _ _).alloc (zL _) _
      have hf := DrawTree.fv_new w5 (.int .i64 t.kind) (.string t.text) (.int .i64 t.num) (.slice pa pl pc) (.slice qa ql qc) 27
      rw [<- hw5] at hf
      have hb6 := hb5.trans (hba.mono hb5.size)
      have HG6 := zH hf
      have HF6 := zH (step5 HF4.out hb6)
      have HN6 := zH (HN4.out.below hb6)
      have HP6 := zH (hn5.below hba)
      have HB6 := zH (HB4.out.trans (hb6.mono HB4.out.size))
      have HW5 := zH hw5
      have heq : eqE t t = true := eqE_yes rfl
      have KE := fun d os => zH (Calls.regrown_of (w := w5b) (d := d) (os := os) (v := .bool true) (by
        have h := ImplEqual.equal_any (⟨_, _, rfl, HN6.out.1.below (below_regrown w5b d os)⟩ : Reads w.heap.size _ t _) (⟨_, _, rfl, HP6.out.1.below (below_regrown w5b d os)⟩ : Reads 0 _ t _) ⟨_, _, _, _, _, rfl, (HN6.out.below (below_regrown w5b d os)).2⟩ ⟨_, _, _, _, _, rfl, (HP6.out.below (below_regrown w5b d os)).2⟩ HSZ.out
        rw [heq] at h
        exact h))
      have KSE := fun d os => zH (Calls.regrown_of (w := w5b) (d := d) (os := os) (ImplTree.size_any (⟨_, _, rfl, HN6.out.1.below (below_regrown w5b d os)⟩ : Reads w.heap.size _ t _) ⟨_, _, _, _, _, rfl, (HN6.out.below (below_regrown w5b d os)).2⟩ HSZ.out))
      have KSF := fun d os => zH (Calls.regrown_of (w := w5b) (d := d) (os := os) (ImplTree.size_any (⟨_, _, rfl, HP6.out.1.below (below_regrown w5b d os)⟩ : Reads 0 _ t _) ⟨_, _, _, _, _, rfl, (HP6.out.below (below_regrown w5b d os)).2⟩ HSZ.out))
      have KDE := fun d os => zH (Calls.regrown_of (w := w5b) (d := d) (os := os) (ImplTree.depth_any (⟨_, _, rfl, HN6.out.1.below (below_regrown w5b d os)⟩ : Reads w.heap.size _ t _) ⟨_, _, _, _, _, rfl, (HN6.out.below (below_regrown w5b d os)).2⟩ HSZ.out))
      have KDF := fun d os => zH (Calls.regrown_of (w := w5b) (d := d) (os := os) (ImplTree.depth_any (⟨_, _, rfl, HP6.out.1.below (below_regrown w5b d os)⟩ : Reads 0 _ t _) ⟨_, _, _, _, _, rfl, (HP6.out.below (below_regrown w5b d os)).2⟩ HSZ.out))
      clear f0 f1 f2 f3 f4 hn5 hb5 hba hf hb6 hw5 KP HB4 HF4 HN4 HM4 heq
      go_upto_region 11 with fail
      rw [<- HW5.out]
      generalize hB5 : w5.heap.size = B5 at *
      clear HW5 hB5
      obtain ⟨-, f0, f1, f2, f3, f4, -⟩ := HF6.out
      obtain ⟨-, g0, g1, g2, g3, g4, -⟩ := HG6.out
      have k0 := cell_regrown f0; have k1 := cell_regrown f1; have k2 := cell_regrown f2; have k3 := cell_regrown f3; have k4 := cell_regrown f4
      have l0 := cell_regrown g0; have l1 := cell_regrown g1; have l2 := cell_regrown g2; have l3 := cell_regrown g3; have l4 := cell_regrown g4
      refine wp_region_quiet_below (by kernel_rfl) (by kernel_rfl) ?_
      repeat (go_big_quiet_step (first | (go_at_call 14; exact (KE _ _).out) | (go_at_call 15; first | exact (KSE _ _).out | exact (KSF _ _).out) | (go_at_call 16; first | exact (KDE _ _).out | exact (KDF _ _).out)))
      refine wpQuiet_nil ?_
      intro w7 hw7
      have HB7 := zH (HB6.out.trans ((zac hw7).mono HB6.out.size))
      clear hw7 KE KSE KSF KDE KDF f0 f1 f2 f3 f4 g0 g1 g2 g3 g4 k0 k1 k2 k3 k4 l0 l1 l2 l3 l4
      go_wp2_with fail
      go_ret
      exact ⟨by simp, HB7.out⟩
end fnExprTextW
end Go.Proofs.YtbigfeblomfflaaGreatDoor
