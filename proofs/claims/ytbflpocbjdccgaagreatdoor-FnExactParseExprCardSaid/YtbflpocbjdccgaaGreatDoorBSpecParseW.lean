/-
  spec.ParseExpr reads what the grammar reads of a source, if it is an expression.
-/
import Derived.Test.YtbflpocbjdccgaaGreatDoorBSpecParse
namespace Go.Proofs.YtbflpocbjdccgaaGreatDoor.SpecParse
open Go.RowKit
open Strs Tree Gram
open Go.Proofs.YtbflpocbjdccgaaGreatDoor.Parser

def eZero : E := .mk 0 none_ 0 [] []
/-- The expression of a source. -/
noncomputable def answer (s : ByteArray) : Option E := match source s with | none => none | some e => if isExpr e = true then some e else none
/-- What ParseExpr hands back. -/
def ParseBack (a : Option E) (w : World) (e : Ending) (w' : World) : Prop :=
  ∃ v, e = .returned (.tuple #[v, .bool a.isSome]) ∧ Reads w.heap.size w' (a.getD eZero) v ∧ Below w.heap.size w w'
theorem zero_reads (lo : Nat) (w : World) : Reads lo w eZero (.agg #[.int .i64 0, .string ⟨#[]⟩, .int .i64 0, .slice none 0 0, .slice none 0 0]) :=
  ⟨_, _, rfl, leaf_node (by rfl) (by rfl) (Nat.zero_le _)⟩
theorem tokens_any (s : ByteArray) (w : World) (hs : s.size ≤ 1048576) :
    Calls Tryz.prog 9 #[.string s] w (SpecTokens.Read (Tok.tokens s) w) := by
  by_cases h : 4000 < s.size
  · exact SpecTokens.tokens_big s w hs h
  · exact SpecTokens.tokens_small s w h
theorem row_at (ts : List Tok.T) (i : Nat) (t : Tok.T) (h : ts[i]? = some t) : (SpecTokens.row ts)[i * 3]? = some (.int .i64 t.kind) ∧ (SpecTokens.row ts)[i * 3 + 1]? = some (.string t.text) ∧ (SpecTokens.row ts)[i * 3 + 2]? = some (.int .i64 t.num) := by
  induction ts generalizing i with
  | nil => simp at h
  | cons x xs ih =>
    have e : SpecTokens.row (x :: xs) = .int .i64 x.kind :: .string x.text :: .int .i64 x.num :: SpecTokens.row xs := rfl
    rw [e]
    cases i with
    | zero => simp at h; subst h; exact ⟨rfl, rfl, rfl⟩
    | succ i =>
      have := ih i (by simpa using h)
      rw [show (i + 1) * 3 = i * 3 + 1 + 1 + 1 by omega]
      simpa using this
theorem tok_cells {w : World} {base : Nat} {a : Option Addr} {n c : Nat} {ts : List Tok.T} (h : w.ownsRow base 48 3 (.slice a n c) ts.length (SpecTokens.row ts)) (i : Nat) (t : Tok.T) (ht : ts[i]? = some t) :
    ∃ b o, a = some ⟨b, o, none⟩ ∧ b < w.heap.size ∧ w.cell? ⟨b, o + i * 3, none⟩ = some (.int .i64 t.kind) ∧ w.cell? ⟨b, o + i * 3 + 1, none⟩ = some (.string t.text) ∧ w.cell? ⟨b, o + i * 3 + 2, none⟩ = some (.int .i64 t.num) := by
  have h' := h
  have hl := (List.getElem?_eq_some_iff.1 ht).1
  obtain ⟨hx, ⟨_, hn⟩ | ⟨g, cap, cur, hv, hbg, hg, hnc, hcm, _, _⟩⟩ := h
  · omega
  · injection hv with h1 h2 h3
    subst h1 h2 h3
    obtain ⟨r0, r1, r2⟩ := row_at ts i t ht
    refine ⟨g, 0, rfl, (h'.lt g rfl).2, ?_, ?_, ?_⟩
    · rw [Nat.zero_add, h'.cellAt _ (by omega)]; exact r0
    · rw [Nat.zero_add, h'.cellAt _ (by omega)]; exact r1
    · rw [Nat.zero_add, h'.cellAt _ (by omega)]; exact r2
theorem tok_fit {P : Cst} {s : ByteArray} (h : Tok.tokens s = some P.toks) (h1 : P.toks.length ≤ P.cap) (h2 : P.cap ≤ maxLen) : Fit P := by
  obtain ⟨a, b, c⟩ := Tok.tokens_fine s _ h
  exact ⟨a, h1, h2, fun t ht => Nat.le_trans (Tok.texts_mem ht) c, fun t ht => (b t ht).wf.1, fun t ht => (b t ht).wf.2⟩
theorem own_room {w : World} {base : Nat} {e : TypeId} {size : Nat} {a : Option Addr} {n c m : Nat} {xs : List Value} (h : w.ownsRow base e size (.slice a n c) m xs) : n = m ∧ m ≤ c ∧ c ≤ maxLen := by
  obtain ⟨_, ⟨hv, hn⟩ | ⟨g, cap, cur, hv, hbg, hg, hnc, hcm, _, _⟩⟩ := h
  · injection hv with h1 h2 h3
    subst h2 h3 hn
    exact ⟨rfl, Nat.le_refl _, Nat.zero_le _⟩
  · injection hv with h1 h2 h3
    subst h2 h3
    exact ⟨rfl, hnc, hcm⟩

set_option maxRecDepth 10000 in
set_option maxHeartbeats 8000000 in
theorem parse_any (s : ByteArray) (w : World) (hs : s.size ≤ 1048576) :
    Calls Tryz.prog 4 #[.string s] w (ParseBack (answer s) w) := by
  have hb0 : Below w.heap.size w (w.alloc (.cells #[.int .i64 0, .string ⟨#[]⟩, .int .i64 0, .slice none 0 0, .slice none 0 0] 25)) := (Below.refl _ _).alloc (Nat.le_refl _) _
  have HB0 := Lib.hid hb0
  have HZ := Lib.hid (zero_new w 25)
  have KT := Lib.hid (tokens_any s (w.alloc (.cells #[.int .i64 0, .string ⟨#[]⟩, .int .i64 0, .slice none 0 0, .slice none 0 0] 25)) hs)
  have hw0 : (w.alloc (.cells #[.int .i64 0, .string ⟨#[]⟩, .int .i64 0, .slice none 0 0, .slice none 0 0] 25)).heap.size = w.heap.size + 1 := by simp
  have HW0 := Lib.hid hw0
  clear hb0 hw0
  generalize hA : answer s = A
  have HA := Lib.hid hA; clear hA
  go_enter Tryz.func4, Tryz.ntmps4
  go_wp2_with fail
  refine KT.out.mono ?_
  intro e w1 hread
  cases hts : Tok.tokens s with
  | none =>
    rw [hts] at hread
    obtain ⟨rfl, hb1⟩ := hread
    have hAn : A = none := by rw [← HA.out]; unfold answer source; rw [hts]
    subst hAn
    clear HA hts
    have HB1 := Lib.hid hb1
    obtain ⟨hszz, y0, y1, y2, y3, y4, yfz⟩ := HZ.out.step hb1
    have hB := Lib.hid (HB0.out.trans (hb1.mono (by rw [HW0.out]; omega)))
    clear hb1 KT
    go_wp2_with fail
    have hb9 := put5_below (Below.refl w.heap.size w1) (B := w.heap.size) (Nat.le_refl _) (.int .i64 0) (.string ⟨#[]⟩) (.int .i64 0) (.slice none 0 0) (.slice none 0 0)
    refine bodyPost_ret (v := .tuple #[.agg #[.int .i64 0, .string ⟨#[]⟩, .int .i64 0, .slice none 0 0, .slice none 0 0], .bool false]) (by simp [results, Tryz.results4, go_sem, *]) rfl ?_
    exact ⟨_, rfl, zero_reads _ _, (hB.out.trans hb9).alloc (hB.out.trans hb9).size _⟩
  | some ts =>
    rw [hts] at hread
    obtain ⟨v1, rfl, hown, hb1⟩ := hread
    obtain ⟨ta, cap, rfl⟩ := Kit.row_form hown
    have hroom := own_room hown
    have hpb : ∀ b o, ta = some ⟨b, o, none⟩ → b < w1.heap.size := fun b o e => by
      subst e
      exact (hown.lt b rfl).2
    have HB1 := Lib.hid hb1
    have hz1 := HZ.out.step hb1
    have HBB := Lib.hid (HB0.out.trans (hb1.mono (by rw [HW0.out]; omega)))
    have hw1 : w.heap.size + 1 ≤ w1.heap.size := hz1.size
    obtain ⟨P, hP⟩ : ∃ P : Cst, P = ⟨w1.heap.size, ta, cap, ts⟩ := ⟨_, rfl⟩
    have hpbw : P.pb = w1.heap.size := by rw [hP]
    have hfit : Fit P := tok_fit (s := s) (by rw [hP]; exact hts) (by rw [hP]; exact hroom.2.1) (by rw [hP]; exact hroom.2.2)
    have hba : Below w1.heap.size w1 (w1.alloc (.cells #[.slice ta ts.length cap, .int .i64 0, .bool false] 35)) := (Below.refl _ _).alloc (Nat.le_refl _) _
    have hps : PS P 0 false (w1.alloc (.cells #[.slice ta ts.length cap, .int .i64 0, .bool false] 35)) := by
      subst hP
      refine ⟨hfit, by simp, Nat.zero_le _, ?_, ?_, ?_, fun o => ?_, fun i t ht => ?_⟩
      · go_simp
      · go_simp
      · go_simp
      · go_simp
      · obtain ⟨b, o, e, hlt, d0, d1, d2⟩ := tok_cells hown i t ht
        exact ⟨b, o, e, by simp only; omega, cell_keep hba d0, cell_keep hba d1, cell_keep hba d2⟩
    have HPS := Lib.hid hps
    have HSRC : Hid (source s = parse P.toks) := Lib.hid (by unfold source; rw [hts, hP])
    have HN : Hid (P.toks.length = ts.length) := Lib.hid (by rw [hP])
    have h8 := hfit.len
    rw [HN.out] at h8
    have KX := Lib.hid (expr_all (P.toks.length + 1) P 0 _ hps (by rw [rest_len]; omega))
    rw [hpbw] at KX
    have HPB := Lib.hid hpbw
    have HZP := Lib.hid (hz1.step hba)
    have HBP := Lib.hid (HBB.out.alloc HBB.out.size (.cells #[.slice ta ts.length cap, .int .i64 0, .bool false] 35))
    have hwp : (w1.alloc (.cells #[.slice ta ts.length cap, .int .i64 0, .bool false] 35)).heap.size = w1.heap.size + 1 := by simp
    have HWP := Lib.hid hwp
    clear hown hb1 KT hts hz1 hpbw hfit hba hps hP HB1 HB0 HZ hroom hpb hwp
    generalize ts.length = N at *
    go_wp2_with fail
    refine KX.out.mono ?_
    rintro e w3 ⟨v3, t3, q3, b3, rfl, hr3, h3, ht3, hg3⟩
    obtain ⟨xn, xk, rfl, hnode⟩ := hr3
    obtain ⟨xa, xl, xc, ya, yl, yc, rfl, rfl⟩ := node_forms hnode
    have hba : Below w3.heap.size w3 (w3.alloc (.cells #[.int .i64 t3.kind, .string t3.text, .int .i64 t3.num, .slice xa xl xc, .slice ya yl yc] 25)) := (Below.refl _ _).alloc (Nat.le_refl _) _
    have HN3 := Lib.hid (NodeAt.keep (lo := w.heap.size + 1) (hi := (w1.alloc (.cells #[.slice ta N cap, .int .i64 0, .bool false] 35)).heap.size) (by rw [HWP.out]; omega) (kept_below hba) _ _ _ hnode)
    have HF3 := Lib.hid (five_new w3 (.int .i64 t3.kind) (.string t3.text) (.int .i64 t3.num) (.slice xa xl xc) (.slice ya yl yc) 25)
    have HZ3 := Lib.hid ((HZP.out.turn ht3 (by rw [HPB.out]; omega)).step hba)
    have hbt : Below w.heap.size w w3 := HBP.out.trans ⟨ht3.os, ht3.tape, ht3.output, ht3.size, fun k hk => World.grownBy.block ht3 k (by rw [HWP.out]; omega) (by rw [HPB.out]; simp; omega)⟩
    have HBT := Lib.hid hbt
    have HB3 := Lib.hid (hbt.trans (hba.mono hbt.size))
    have h3' := h3.below hba
    have c1 := h3'.c1
    have c2 := h3'.c2
    rw [HPB.out] at c1 c2
    have hqN := h3'.le
    rw [HN.out] at hqN
    have h13 := ht3.size
    rw [HWP.out] at h13
    have HG : Hid (source s = if b3 = true then none else if q3 = N then some t3 else none) := Lib.hid (by
      rw [HSRC.out]
      unfold parse
      have hr0 : rest P 0 = P.toks := rfl
      rw [hr0] at hg3
      rw [hg3]
      cases b3 with
      | true => rfl
      | false =>
        by_cases hq : q3 = N
        · have : rest P q3 = [] := List.eq_nil_of_length_eq_zero (by rw [rest_len, HN.out]; omega)
          show (match some (t3, rest P q3) with | some (e, []) => some e | _ => none) = _
          rw [this]
          simp [hq]
        · have : 0 < (rest P q3).length := by rw [rest_len, HN.out]; omega
          cases hrr : rest P q3 with
          | nil => rw [hrr] at this; cases this
          | cons x r => simp [Got, hq])
    clear h3 h3' ht3 hnode hba hg3 hbt KX HZP HBP HPS HSRC
    cases b3 with
    | true =>
      clear HN3
      have hAn : A = none := by rw [← HA.out]; unfold answer; rw [HG.out]; rfl
      subst hAn
      obtain ⟨hszz, y0, y1, y2, y3, y4, yfz⟩ := HZ3.out
      go_wp2_with fail
      have hb9 := put5_below (Below.refl w.heap.size (w3.alloc (.cells #[.int .i64 t3.kind, .string t3.text, .int .i64 t3.num, .slice xa xl xc, .slice ya yl yc] 25))) (B := w.heap.size) (Nat.le_refl _) (.int .i64 0) (.string ⟨#[]⟩) (.int .i64 0) (.slice none 0 0) (.slice none 0 0)
      refine bodyPost_ret (v := .tuple #[.agg #[.int .i64 0, .string ⟨#[]⟩, .int .i64 0, .slice none 0 0, .slice none 0 0], .bool false]) (by simp [results, Tryz.results4, go_sem, *]) rfl ?_
      exact ⟨_, rfl, zero_reads _ _, HB3.out.trans hb9⟩
    | false =>
      by_cases hq : q3 = N
      case neg =>
        have e1 : ((q3 : Int) != (N : Int)) = true := by simp; omega
        clear HN3
        have hAn : A = none := by rw [← HA.out]; unfold answer; rw [HG.out]; simp [hq]
        subst hAn
        obtain ⟨hszz, y0, y1, y2, y3, y4, yfz⟩ := HZ3.out
        go_wp2_with fail
        have hb9 := put5_below (Below.refl w.heap.size (w3.alloc (.cells #[.int .i64 t3.kind, .string t3.text, .int .i64 t3.num, .slice xa xl xc, .slice ya yl yc] 25))) (B := w.heap.size) (Nat.le_refl _) (.int .i64 0) (.string ⟨#[]⟩) (.int .i64 0) (.slice none 0 0) (.slice none 0 0)
        refine bodyPost_ret (v := .tuple #[.agg #[.int .i64 0, .string ⟨#[]⟩, .int .i64 0, .slice none 0 0, .slice none 0 0], .bool false]) (by simp [results, Tryz.results4, go_sem, *]) rfl ?_
        exact ⟨_, rfl, zero_reads _ _, HB3.out.trans hb9⟩
      have hsrc : source s = some t3 := by rw [HG.out]; simp [hq]
      have hwt := source_light hsrc
      have e1 : ((q3 : Int) != (N : Int)) = false := by simp; omega
      have KE := Lib.hid (SpecRight.is_expr (lo := w.heap.size + 1) (w := w3.alloc (.cells #[.int .i64 t3.kind, .string t3.text, .int .i64 t3.num, .slice xa xl xc, .slice ya yl yc] 25)) ⟨_, _, rfl, HN3.out⟩ (by omega))
      have HAN : Hid (A = if isExpr t3 = true then some t3 else none) := Lib.hid (by rw [← HA.out]; unfold answer; rw [hsrc])
      clear hsrc hwt HG HA
      obtain ⟨hs5, f0, f1, f2, f3, f4, f5⟩ := HF3.out
      cases hie : isExpr t3 with
      | false =>
        rw [hie] at KE
        have hAn : A = none := by rw [HAN.out, hie]; rfl
        subst hAn
        clear HAN hie
        go_wp2_with fail
        refine KE.out.mono ?_
        rintro e w7 ⟨rfl, hb7⟩
        obtain ⟨hszz, y0, y1, y2, y3, y4, yfz⟩ := HZ3.out.step hb7
        have f7 := HF3.out.step hb7
        have HB7 := Lib.hid (HB3.out.trans (hb7.mono HB3.out.size))
        have HN7 := Lib.hid (HN3.out.below hb7)
        clear hb7 f0 f1 f2 f3 f4 f5 KE
        obtain ⟨hs5, f0, f1, f2, f3, f4, f5⟩ := f7
        go_wp2_with fail
        have hb9 := put5_below (Below.refl w.heap.size w7) (B := w.heap.size) (Nat.le_refl _) (.int .i64 0) (.string ⟨#[]⟩) (.int .i64 0) (.slice none 0 0) (.slice none 0 0)
        refine bodyPost_ret (v := .tuple #[.agg #[.int .i64 0, .string ⟨#[]⟩, .int .i64 0, .slice none 0 0, .slice none 0 0], .bool false]) (by simp [results, Tryz.results4, go_sem, *]) rfl ?_
        exact ⟨_, rfl, zero_reads _ _, HB7.out.trans hb9⟩
      | true =>
        rw [hie] at KE
        have hAn : A = some t3 := by rw [HAN.out, hie]; rfl
        subst hAn
        clear HAN hie
        go_wp2_with fail
        refine KE.out.mono ?_
        rintro e w7 ⟨rfl, hb7⟩
        obtain ⟨hszz, y0, y1, y2, y3, y4, yfz⟩ := HZ3.out.step hb7
        have f7 := HF3.out.step hb7
        have HB7 := Lib.hid (HB3.out.trans (hb7.mono HB3.out.size))
        have HN7 := Lib.hid (HN3.out.below hb7)
        clear hb7 f0 f1 f2 f3 f4 f5 KE
        obtain ⟨hs5, f0, f1, f2, f3, f4, f5⟩ := f7
        go_wp2_with fail
        have hb9 := put5_below (Below.refl w.heap.size w7) (B := w.heap.size) (Nat.le_refl _) (.int .i64 t3.kind) (.string t3.text) (.int .i64 t3.num) (.slice xa xl xc) (.slice ya yl yc)
        refine bodyPost_ret (v := .tuple #[.agg #[.int .i64 t3.kind, .string t3.text, .int .i64 t3.num, .slice xa xl xc, .slice ya yl yc], .bool true]) (by simp [results, Tryz.results4, go_sem, *]) rfl ?_
        exact ⟨_, rfl, ⟨_, _, rfl, NodeAt.keep (lo := w.heap.size) (hi := w.heap.size + 1) (Nat.le_succ _) (kept_put5 w7 (Nat.lt_succ_self _) _ _ _ _ _) _ _ _ HN7.out⟩, HB7.out.trans hb9⟩
end Go.Proofs.YtbflpocbjdccgaaGreatDoor.SpecParse
