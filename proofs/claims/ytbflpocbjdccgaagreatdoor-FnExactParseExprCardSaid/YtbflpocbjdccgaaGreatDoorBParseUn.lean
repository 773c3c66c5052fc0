/-
  The model's parser: primaries.
  The model's parser: a tree that lies off a variable's block, so that the variable may be written.
  The model's parser: unary messages.
-/
import Derived.Test.YtbflpocbjdccgaaGreatDoorBParseBlock
import Derived.Deep.RegionWith
namespace Go.Proofs.YtbflpocbjdccgaaGreatDoor.Parser
open Go.RowKit
open Strs Tree Gram

/-- Five cells at the head of block B. -/
structure Five (B : Nat) (a b c d e : Value) (wr : World) : Prop where
  size : B < wr.heap.size
  z0 : wr.cell? ⟨B, 0, none⟩ = some a
  z1 : wr.cell? ⟨B, 1, none⟩ = some b
  z2 : wr.cell? ⟨B, 2, none⟩ = some c
  z3 : wr.cell? ⟨B, 3, none⟩ = some d
  z4 : wr.cell? ⟨B, 4, none⟩ = some e
  fz : ∀ o, wr.frozen? ⟨B, o, none⟩ = false
theorem Five.same {B : Nat} {a b c d e : Value} {wr w' : World} (h : Five B a b c d e wr) (hs : wr.heap.size ≤ w'.heap.size) (hb : w'.heap[B]? = wr.heap[B]?) : Five B a b c d e w' := by
  have hc : ∀ o, w'.cell? ⟨B, o, none⟩ = wr.cell? ⟨B, o, none⟩ := fun o => World.cell?_of_block (a := ⟨B, o, none⟩) hb
  have hf : ∀ o, w'.frozen? ⟨B, o, none⟩ = wr.frozen? ⟨B, o, none⟩ := fun o => World.frozen?_of_block (a := ⟨B, o, none⟩) hb
  exact ⟨Nat.lt_of_lt_of_le h.size hs, (hc 0).trans h.z0, (hc 1).trans h.z1, (hc 2).trans h.z2, (hc 3).trans h.z3, (hc 4).trans h.z4, fun o => (hf o).trans (h.fz o)⟩
theorem Five.low {B base : Nat} {a b c d e : Value} {wr w' : World} (h : Five B a b c d e wr) (hb : Below base wr w') (hB : B < base) : Five B a b c d e w' := h.same hb.size (hb.block B hB)
theorem Five.step {B : Nat} {a b c d e : Value} {wr w' : World} (h : Five B a b c d e wr) (hb : Below wr.heap.size wr w') : Five B a b c d e w' := h.low hb h.size
theorem Five.turn {P : Cst} {B : Nat} {a b c d e : Value} {wr w' : World} (h : Five B a b c d e wr) (ht : Turn P wr w') (hB : B ≠ P.pb) : Five B a b c d e w' := h.same ht.size (World.grownBy.block ht B h.size (by simpa using hB))
theorem five_new (w : World) (a b c d e : Value) (T : TypeId) : Five w.heap.size a b c d e (w.alloc (.cells #[a, b, c, d, e] T)) := by
  refine ⟨by simp, ?_, ?_, ?_, ?_, ?_, fun o => ?_⟩
  all_goals go_simp
/-- A tree without names and kids. -/
theorem leaf_node {lo : Nat} {w : World} {k : Int} {t : ByteArray} {n : Int} (hk : (Lit.int .i64 k).wf = true) (hn : (Lit.int .i64 n).wf = true) (ht : t.size ≤ maxLen) : NodeAt lo w (.mk k t n [] []) (.slice none 0 0) (.slice none 0 0) :=
  node_iff.2 ⟨hk, hn, ht, texts_none _ _, (Kids5.nil lo w).kids⟩
theorem prim_nil {ex : X} : primary ex [] = none := rfl
theorem prim_paren {ex : X} {t : Tok.T} {r : R} (h : t.kind = 7) (h2 : t.text = cOpen) : primary ex (t :: r) = match ex r with | none => none | some (e, r1) => if mk cClose r1 then some (e, r1.tail) else none := by
  have : mk cOpen [t] = true := by simp [mk, h, h2]
  rw [primary, if_neg (by omega), if_neg (by omega), if_neg (by omega), if_neg (by omega), if_pos this]
  cases ex r <;> rfl
theorem prim_block {ex : X} {t : Tok.T} {r : R} (h : t.kind = 7) (h2 : t.text = cLeft) : primary ex (t :: r) = block ex r := by
  have h0 : mk cOpen [t] = false := by simp [mk, h, h2]; decide
  have : mk cLeft [t] = true := by simp [mk, h, h2]
  rw [primary, if_neg (by omega), if_neg (by omega), if_neg (by omega), if_neg (by omega), if_neg (by rw [h0]; simp), if_pos this]
theorem prim_else {ex : X} {t : Tok.T} {r : R} (h1 : ¬ t.kind = 1) (h3 : ¬ t.kind = 3) (h4 : ¬ t.kind = 4) (h5 : ¬ t.kind = 5) (h7 : t.kind = 7 → ¬ t.text = cOpen ∧ ¬ t.text = cLeft) : primary ex (t :: r) = none := by
  have h0 : mk cOpen [t] = false := by
    by_cases h : t.kind = 7
    · simp [mk, h, (h7 h).1]
    · simp [mk, h]
  have h2 : mk cLeft [t] = false := by
    by_cases h : t.kind = 7
    · simp [mk, h, (h7 h).2]
    · simp [mk, h]
  rw [primary, if_neg h1, if_neg h3, if_neg h4, if_neg h5, if_neg (by rw [h0]; simp), if_neg (by rw [h2]; simp)]

theorem isB_close (r : R) : isB 7 ⟨#[41]⟩ r = mk cClose r := isB_mk cClose (by decide) r
theorem paren_back {P : Cst} {ex : X} {t : Tok.T} {r : R} (h : t.kind = 7) (h2 : t.text = cOpen) {t4 : E} {q4 q5 : Nat} {b4 b5 : Bool} (h4 : ex r = Got b4 (t4, rest P q4))
    (hy1 : b5 = false → b4 = false ∧ mk cClose (rest P q4) = true ∧ q5 = q4 + 1) (hy2 : b5 = true → b4 = true ∨ mk cClose (rest P q4) = false) : primary ex (t :: r) = Got b5 (t4, rest P q5) := by
  rw [prim_paren h h2, h4]
  cases b4 with
  | true =>
    have e5 : b5 = true := by cases b5 with | true => rfl | false => exact (hy1 rfl).1.symm
    rw [e5]; rfl
  | false =>
    simp only [Got, Bool.false_eq_true, if_false]
    cases b5 with
    | true =>
      obtain h | h := hy2 rfl
      · cases h
      rw [if_neg (by rw [h]; simp)]; rfl
    | false =>
      obtain ⟨-, h6, rfl⟩ := hy1 rfl
      rw [if_pos h6, rest_tail]; rfl

set_option maxHeartbeats 4000000 in
theorem primary_nil {ex : X} {P : Cst} {p : Nat} {w : World} (h : PS P p false w) (hr : rest P p = []) :
    Calls Tryz.prog 72 #[.pointer (some ⟨P.pb, 0, none⟩)] w (Back P w (primary ex (rest P p))) := by
  have hp := rest_nil h.le hr
  rw [hr]
  have hb0 : Below w.heap.size w (w.alloc (.cells #[.int .i64 0, .string ⟨#[]⟩, .int .i64 0, .slice none 0 0, .slice none 0 0] 25)) := (Below.refl _ _).alloc (Nat.le_refl _) _
  have h1 := h.below hb0
  have H1 := Lib.hid h1
  have HT := Lib.hid ((Turn.refl P w).low hb0)
  have HZ := Lib.hid (zero_new w 25)
  have HLO := Lib.hid h.lo
  have hl := h.fit.len
  have hpbl := h.size
  have c0 := h1.c0
  have c1 := h1.c1
  clear h hr h1 hb0
  generalize hg : primary ex [] = g
  have HG : Hid (g = none) := Lib.hid (by rw [← hg]; rfl)
  clear hg
  generalize P.toks.length = n at *
  subst hp
  generalize hpb : P.pb = pb at *
  have HPB := Lib.hid hpb; clear hpb
  go_enter Tryz.func72, Tryz.ntmps72
  go_wp2_with fail
  go_quiet (fail)
  generalize hw1 : (w.alloc (.cells #[.int .i64 0, .string ⟨#[]⟩, .int .i64 0, .slice none 0 0, .slice none 0 0] 25)).drewN _ = w1
  have HW : Drawn (w.alloc (.cells #[.int .i64 0, .string ⟨#[]⟩, .int .i64 0, .slice none 0 0, .slice none 0 0] 25)) w1 := ⟨_, hw1.symm⟩
  have h2 := H1.out.drawn HW
  have H2 := Lib.hid h2
  have HT2 := Lib.hid (HT.out.drawn HW)
  obtain ⟨hsz, z0, z1, z2, z3, z4, fz⟩ := HZ.out.step HW.below
  have c2 := h2.c2
  have fzp := h2.fz
  rw [HPB.out] at c2 fzp
  clear hw1 HW h2 c0 c1
  go_wp2_with fail
  have hb9 := put5_below (Below.refl w.heap.size (w1.setCell ⟨pb, 2, none⟩ (.bool true))) (B := w.heap.size) (Nat.le_refl _) (.int .i64 0) (.string ⟨#[]⟩) (.int .i64 0) (.slice none 0 0) (.slice none 0 0)
  have h3 := H2.out.no
  have ht3 := HT2.out.set 2 (.bool true)
  rw [HPB.out] at h3 ht3
  refine bodyPost_ret (v := .agg #[.int .i64 0, .string ⟨#[]⟩, .int .i64 0, .slice none 0 0, .slice none 0 0]) (by simp [results, Tryz.results72, go_sem, *]) rfl ?_
  exact ⟨_, .mk 0 none_ 0 [] [], p, true, rfl, ⟨_, _, rfl, leaf_node (by rfl) (by rfl) (Nat.zero_le _)⟩, h3.low hb9 HLO.out, ht3.low hb9, HG.out⟩

set_option maxRecDepth 10000 in
set_option maxHeartbeats 8000000 in
theorem primary_cons {n : Nat} (hx : XC n) {P : Cst} {p : Nat} {w : World} (h : PS P p false w) (hn : (rest P p).length ≤ n) {t : Tok.T} {r : R} (hr : rest P p = t :: r) :
    Calls Tryz.prog 72 #[.pointer (some ⟨P.pb, 0, none⟩)] w (Back P w (primary (expr n) (rest P p))) := by
  obtain ⟨hp, ht, hr1⟩ := rest_cons hr
  have hb0 : Below w.heap.size w (w.alloc (.cells #[.int .i64 0, .string ⟨#[]⟩, .int .i64 0, .slice none 0 0, .slice none 0 0] 25)) := (Below.refl _ _).alloc (Nat.le_refl _) _
  have h1 := h.below hb0
  have H1 := Lib.hid h1
  have HT := Lib.hid ((Turn.refl P w).low hb0)
  have HZ := Lib.hid (zero_new w 25)
  have HLO := Lib.hid h.lo
  have hl := h.fit.len
  have hpbl := h.size
  have c0 := h1.c0
  have c1 := h1.c1
  obtain ⟨tb, to, hta, hne, d0, d1, d2⟩ := h1.tok p t ht
  rw [hta] at c0
  have hcap := h.fit.cap
  have KX := Lib.hid fun (w1 : World) (h1 : PS P (p + 1) false w1) => hx P (p + 1) w1 h1 (by rw [hr1]; rw [hr] at hn; simp at hn; omega)
  have KB := Lib.hid fun (w1 : World) (h1 : PS P (p + 1) false w1) => block_read hx h1 (by rw [hr1]; rw [hr] at hn; simp at hn; omega)
  have KN := fun (w1 : World) (q : Nat) (b : Bool) (k : Int) (c : ByteArray) (h1 : PS P q b w1) => Lib.hid (need_any h1 k c)
  have HWF : Hid ((t.text.size ≤ maxLen ∧ (Lit.int .i64 0).wf = true) ∧ (Lit.int .i64 t.num).wf = true) := Lib.hid ⟨⟨Nat.le_trans (h.fit.text t (List.mem_of_getElem? ht)) (by unfold maxLen; omega), by rfl⟩, h.fit.num t (List.mem_of_getElem? ht)⟩
  have HR1 := Lib.hid hr1
  obtain ⟨tk, tt, tn⟩ := t
  simp only at d0 d1 d2 HWF
  have HR := Lib.hid hr
  have HP1 := Lib.hid hp
  generalize hG : primary (expr n) (rest P p) = G
  have HG : Hid (G = primary (expr n) (rest P p)) := Lib.hid hG.symm
  clear h hr h1 hb0 hn hx hta ht hr1 hG
  generalize hNN : P.toks.length = N at *
  have HNN := Lib.hid hNN; clear hNN
  generalize P.cap = cap at *
  generalize hpb : P.pb = pb at *
  have HPB := Lib.hid hpb; clear hpb
  go_enter Tryz.func72, Tryz.ntmps72
  go_wp2_with fail
  go_quiet (fail)
  generalize hw1 : (w.alloc (.cells #[.int .i64 0, .string ⟨#[]⟩, .int .i64 0, .slice none 0 0, .slice none 0 0] 25)).drewN _ = w1
  have HW : Drawn (w.alloc (.cells #[.int .i64 0, .string ⟨#[]⟩, .int .i64 0, .slice none 0 0, .slice none 0 0] 25)) w1 := ⟨_, hw1.symm⟩
  have H2 := Lib.hid (H1.out.drawn HW)
  have HT2 := Lib.hid (HT.out.drawn HW)
  have HZ2 := Lib.hid (HZ.out.step HW.below)
  have hb := HW.below
  have c0 := cell_keep hb c0
  have c1 := cell_keep hb c1
  have d0 := cell_keep hb d0
  have d1 := cell_keep hb d1
  have d2 := cell_keep hb d2
  have hlt := cell_lt d0
  have hlp := cell_lt c0
  clear hw1 HW hb
  go_wp2_with fail
  go_region
  have x0 : (w1.alloc (Obj.cells #[.int .i64 tk, .string tt, .int .i64 tn] 48)).drew.cell? ⟨w1.heap.size, 0, none⟩ = some (.int .i64 tk) := by go_simp
  have x1 : (w1.alloc (Obj.cells #[.int .i64 tk, .string tt, .int .i64 tn] 48)).drew.cell? ⟨w1.heap.size, 1, none⟩ = some (.string tt) := by go_simp
  have x2 : (w1.alloc (Obj.cells #[.int .i64 tk, .string tt, .int .i64 tn] 48)).drew.cell? ⟨w1.heap.size, 2, none⟩ = some (.int .i64 tn) := by go_simp
  have hbl : Below w1.heap.size w1 (w1.alloc (Obj.cells #[.int .i64 tk, .string tt, .int .i64 tn] 48)).drew := ((Below.refl _ _).alloc (Nat.le_refl _) _).drew
  generalize (w1.alloc (Obj.cells #[.int .i64 tk, .string tt, .int .i64 tn] 48)).drew = w2 at *
  have h2 := H2.out.below hbl
  have ht2 := HT2.out.below hbl
  have hz2 := HZ2.out.step hbl
  have hB1 : w.heap.size < w1.heap.size := HZ2.out.size
  have c1 := h2.c1
  have c2 := h2.c2
  have fzp := h2.fz
  rw [HPB.out] at c1 c2 fzp
  have h3 := h2.go (p + 1) (by have := HP1.out; have := HNN.out; omega)
  have ht3 := ht2.set 1 (.int .i64 ((p : Int) + 1))
  rw [HPB.out] at h3 ht3
  have H3 := Lib.hid h3
  have HT3 := Lib.hid ht3
  have HZ3 : Hid (Zero w.heap.size (w2.setCell ⟨pb, 1, none⟩ (.int .i64 ((p : Int) + 1)))) := Lib.hid (hz2.same (by simp [World.setCell]) (Below.heap_setCell _ _ _ _ (by simp; omega)))
  obtain ⟨hsz, z0, z1, z2, z3, z4, fz⟩ := hz2
  clear hbl d0 d1 d2 c0 hlt h2 ht2 h3 ht3 H1 HT HZ H2 HT2 HZ2

  by_cases h1 : tk = 1
  · subst h1
    have HG2 : Hid (G = Got false (eName tt, rest P (p + 1))) := Lib.hid (by rw [HG.out, HR.out, primary, if_pos rfl, ← HR1.out]; rfl)
    go_wp2_with fail
    refine bodyPost_ret (v := .agg #[.int .i64 4, .string tt, .int .i64 0, .slice none 0 0, .slice none 0 0]) (by simp [results, Tryz.results72, go_sem, *]) rfl ?_
    have hb9 := put5_below (Below.refl w.heap.size (w2.setCell ⟨pb, 1, none⟩ (.int .i64 ((p : Int) + 1)))) (B := w.heap.size) (Nat.le_refl _) (.int .i64 4) (.string tt) (.int .i64 0) (.slice none 0 0) (.slice none 0 0)
    exact ⟨_, eName tt, p + 1, false, rfl, ⟨_, _, rfl, leaf_node (by rfl) HWF.out.1.2 HWF.out.1.1⟩, H3.out.low hb9 HLO.out, HT3.out.low hb9, HG2.out⟩

  by_cases h3 : tk = 3
  · subst h3
    have HG2 : Hid (G = Got false (.mk 1 none_ tn [] [], rest P (p + 1))) := Lib.hid (by rw [HG.out, HR.out, primary, if_neg (by simp), if_pos rfl, ← HR1.out]; rfl)
    go_wp2_with fail
    refine bodyPost_ret (v := .agg #[.int .i64 1, .string ⟨#[]⟩, .int .i64 tn, .slice none 0 0, .slice none 0 0]) (by simp [results, Tryz.results72, go_sem, *]) rfl ?_
    have hb9 := put5_below (Below.refl w.heap.size (w2.setCell ⟨pb, 1, none⟩ (.int .i64 ((p : Int) + 1)))) (B := w.heap.size) (Nat.le_refl _) (.int .i64 1) (.string ⟨#[]⟩) (.int .i64 tn) (.slice none 0 0) (.slice none 0 0)
    exact ⟨_, .mk 1 none_ tn [] [], p + 1, false, rfl, ⟨_, _, rfl, leaf_node (by rfl) HWF.out.2 (Nat.zero_le _)⟩, H3.out.low hb9 HLO.out, HT3.out.low hb9, HG2.out⟩

  by_cases h4 : tk = 4
  · subst h4
    have HG2 : Hid (G = Got false (.mk 2 tt 0 [] [], rest P (p + 1))) := Lib.hid (by rw [HG.out, HR.out, primary, if_neg (by simp), if_neg (by simp), if_pos rfl, ← HR1.out]; rfl)
    go_wp2_with fail
    refine bodyPost_ret (v := .agg #[.int .i64 2, .string tt, .int .i64 0, .slice none 0 0, .slice none 0 0]) (by simp [results, Tryz.results72, go_sem, *]) rfl ?_
    have hb9 := put5_below (Below.refl w.heap.size (w2.setCell ⟨pb, 1, none⟩ (.int .i64 ((p : Int) + 1)))) (B := w.heap.size) (Nat.le_refl _) (.int .i64 2) (.string tt) (.int .i64 0) (.slice none 0 0) (.slice none 0 0)
    exact ⟨_, .mk 2 tt 0 [] [], p + 1, false, rfl, ⟨_, _, rfl, leaf_node (by rfl) HWF.out.1.2 HWF.out.1.1⟩, H3.out.low hb9 HLO.out, HT3.out.low hb9, HG2.out⟩

  by_cases h5 : tk = 5
  · subst h5
    have HG2 : Hid (G = Got false (.mk 3 tt 0 [] [], rest P (p + 1))) := Lib.hid (by rw [HG.out, HR.out, primary, if_neg (by simp), if_neg (by simp), if_neg (by simp), if_pos rfl, ← HR1.out]; rfl)
    go_wp2_with fail
    refine bodyPost_ret (v := .agg #[.int .i64 3, .string tt, .int .i64 0, .slice none 0 0, .slice none 0 0]) (by simp [results, Tryz.results72, go_sem, *]) rfl ?_
    have hb9 := put5_below (Below.refl w.heap.size (w2.setCell ⟨pb, 1, none⟩ (.int .i64 ((p : Int) + 1)))) (B := w.heap.size) (Nat.le_refl _) (.int .i64 3) (.string tt) (.int .i64 0) (.slice none 0 0) (.slice none 0 0)
    exact ⟨_, .mk 3 tt 0 [] [], p + 1, false, rfl, ⟨_, _, rfl, leaf_node (by rfl) HWF.out.1.2 HWF.out.1.1⟩, H3.out.low hb9 HLO.out, HT3.out.low hb9, HG2.out⟩

  have b1 : (tk == 1) = false := by rw [kind_eq, decide_eq_false h1]
  have b3 : (tk == 3) = false := by rw [kind_eq, decide_eq_false h3]
  have b4 : (tk == 4) = false := by rw [kind_eq, decide_eq_false h4]
  have b5 : (tk == 5) = false := by rw [kind_eq, decide_eq_false h5]
  by_cases h7 : tk = 7
  case neg =>
    have b7 : (tk == 7) = false := by rw [kind_eq, decide_eq_false h7]
    have hg : G = none := by
      rw [HG.out, HR.out]
      exact prim_else (t := ⟨tk, tt, tn⟩) h1 h3 h4 h5 (fun e => absurd e h7)
    have HG5 : Hid (G = Got true (E.mk 0 none_ 0 [] [], rest P (p + 1))) := Lib.hid hg
    clear hg HG
    go_wp2_with fail
    have hb9 := put5_below (Below.refl w.heap.size ((w2.setCell ⟨pb, 1, none⟩ (.int .i64 ((p : Int) + 1))).setCell ⟨pb, 2, none⟩ (.bool true))) (B := w.heap.size) (Nat.le_refl _) (.int .i64 0) (.string ⟨#[]⟩) (.int .i64 0) (.slice none 0 0) (.slice none 0 0)
    have h9 := H3.out.no
    have ht9 := HT3.out.set 2 (.bool true)
    rw [HPB.out] at h9 ht9
    refine bodyPost_ret (v := .agg #[.int .i64 0, .string ⟨#[]⟩, .int .i64 0, .slice none 0 0, .slice none 0 0]) (by simp [results, Tryz.results72, go_sem, *]) rfl ?_
    exact ⟨_, .mk 0 none_ 0 [] [], p + 1, true, rfl, ⟨_, _, rfl, leaf_node (by rfl) (by rfl) (Nat.zero_le _)⟩, h9.low hb9 HLO.out, ht9.low hb9, HG5.out⟩
  subst h7
  clear h1 h3 h4 h5 b1 b3 b4 b5
  by_cases g1 : tt = cOpen
  · subst g1
    have HGO := Lib.hid HG.out; clear HG
    unfold cOpen at *
    go_wp2_with fail
    refine (KX.out _ H3.out).mono ?_
    rintro e w4 ⟨v4, t4, q4, b4, rfl, hr4, h4, ht4, hg4⟩
    obtain ⟨xn, xk, rfl, hnode⟩ := hr4
    obtain ⟨xa, xl, xc, ya, yl, yc, rfl, rfl⟩ := node_forms hnode
    have hba : ∀ o, Below w4.heap.size w4 (w4.alloc o) := fun o => (Below.refl _ _).alloc (Nat.le_refl _) o
    have H4 := Lib.hid (h4.below (hba (.cells #[.int .i64 t4.kind, .string t4.text, .int .i64 t4.num, .slice xa xl xc, .slice ya yl yc] 25)))
    have HT4 := Lib.hid ((HT3.out.trans ht4).below (hba (.cells #[.int .i64 t4.kind, .string t4.text, .int .i64 t4.num, .slice xa xl xc, .slice ya yl yc] 25)))
    have HZ4 := Lib.hid ((HZ3.out.turn ht4 (by rw [HPB.out]; omega)).step (hba (.cells #[.int .i64 t4.kind, .string t4.text, .int .i64 t4.num, .slice xa xl xc, .slice ya yl yc] 25)))
    have HF4 := Lib.hid (five_new w4 (.int .i64 t4.kind) (.string t4.text) (.int .i64 t4.num) (.slice xa xl xc) (.slice ya yl yc) 25)
    have HN4 := Lib.hid ((NodeAt.keep (lo := w.heap.size + 1) HZ3.out.size (fun _ _ _ _ hc => hc) _ _ _ hnode).below (hba (.cells #[.int .i64 t4.kind, .string t4.text, .int .i64 t4.num, .slice xa xl xc, .slice ya yl yc] 25)))
    have HG4 := Lib.hid hg4
    have hpb4 : pb < w4.heap.size := by rw [← HPB.out]; exact h4.size
    clear h4 ht4 hnode hg4 hba
    go_wp2_with fail
    refine (KN _ _ _ _ _ H4.out).out.mono ?_
    rintro e w5 ⟨x, q5, b5, rfl, h5, ht5, -, -, hy1, hy2⟩
    have H5 := Lib.hid h5
    have HT5 := Lib.hid (HT4.out.trans ht5)
    have HN5 := Lib.hid (NodeAt.keep (Nat.le_refl _) ((ht5.keptW (w := w) (by rw [HPB.out]; exact hpbl)).mono (Nat.le_succ _)) _ _ _ HN4.out)
    obtain ⟨hsz5, f0, f1, f2, f3, f4, ffz⟩ := HF4.out.turn ht5 (by rw [HPB.out]; omega)
    obtain ⟨hsz6, y0, y1, y2, y3, y4, yfz⟩ := HZ4.out.turn ht5 (by rw [HPB.out]; omega)
    have HG5 : Hid (G = Got b5 (t4, rest P q5)) := by
      show _ = _
      rw [HGO.out, HR.out]
      exact paren_back rfl rfl (by rw [← HR1.out]; exact HG4.out) (fun e => by (have h := hy1 e; exact ⟨h.1, (isB_close _).symm.trans h.2.1, h.2.2.1⟩)) (fun e => (hy2 e).imp id (fun h => (isB_close _).symm.trans h))
    clear h5 ht5 hy1 hy2 z0 z1 z2 z3 z4 fz x0 x1 x2
    go_wp2_with fail
    have hb9 := put5_below (Below.refl w.heap.size w5) (B := w.heap.size) (Nat.le_refl _) (.int .i64 t4.kind) (.string t4.text) (.int .i64 t4.num) (.slice xa xl xc) (.slice ya yl yc)
    refine bodyPost_ret (v := .agg #[.int .i64 t4.kind, .string t4.text, .int .i64 t4.num, .slice xa xl xc, .slice ya yl yc]) (by simp [results, Tryz.results72, go_sem, *]) rfl ?_
    exact ⟨_, t4, q5, b5, rfl, ⟨_, _, rfl, NodeAt.keep (lo := w.heap.size) (hi := w.heap.size + 1) (Nat.le_succ _) (kept_put5 w5 (Nat.lt_succ_self _) _ _ _ _ _) _ _ _ HN5.out⟩, H5.out.low hb9 HLO.out, HT5.out.low hb9, HG5.out⟩
  by_cases g2 : tt = cLeft
  · subst g2
    have HGO := Lib.hid HG.out; clear HG
    unfold cLeft at *
    go_wp2_with fail
    refine (KB.out _ H3.out).mono ?_
    rintro e w5 ⟨v4, t4, q5, b5, rfl, hr4, h5, ht5, hg4⟩
    obtain ⟨xn, xk, rfl, hnode⟩ := hr4
    obtain ⟨xa, xl, xc, ya, yl, yc, rfl, rfl⟩ := node_forms hnode
    have H5 := Lib.hid h5
    have HT5 := Lib.hid (HT3.out.trans ht5)
    have HN5 := Lib.hid (NodeAt.keep (lo := w.heap.size + 1) HZ3.out.size (fun _ _ _ _ hc => hc) _ _ _ hnode)
    obtain ⟨hsz6, y0, y1, y2, y3, y4, yfz⟩ := HZ3.out.turn ht5 (by rw [HPB.out]; omega)
    have HG5 : Hid (G = Got b5 (t4, rest P q5)) := by
      show _ = _
      rw [HGO.out, HR.out, prim_block (t := ⟨7, ⟨#[91]⟩, tn⟩) rfl rfl, ← HR1.out]
      exact hg4
    clear h5 ht5 hnode hg4 z0 z1 z2 z3 z4 fz x0 x1 x2
    go_wp2_with fail
    have hb9 := put5_below (Below.refl w.heap.size w5) (B := w.heap.size) (Nat.le_refl _) (.int .i64 t4.kind) (.string t4.text) (.int .i64 t4.num) (.slice xa xl xc) (.slice ya yl yc)
    refine bodyPost_ret (v := .agg #[.int .i64 t4.kind, .string t4.text, .int .i64 t4.num, .slice xa xl xc, .slice ya yl yc]) (by simp [results, Tryz.results72, go_sem, *]) rfl ?_
    exact ⟨_, t4, q5, b5, rfl, ⟨_, _, rfl, NodeAt.keep (lo := w.heap.size) (hi := w.heap.size + 1) (Nat.le_succ _) (kept_put5 w5 (Nat.lt_succ_self _) _ _ _ _ _) _ _ _ HN5.out⟩, H5.out.low hb9 HLO.out, HT5.out.low hb9, HG5.out⟩
  · have e1 : (tt.toList == [40]) = false := by
      have := text_ne g1
      rw [ByteArray.toList_eq cOpen] at this
      exact this
    have e2 : (tt.toList == [91]) = false := by
      have := text_ne g2
      rw [ByteArray.toList_eq cLeft] at this
      exact this
    have hg : G = none := by
      rw [HG.out, HR.out]
      exact prim_else (t := ⟨7, tt, tn⟩) (by simp) (by simp) (by simp) (by simp) (fun _ => ⟨g1, g2⟩)
    have HG5 : Hid (G = Got true (E.mk 0 none_ 0 [] [], rest P (p + 1))) := Lib.hid hg
    clear hg HG g1 g2
    go_wp2_with fail
    have hb9 := put5_below (Below.refl w.heap.size ((w2.setCell ⟨pb, 1, none⟩ (.int .i64 ((p : Int) + 1))).setCell ⟨pb, 2, none⟩ (.bool true))) (B := w.heap.size) (Nat.le_refl _) (.int .i64 0) (.string ⟨#[]⟩) (.int .i64 0) (.slice none 0 0) (.slice none 0 0)
    have h9 := H3.out.no
    have ht9 := HT3.out.set 2 (.bool true)
    rw [HPB.out] at h9 ht9
    refine bodyPost_ret (v := .agg #[.int .i64 0, .string ⟨#[]⟩, .int .i64 0, .slice none 0 0, .slice none 0 0]) (by simp [results, Tryz.results72, go_sem, *]) rfl ?_
    exact ⟨_, .mk 0 none_ 0 [] [], p + 1, true, rfl, ⟨_, _, rfl, leaf_node (by rfl) (by rfl) (Nat.zero_le _)⟩, h9.low hb9 HLO.out, ht9.low hb9, HG5.out⟩

theorem primary_read {n : Nat} (hx : XC n) {P : Cst} {p : Nat} {w : World} (h : PS P p false w) (hn : (rest P p).length ≤ n) :
    Calls Tryz.prog 72 #[.pointer (some ⟨P.pb, 0, none⟩)] w (Back P w (primary (expr n) (rest P p))) := by
  cases hr : rest P p with
  | nil => rw [← hr]; exact primary_nil h hr
  | cons t r => rw [← hr]; exact primary_cons hx h hn hr
end Go.Proofs.YtbflpocbjdccgaaGreatDoor.Parser

namespace Go.Proofs.YtbflpocbjdccgaaGreatDoor.Parser
open Go.RowKit
open Strs Tree Gram

/-- The world without what lies in block B. -/
def erase (B : Nat) (w : World) : World := { w with heap := w.heap.setIfInBounds B (.cells #[] 0) }
theorem erase_block {B b : Nat} {w : World} (h : b ≠ B) : (erase B w).heap[b]? = w.heap[b]? := by
  unfold erase
  simp only
  rw [Array.getElem?_setIfInBounds_ne (Ne.symm h)]
theorem erase_cell {B b o : Nat} {w : World} {v : Value} : (erase B w).cell? ⟨b, o, none⟩ = some v ↔ b ≠ B ∧ w.cell? ⟨b, o, none⟩ = some v := by
  by_cases h : b = B
  · subst h
    refine ⟨fun e => ?_, fun e => absurd rfl e.1⟩
    have hlt := cell_lt e
    have hs : (erase b w).heap.size = w.heap.size := by unfold erase; simp
    rw [hs] at hlt
    simp only at hlt
    have : (erase b w).heap[b]? = some (.cells #[] 0) := by
      unfold erase
      simp only
      rw [Array.getElem?_setIfInBounds_self_of_lt hlt]
    unfold World.cell? at e
    simp only [this] at e
    simp at e
  · rw [World.cell?_of_block (a := ⟨b, o, none⟩) (erase_block h)]
    exact ⟨fun e => ⟨h, e⟩, fun e => e.2⟩
/-- A tree that lies off block B. -/
def Off (B lo : Nat) (w : World) (e : E) (vn vk : Value) : Prop := NodeAt lo (erase B w) e vn vk
theorem kept_erase (B lo : Nat) (w : World) : Kept lo (erase B w) w := fun _ _ _ _ hc => (erase_cell.1 hc).2
theorem Off.on {B lo : Nat} {w : World} {e : E} {vn vk : Value} (h : Off B lo w e vn vk) : NodeAt lo w e vn vk := NodeAt.keep (Nat.le_refl _) (kept_erase B lo w) _ _ _ h
/-- What holds off block B goes on holding. -/
def KeptOff (B lo : Nat) (w w' : World) : Prop := Kept lo (erase B w) (erase B w')
theorem kept_off {B lo : Nat} {w w' : World} (h : Kept lo w w') : KeptOff B lo w w' := fun b o v hb hc => by
  obtain ⟨h1, h2⟩ := erase_cell.1 hc
  exact erase_cell.2 ⟨h1, h b o v hb h2⟩
theorem off_set {B lo : Nat} (w : World) (o : Nat) (u : Value) : KeptOff B lo w (w.setCell ⟨B, o, none⟩ u) := fun b p v _ hc => by
  obtain ⟨h1, h2⟩ := erase_cell.1 hc
  refine erase_cell.2 ⟨h1, ?_⟩
  rw [World.cell?_setCell_other _ _ _ _ (by intro e; injection e with e1 e2 e3; exact h1 e1.symm)]
  exact h2
theorem KeptOff.trans {B lo : Nat} {a b c : World} (h : KeptOff B lo a b) (k : KeptOff B lo b c) : KeptOff B lo a c := Kept.trans h k
theorem off_put5 {B lo : Nat} (w : World) (a b c d e : Value) : KeptOff B lo w (put5 w B a b c d e) :=
  ((((off_set w 0 a).trans (off_set _ 1 b)).trans (off_set _ 2 c)).trans (off_set _ 3 d)).trans (off_set _ 4 e)
theorem Off.keep {B lo : Nat} {w w' : World} {e : E} {vn vk : Value} (h : Off B lo w e vn vk) (k : KeptOff B lo w w') : Off B lo w' e vn vk := NodeAt.keep (Nat.le_refl _) k _ _ _ h
theorem Off.kept {B lo : Nat} {w w' : World} {e : E} {vn vk : Value} (h : Off B lo w e vn vk) (k : Kept lo w w') : Off B lo w' e vn vk := h.keep (kept_off k)
/-- A tree that was there before block B. -/
theorem off_new {B lo : Nat} {w w' : World} {e : E} {vn vk : Value} (h : NodeAt lo w e vn vk) (hB : w.heap.size ≤ B) (k : Kept lo w w') : Off B lo w' e vn vk :=
  NodeAt.keep (Nat.le_refl _) (fun b o v hb hc => erase_cell.2 ⟨by have := cell_lt hc; simp only at this; omega, k b o v hb hc⟩) _ _ _ h
/-- A tree that lies above block B. -/
theorem off_above {B lo l1 : Nat} {w : World} {e : E} {vn vk : Value} (h : NodeAt l1 w e vn vk) (hl : lo ≤ l1) (hB : B < l1) : Off B lo w e vn vk :=
  NodeAt.keep hl (fun b o v hb hc => erase_cell.2 ⟨by omega, hc⟩) _ _ _ h
theorem own_erase {w : World} {base : Nat} {e : TypeId} {size : Nat} {v : Value} {n : Nat} {xs : List Value} (h : w.ownsRow base e size v n xs) {B : Nat} (hB : B < base) : (erase B w).ownsRow base e size v n xs := by
  refine ⟨h.1, ?_⟩
  rcases h.2 with hn | ⟨g, cap, cur, rfl, hbg, hgg, rest⟩
  · exact .inl hn
  · refine .inr ⟨g, cap, cur, rfl, hbg, ?_, rest⟩
    rw [erase_block (by omega)]
    exact hgg
/-- A message sent to a tree off block B lies off it too. -/
theorem off_send {B lo base : Nat} {w w' : World} {e : E} {vn vk vk' : Value} {L : List Item} {s : ByteArray} (h : Off B lo w e vn vk) (ha : ∀ x, x ∈ L → Off B lo w x.1 x.2.1 x.2.2) (hs : s.size ≤ maxLen) (hb : Below w.heap.size w w')
    (ho : w'.ownsRow base 25 5 vk' (L.length + 1) (row5 ((e, vn, vk) :: L))) (hlo : lo ≤ base) (hB : B < base) : Off B lo w' (eSend e s (trees L)) (.slice none 0 0) vk' := by
  have hk := own_kids (lo := lo) (L := (e, vn, vk) :: L) (own_erase ho hB) hlo fun x hx => by
    rcases List.mem_cons.1 hx with rfl | hx
    · exact Off.kept h (kept_below hb)
    · exact Off.kept (ha x hx) (kept_below hb)
  exact node_iff.2 ⟨by rfl, by rfl, hs, texts_none _ _, hk.kids⟩
end Go.Proofs.YtbflpocbjdccgaaGreatDoor.Parser

namespace Go.Proofs.YtbflpocbjdccgaaGreatDoor.Parser
open Go.RowKit
open Strs Tree Gram

theorem un_stop {e : E} {s : Bool} {r : R} (h : hd 1 r = false) : unLoop e s r = (e, s, r) := by
  cases r with
  | nil => rfl
  | cons t r => rw [unLoop, if_neg]; simpa [hd] using h
theorem un_go {e : E} {s : Bool} {r : R} (h : hd 1 r = true) : unLoop e s r = unLoop (eSend e (txt r) []) true r.tail := by
  cases r with
  | nil => cases h
  | cons t r => rw [unLoop, if_pos]; · rfl
                simpa [hd] using h

theorem five_put {B : Nat} {a b c d e a' b' c' d' e' : Value} {w : World} (h : Five B a' b' c' d' e' w) : Five B a b c d e (put5 w B a b c d e) := by
  obtain ⟨hs, z0, z1, z2, z3, z4, fz⟩ := h
  unfold put5
  refine ⟨by simpa [World.setCell] using hs, ?_, ?_, ?_, ?_, ?_, fun o => ?_⟩
  all_goals first | go_simp | (have := fz o; go_simp)

set_option maxRecDepth 10000 in
set_option maxHeartbeats 8000000 in
theorem unary_read {n : Nat} (hx : XC n) {P : Cst} {p : Nat} {w : World} (h : PS P p false w) (hn : (rest P p).length ≤ n) :
    Calls Tryz.prog 55 #[.pointer (some ⟨P.pb, 0, none⟩)] w (Back2 P w (unary (expr n) (rest P p))) := by
  have hb0 : Below w.heap.size w (w.alloc (.cells #[.int .i64 0, .string ⟨#[]⟩, .int .i64 0, .slice none 0 0, .slice none 0 0] 25)) := (Below.refl _ _).alloc (Nat.le_refl _) _
  have h1 := h.below hb0
  have HT := Lib.hid ((Turn.refl P w).low hb0)
  have HZ := Lib.hid (zero_new w 25)
  have HLO := Lib.hid h.lo
  have hl := h.fit.len
  have hpbl := h.size
  have KP := Lib.hid (primary_read hx h1 hn)
  have KI := fun (w1 : World) (q : Nat) (h1 : PS P q false w1) => Lib.hid (is_any h1 1 ⟨#[]⟩)
  have KN := fun (w1 : World) (q : Nat) (h1 : PS P q false w1) (hb : isB 1 ⟨#[]⟩ (rest P q) = true) => Lib.hid (need_yes h1 hb)
  have HF := Lib.hid h.fit
  generalize hG : unary (expr n) (rest P p) = G
  have HG : Hid (G = unary (expr n) (rest P p)) := Lib.hid hG.symm
  clear h h1 hb0 hn hx hG
  generalize hNN : P.toks.length = N at *
  have HNN := Lib.hid hNN; clear hNN
  generalize hpb : P.pb = pb at *
  have HPB := Lib.hid hpb; clear hpb
  go_enter Tryz.func55, Tryz.ntmps55
  go_wp2_with fail
  refine KP.out.mono ?_
  rintro e w1 ⟨v1, t1, q1, b1, rfl, hr1, h1, ht1, hg1⟩
  obtain ⟨xn, xk, rfl, hnode⟩ := hr1
  obtain ⟨xa, xl, xc, ya, yl, yc, rfl, rfl⟩ := node_forms hnode
  have hba : ∀ o, Below w1.heap.size w1 (w1.alloc o) := fun o => (Below.refl _ _).alloc (Nat.le_refl _) o
  have H1 := Lib.hid (h1.below (hba (.cells #[.int .i64 t1.kind, .string t1.text, .int .i64 t1.num, .slice xa xl xc, .slice ya yl yc] 25)))
  have HT1 := Lib.hid ((HT.out.trans ht1).below (hba (.cells #[.int .i64 t1.kind, .string t1.text, .int .i64 t1.num, .slice xa xl xc, .slice ya yl yc] 25)))
  have HZ1 := Lib.hid ((HZ.out.turn ht1 (by rw [HPB.out]; omega)).step (hba (.cells #[.int .i64 t1.kind, .string t1.text, .int .i64 t1.num, .slice xa xl xc, .slice ya yl yc] 25)))
  have HF1 := Lib.hid (five_new w1 (.int .i64 t1.kind) (.string t1.text) (.int .i64 t1.num) (.slice xa xl xc) (.slice ya yl yc) 25)
  have HN1 := Lib.hid (off_new (B := w1.heap.size) (lo := w.heap.size + 1) (NodeAt.keep HZ.out.size (fun _ _ _ _ hc => hc) _ _ _ hnode) (Nat.le_refl _) (kept_below (hba (.cells #[.int .i64 t1.kind, .string t1.text, .int .i64 t1.num, .slice xa xl xc, .slice ya yl yc] 25))))
  have HG1 : Hid ((b1 = false → G = some (unLoop t1 false (rest P q1))) ∧ (b1 = true → G = none)) := by
    refine Lib.hid ⟨fun e => ?_, fun e => ?_⟩
    · rw [HG.out, unary, hg1, e]; rfl
    · rw [HG.out, unary, hg1, e]; rfl
  have hB1 : w.heap.size < w1.heap.size := Nat.lt_of_lt_of_le HZ.out.size ht1.size
  clear h1 ht1 hnode hg1 hba HG
  go_wp2_with fail
  go_loopw [5] (fun v wr => ∃ (t : E) (s : Bool) (q : Nat) (b : Bool) (xa : Option Addr) (xl xc : Nat) (ya : Option Addr) (yl yc : Nat), v = .bool s ∧ PS P q b wr ∧ Turn P w wr ∧ Zero w.heap.size wr ∧ Five w1.heap.size (.int .i64 t.kind) (.string t.text) (.int .i64 t.num) (.slice xa xl xc) (.slice ya yl yc) wr ∧ Off w1.heap.size (w.heap.size + 1) wr t (.slice xa xl xc) (.slice ya yl yc) ∧ (b = false → G = some (unLoop t s (rest P q))) ∧ (b = true → G = none)) (fun _ wr => N - plc pb wr)
  case atStart => exact ⟨t1, false, q1, b1, xa, xl, xc, ya, yl, yc, rfl, H1.out, HT1.out, HZ1.out, HF1.out, HN1.out, HG1.out.1, HG1.out.2⟩
  case round =>
    clear HG1 HN1 HF1 HZ1 H1 HT1
    obtain ⟨t, s, q, b, xa, xl, xc, ya, yl, yc, rfl, hps, htr, hz, hf, hoff, hgood, hbad⟩ := hrel
    have HPS := Lib.hid hps
    have HTR := Lib.hid htr
    have HZ := Lib.hid hz
    have HFV := Lib.hid hf
    have HOFF := Lib.hid hoff
    have HGD := Lib.hid (And.intro hgood hbad)
    have c2 := hps.c2
    rw [HPB.out] at c2
    obtain ⟨hsz5, f0, f1, f2, f3, f4, ffz⟩ := hf
    clear hps htr hz hoff hgood hbad
    cases b with
    | true =>
      have HG2 : Hid (G = Got true (t, s, rest P q)) := Lib.hid (HGD.out.2 rfl)
      obtain ⟨hszz, y0, y1, y2, y3, y4, yfz⟩ := HZ.out
      go_wp2_with fail
      have hb9 := put5_below (Below.refl w.heap.size wr) (B := w.heap.size) (Nat.le_refl _) (.int .i64 t.kind) (.string t.text) (.int .i64 t.num) (.slice xa xl xc) (.slice ya yl yc)
      refine bodyPost_ret (v := .tuple #[.agg #[.int .i64 t.kind, .string t.text, .int .i64 t.num, .slice xa xl xc, .slice ya yl yc], .bool s]) (by simp [results, Tryz.results55, go_sem, *]) rfl ?_
      exact ⟨_, t, s, q, true, rfl, ⟨_, _, rfl, NodeAt.keep (lo := w.heap.size) (hi := w.heap.size + 1) (Nat.le_succ _) (kept_put5 wr (Nat.lt_succ_self _) _ _ _ _ _) _ _ _ HOFF.out.on⟩, HPS.out.low hb9 HLO.out, HTR.out.low hb9, HG2.out⟩
    | false =>
      have K := KI wr q HPS.out
      cases hb : isB 1 ⟨#[]⟩ (rest P q) with
      | false =>
        have HG2 : Hid (G = Got false (t, s, rest P q)) := Lib.hid (by rw [HGD.out.1 rfl, un_stop (by rw [← isB_none]; exact hb)]; rfl)
        rw [hb] at K
        clear hb
        go_wp2_with fail
        refine K.out.mono ?_
        rintro e w2 ⟨rfl, hd⟩
        have HPS2 := Lib.hid (HPS.out.drawn hd)
        have HTR2 := Lib.hid (HTR.out.drawn hd)
        have HOF2 := Lib.hid (HOFF.out.kept (kept_below hd.below))
        obtain ⟨hsz6, f0, f1, f2, f3, f4, ffz⟩ := HFV.out.step hd.below
        obtain ⟨hszz, y0, y1, y2, y3, y4, yfz⟩ := HZ.out.step hd.below
        clear hd
        go_wp2_with fail
        have hb9 := put5_below (Below.refl w.heap.size w2) (B := w.heap.size) (Nat.le_refl _) (.int .i64 t.kind) (.string t.text) (.int .i64 t.num) (.slice xa xl xc) (.slice ya yl yc)
        refine bodyPost_ret (v := .tuple #[.agg #[.int .i64 t.kind, .string t.text, .int .i64 t.num, .slice xa xl xc, .slice ya yl yc], .bool s]) (by simp [results, Tryz.results55, go_sem, *]) rfl ?_
        exact ⟨_, t, s, q, false, rfl, ⟨_, _, rfl, NodeAt.keep (lo := w.heap.size) (hi := w.heap.size + 1) (Nat.le_succ _) (kept_put5 w2 (Nat.lt_succ_self _) _ _ _ _ _) _ _ _ HOF2.out.on⟩, HPS2.out.low hb9 HLO.out, HTR2.out.low hb9, HG2.out⟩
      | true =>
        have HB := Lib.hid hb
        have HGT := Lib.hid (HGD.out.1 rfl)
        rw [hb] at K
        clear hb
        go_wp2_with fail
        refine K.out.mono ?_
        rintro e w2 ⟨rfl, hd⟩
        have HD := Lib.hid hd
        have HPS2 := Lib.hid (HPS.out.drawn hd)
        obtain ⟨hsz6, f0, f1, f2, f3, f4, ffz⟩ := HFV.out.step hd.below
        clear hd
        have KN2 := fun k => Lib.hid (need_yes (HPS2.out.draws k) HB.out)
        rw [HPB.out] at KN2
        have HX4 : Hid ((txt (rest P q)).size ≤ maxLen) := Lib.hid (Nat.le_trans (text_le HF.out) (by unfold maxLen; omega))
        generalize hxx : txt (rest P q) = x at *
        have HXX := Lib.hid hxx; clear hxx
        clear K
        go_wp2_with fail
        go_region_with (first
          | (go_at_call 24
             refine (KN2 _).out.mono ?_
             rintro e w3 ⟨rfl, h3, ht3⟩
             have H3 := Lib.hid h3
             have hdd : ∀ k, Turn P w2 (w2.drewN k) := fun k => (Turn.refl P w2).drawn ⟨k, rfl⟩
             have HT3 := Lib.hid (((HTR.out.drawn HD.out).trans (hdd _)).trans ht3)
             have HZ3 := Lib.hid (((HZ.out.step HD.out.below).turn (hdd _) (by rw [HPB.out]; omega)).turn ht3 (by rw [HPB.out]; omega))
             have HFW := (HFV.out.step HD.out.below).turn ((hdd _).trans ht3) (by rw [HPB.out]; omega)
             have HF3 := Lib.hid HFW
             obtain ⟨hsz7, f0, f1, f2, f3, f4, ffz⟩ := HFW
             have HOF3 := Lib.hid ((HOFF.out.kept (kept_below HD.out.below)).kept ((((hdd _).trans ht3).keptW (w := w) (by rw [HPB.out]; exact hpbl)).mono (Nat.le_succ _)))
             have KS := Lib.hid (send_raw (L := []) (s := x) HOF3.out.on (Kids5.nil _ _) (by simp))
             clear h3 ht3 hdd)
          | (go_at_call 27
             refine KS.out.mono ?_
             rintro e w4 ⟨vk', rfl, ho4, hb4⟩
             obtain ⟨ka, kc, rfl⟩ := Kit.row_form ho4
             have HO4 := Lib.hid ho4
             have HB4 := Lib.hid hb4
             obtain ⟨hsz8, f0, f1, f2, f3, f4, ffz⟩ := HF3.out.step hb4
             clear ho4 hb4))
        all_goals
          have HPS4 := Lib.hid (H3.out.below HB4.out)
          have HT4 := Lib.hid (HT3.out.below HB4.out)
          have HZ4 := Lib.hid (HZ3.out.step HB4.out)
          have HF4 := Lib.hid (HF3.out.step HB4.out)
          have HOF4 := Lib.hid (off_send (L := []) HOF3.out (fun _ h => nomatch h) HX4.out HB4.out HO4.out (by have := HZ3.out.size; omega) (by have := HF3.out.size; omega))
          clear f0 f1 f2 f3 f4 ffz
          go_wp2_with fail
          go_roundw
          case rel =>
            have hb9 := put5_below (Below.refl w.heap.size w4) (B := w1.heap.size) (Nat.le_of_lt hB1) (.int .i64 6) (.string x) (.int .i64 0) (.slice none 0 0) (.slice ka 1 kc)
            have hb8 := put5_below (Below.refl (w.heap.size + 1) w4) (B := w1.heap.size) hB1 (.int .i64 6) (.string x) (.int .i64 0) (.slice none 0 0) (.slice ka 1 kc)
            refine ⟨eSend t x [], true, q + 1, false, none, 0, 0, ka, 1, kc, rfl, HPS4.out.low hb9 HLO.out, HT4.out.low hb9, HZ4.out.low hb8 (Nat.lt_succ_self _), five_put HF4.out, HOF4.out.keep (off_put5 w4 _ _ _ _ _), fun _ => ?_, (fun e => nomatch e)⟩
            rw [HGT.out, un_go (by rw [← isB_none]; exact HB.out), HXX.out, rest_tail]
          case measure =>
            have hb9 := put5_below (Below.refl w.heap.size w4) (B := w1.heap.size) (Nat.le_of_lt hB1) (.int .i64 6) (.string x) (.int .i64 0) (.slice none 0 0) (.slice ka 1 kc)
            have h1 := (HPS4.out.low hb9 HLO.out).plc
            have h2 := HPS.out.plc
            rw [HPB.out] at h1 h2
            have h3 := isB_lt HB.out
            rw [HNN.out] at h3
            show N - plc pb (put5 w4 w1.heap.size _ _ _ _ _) < N - plc pb wr
            rw [h1, h2]
            omega
end Go.Proofs.YtbflpocbjdccgaaGreatDoor.Parser
