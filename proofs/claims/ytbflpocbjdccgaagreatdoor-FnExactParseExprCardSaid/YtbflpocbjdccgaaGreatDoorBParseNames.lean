/-
  The model's parser in memory: the tokens, the place, whether something was wrong; what may turn while it reads.
  The model's parser: whether the next token is of a kind and a text; taking it; needing it.
  The model's parser: taking a token if it is there; needing it.
  The model's parser: rows of the call's own beside it.
  The model's parser: whether a statement begins.
  The model's parser: names between two bars.
-/
import Derived.Test.YtbflpocbjdccgaaGreatDoorBTreeOk
import Derived.Test.YtbflpocbjdccgaaGreatDoorBGram
import Derived.Maps.AppendAt
import Derived.Test.YtbflpocbjdccgaaGreatDoorBSpecStarts
import Derived.Deep.QuietTactic
import Derived.BigQuiet
import Derived.Deep.RegionHeld3
import Derived.Laws.AppendOwn
import Derived.Test.YtbflpocbjdccgaaGreatDoorBSpecTree2
namespace Go.Proofs.YtbflpocbjdccgaaGreatDoor.Parser
open Go.RowKit
open Strs Tree Gram

/-- The parser's block, its tokens' slice, and the tokens. -/
structure Cst where
  pb : Nat
  ta : Option Addr
  cap : Nat
  toks : List Tok.T
/-- The tokens are few, and none is long. -/
structure Fit (P : Cst) : Prop where
  len : P.toks.length ≤ 800
  cap : P.toks.length ≤ P.cap
  cap2 : P.cap ≤ maxLen
  text : ∀ t, t ∈ P.toks → t.text.size ≤ 4000
  kind : ∀ t, t ∈ P.toks → (Lit.int .i64 t.kind).wf = true
  num : ∀ t, t ∈ P.toks → (Lit.int .i64 t.num).wf = true
/-- The parser stands at place p; bad: something was wrong. -/
structure PS (P : Cst) (p : Nat) (bad : Bool) (wr : World) : Prop where
  fit : Fit P
  size : P.pb < wr.heap.size
  le : p ≤ P.toks.length
  c0 : wr.cell? ⟨P.pb, 0, none⟩ = some (.slice P.ta P.toks.length P.cap)
  c1 : wr.cell? ⟨P.pb, 1, none⟩ = some (.int .i64 p)
  c2 : wr.cell? ⟨P.pb, 2, none⟩ = some (.bool bad)
  fz : ∀ o, wr.frozen? ⟨P.pb, o, none⟩ = false
  tok : ∀ i t, P.toks[i]? = some t → ∃ b o, P.ta = some ⟨b, o, none⟩ ∧ b ≠ P.pb ∧ wr.cell? ⟨b, o + i * 3, none⟩ = some (.int .i64 t.kind) ∧ wr.cell? ⟨b, o + i * 3 + 1, none⟩ = some (.string t.text) ∧ wr.cell? ⟨b, o + i * 3 + 2, none⟩ = some (.int .i64 t.num)
/-- What is still to be read. -/
def rest (P : Cst) (p : Nat) : R := P.toks.drop p
theorem PS.below {P : Cst} {p : Nat} {bad : Bool} {wr w' : World} (h : PS P p bad wr) (hb : Below wr.heap.size wr w') : PS P p bad w' :=
  ⟨h.fit, Nat.lt_of_lt_of_le h.size hb.size, h.le, cell_keep hb h.c0, cell_keep hb h.c1, cell_keep hb h.c2, fun o => (hb.frozen (p := ⟨P.pb, o, none⟩) h.size).trans (h.fz o), fun i t ht => by
    obtain ⟨b, o, e, hne, d0, d1, d2⟩ := h.tok i t ht
    exact ⟨b, o, e, hne, cell_keep hb d0, cell_keep hb d1, cell_keep hb d2⟩⟩
theorem PS.draws {P : Cst} {p : Nat} {bad : Bool} {wr : World} (h : PS P p bad wr) (k : Nat) : PS P p bad (wr.drewN k) := h.below ⟨rfl, rfl, rfl, Nat.le_refl _, fun _ _ => rfl⟩
theorem other (w : World) (pb o' b o : Nat) (v u : Value) (h : b ≠ pb ∨ o ≠ o') (hc : w.cell? ⟨b, o, none⟩ = some u) : (w.setCell ⟨pb, o', none⟩ v).cell? ⟨b, o, none⟩ = some u :=
  (World.cell?_setCell_other _ _ _ _ (by intro e; injection e with e1 e2 e3; omega)).trans hc
/-- The place is moved on. -/
theorem PS.go {P : Cst} {p : Nat} {bad : Bool} {wr : World} (h : PS P p bad wr) (q : Nat) (hq : q ≤ P.toks.length) : PS P q bad (wr.setCell ⟨P.pb, 1, none⟩ (.int .i64 q)) := by
  refine ⟨h.fit, by simpa using h.size, hq, other _ _ _ _ _ _ _ (by omega) h.c0, ?_, other _ _ _ _ _ _ _ (by omega) h.c2, fun o => ?_, fun i t ht => ?_⟩
  · have := h.c1
    go_simp
  · have := h.fz o
    go_simp
  · obtain ⟨b, o, e, hne, d0, d1, d2⟩ := h.tok i t ht
    exact ⟨b, o, e, hne, other _ _ _ _ _ _ _ (.inl hne) d0, other _ _ _ _ _ _ _ (.inl hne) d1, other _ _ _ _ _ _ _ (.inl hne) d2⟩
/-- Something was wrong. -/
theorem PS.no {P : Cst} {p : Nat} {bad : Bool} {wr : World} (h : PS P p bad wr) : PS P p true (wr.setCell ⟨P.pb, 2, none⟩ (.bool true)) := by
  refine ⟨h.fit, by simpa using h.size, h.le, other _ _ _ _ _ _ _ (by omega) h.c0, other _ _ _ _ _ _ _ (by omega) h.c1, ?_, fun o => ?_, fun i t ht => ?_⟩
  · have := h.c2
    go_simp
  · have := h.fz o
    go_simp
  · obtain ⟨b, o, e, hne, d0, d1, d2⟩ := h.tok i t ht
    exact ⟨b, o, e, hne, other _ _ _ _ _ _ _ (.inl hne) d0, other _ _ _ _ _ _ _ (.inl hne) d1, other _ _ _ _ _ _ _ (.inl hne) d2⟩

/-- The parser's own block may have turned, and nothing else. -/
def Turn (P : Cst) (w w' : World) : Prop := w.grownBy w' (some P.pb)
theorem Turn.refl (P : Cst) (w : World) : Turn P w w := ⟨rfl, rfl, rfl, Nat.le_refl _, fun _ _ _ => rfl⟩
theorem Turn.trans {P : Cst} {a b c : World} (h : Turn P a b) (k : Turn P b c) : Turn P a c := World.grownBy.trans h k
theorem Turn.below {P : Cst} {a b c : World} (h : Turn P a b) (k : Below b.heap.size b c) : Turn P a c := h.trans ⟨k.os, k.tape, k.output, k.size, fun i hi _ => k.block i hi⟩
theorem Turn.set {P : Cst} {a b : World} (h : Turn P a b) (o : Nat) (v : Value) : Turn P a (b.setCell ⟨P.pb, o, none⟩ v) :=
  h.trans ⟨rfl, rfl, rfl, by simp [World.setCell], fun k _ hk => Below.heap_setCell _ _ _ _ (fun e => hk (by rw [e]))⟩
theorem Turn.kept {P : Cst} {w w' : World} (h : Turn P w w') : Kept (P.pb + 1) w w' := fun b o v hb hc => by
  have hlt := cell_lt hc
  exact h.cell (a := ⟨b, o, none⟩) hc (by simp; omega)
theorem Turn.reads {P : Cst} {w w' : World} (h : Turn P w w') {e : E} {v : Value} (hr : Reads (P.pb + 1) w e v) : Reads (P.pb + 1) w' e v := hr.keep (Nat.le_refl _) h.kept
theorem Turn.kids {P : Cst} {w w' : World} (h : Turn P w w') {ks : List E} {v : Value} (hr : KidsAt (P.pb + 1) w ks v) : KidsAt (P.pb + 1) w' ks v := hr.keep (Nat.le_refl _) h.kept
theorem Turn.texts {P : Cst} {w w' : World} (h : Turn P w w') {xs : List ByteArray} {v : Value} (hr : Texts (P.pb + 1) w xs v) : Texts (P.pb + 1) w' xs v := hr.keep (Nat.le_refl _) h.kept

/-- Whether the next token is of this kind, with this text (any, if it is empty). -/
def isB (k : Int) (c : ByteArray) : R → Bool
  | [] => false
  | t :: _ => decide (t.kind = k) && (decide (c.size = 0) || decide (t.text = c))
theorem isB_hd (k : Int) (r : R) : isB k none_ r = hd k r := by
  cases r with
  | nil => rfl
  | cons t r =>
    have : none_.size = 0 := rfl
    simp [isB, hd, this]
theorem isB_mk (c : ByteArray) (hc : ¬ c.size = 0) (r : R) : isB 7 c r = mk c r := by
  cases r with
  | nil => rfl
  | cons t r => simp [isB, mk, hc]
theorem rest_cons {P : Cst} {p : Nat} {t : Tok.T} {r : R} (h : rest P p = t :: r) : p < P.toks.length ∧ P.toks[p]? = some t ∧ rest P (p + 1) = r := by
  unfold rest at *
  have hp : p < P.toks.length := by
    rcases Nat.lt_or_ge p P.toks.length with h1 | h1
    · exact h1
    · rw [List.drop_of_length_le h1] at h; cases h
  rw [List.drop_eq_getElem_cons hp] at h
  injection h with h1 h2
  exact ⟨hp, by rw [List.getElem?_eq_getElem hp, h1], h2⟩
theorem rest_nil {P : Cst} {p : Nat} (hp : p ≤ P.toks.length) (h : rest P p = []) : p = P.toks.length := by
  unfold rest at h
  have := congrArg List.length h
  simp at this
  omega
theorem rest_len (P : Cst) (p : Nat) : (rest P p).length = P.toks.length - p := by unfold rest; simp
theorem rest_tail (P : Cst) (p : Nat) : (rest P p).tail = rest P (p + 1) := by unfold rest; rw [List.tail_drop]
end Go.Proofs.YtbflpocbjdccgaaGreatDoor.Parser

namespace Go.Proofs.YtbflpocbjdccgaaGreatDoor.Parser
open Go.RowKit
open Strs Tree Gram

/-- The world has been drawn from, and nothing else. -/
def Drawn (w w' : World) : Prop := ∃ m, w' = w.drewN m
theorem Drawn.refl (w : World) : Drawn w w := ⟨0, rfl⟩
theorem Drawn.more {w w' : World} (h : Drawn w w') (k : Nat) : Drawn w (w'.drewN k) := by
  obtain ⟨m, rfl⟩ := h
  exact ⟨m + k, by rw [World.drewN_drewN]⟩
theorem Drawn.below {w w' : World} (h : Drawn w w') : Below w.heap.size w w' := by
  obtain ⟨m, rfl⟩ := h
  exact ⟨rfl, rfl, rfl, Nat.le_refl _, fun _ _ => rfl⟩
theorem PS.drawn {P : Cst} {p : Nat} {bad : Bool} {w w' : World} (h : PS P p bad w) (hd : Drawn w w') : PS P p bad w' := h.below hd.below

theorem kind_eq (a b : Int) : (a == b) = decide (a = b) := by
  by_cases h : a = b
  · subst h; simp
  · rw [decide_eq_false h]; simpa using h
theorem text_ne {s t : ByteArray} (h : ¬ s = t) : (s.toList == t.toList) = false := by
  refine Bool.eq_false_iff.2 fun e => h ?_
  have e1 := eq_of_beq e
  rw [ByteArray.toList_eq, ByteArray.toList_eq] at e1
  exact ByteArray.ext (Array.ext' e1)
theorem no_text {t : ByteArray} (h : ¬ t.size = 0) : t.toList.isEmpty = false := by
  rw [ByteArray.toList_eq, ← Bool.not_eq_true, List.isEmpty_iff]
  intro e
  have := congrArg List.length e
  rw [Array.length_toList] at this
  exact h this

set_option maxHeartbeats 2000000 in
theorem is_any {P : Cst} {p : Nat} {bad : Bool} {w : World} (h : PS P p bad w) (k : Int) (c : ByteArray) :
    Calls Tryz.prog 23 #[.pointer (some ⟨P.pb, 0, none⟩), .int .i64 k, .string c] w fun e w' => e = .returned (.bool (isB k c (rest P p))) ∧ Drawn w w' := by
  have c0 := h.c0
  have c1 := h.c1
  have hl := h.fit.len
  generalize hr : rest P p = r
  cases r with
  | nil =>
    have hp := rest_nil h.le hr
    clear h hr
    generalize P.pb = pb at *
    generalize P.toks.length = n at *
    subst hp
    generalize hD : isB k c [] = D
    have : D = false := by rw [← hD]; rfl
    subst this
    go_enter Tryz.func23, Tryz.ntmps23
    go_wp2_with fail
    go_quiet (fail)
    go_wp2_with fail
    go_ret
    exact ⟨rfl, Drawn.more ⟨0, rfl⟩ _⟩
  | cons t r =>
    obtain ⟨hp, ht, -⟩ := rest_cons hr
    obtain ⟨tb, to, hta, -, d0, d1, -⟩ := h.tok p t ht
    rw [hta] at c0
    have hD : isB k c (t :: r) = (decide (t.kind = k) && (decide (c.size = 0) || decide (t.text = c))) := rfl
    have hto : t.text.size ≤ 4000 := h.fit.text t (List.mem_of_getElem? ht)
    have hcap : P.toks.length ≤ P.cap := h.fit.cap
    generalize isB k c (t :: r) = D at *
    clear h hr ht hta
    generalize P.pb = pb at *
    generalize P.toks.length = n at *
    generalize P.cap = cap at *
    generalize t.kind = tk at *
    generalize t.text = tt at *
    have HD := Lib.hid hD; clear hD
    by_cases hk : tk = k
    case neg =>
      have : D = false := by rw [HD.out, decide_eq_false hk]; rfl
      subst this
      have e1 : (tk == k) = false := by rw [kind_eq, decide_eq_false hk]
      clear HD hk
      go_enter Tryz.func23, Tryz.ntmps23
      go_wp2_with fail
      go_quiet (fail)
      go_wp2_with fail
      go_ret
      exact ⟨rfl, Drawn.more ⟨0, rfl⟩ _⟩
    subst hk
    by_cases hc : c.size = 0
    · have : D = true := by rw [HD.out]; simp [hc]
      subst this
      have e2 : c.toList.isEmpty = true := by
        rw [ByteArray.toList_eq, List.isEmpty_iff]
        exact List.eq_nil_of_length_eq_zero (by rw [Array.length_toList]; exact hc)
      clear HD hc
      go_enter Tryz.func23, Tryz.ntmps23
      go_wp2_with fail
      go_quiet (fail)
      go_wp2_with fail
      go_ret
      exact ⟨rfl, Drawn.more ⟨0, rfl⟩ _⟩
    have e2 := no_text hc
    by_cases hcc : tt = c
    · have : D = true := by rw [HD.out]; simp [hcc]
      subst this
      subst hcc
      clear HD hc
      go_enter Tryz.func23, Tryz.ntmps23
      go_wp2_with fail
      go_quiet (fail)
      go_wp2_with fail
      go_ret
      exact ⟨rfl, Drawn.more ⟨0, rfl⟩ _⟩
    · have : D = false := by rw [HD.out]; simp [hcc, hc]
      subst this
      have e3 := text_ne hcc
      clear HD hc hcc
      go_enter Tryz.func23, Tryz.ntmps23
      go_wp2_with fail
      go_quiet (fail)
      go_wp2_with fail
      go_ret
      exact ⟨rfl, Drawn.more ⟨0, rfl⟩ _⟩
end Go.Proofs.YtbflpocbjdccgaaGreatDoor.Parser

namespace Go.Proofs.YtbflpocbjdccgaaGreatDoor.Parser
open Go.RowKit
open Strs Tree Gram

theorem isB_some {k : Int} {c : ByteArray} {r : R} (h : isB k c r = true) : ∃ t r', r = t :: r' ∧ t.kind = k := by
  cases r with
  | nil => cases h
  | cons t r =>
    refine ⟨t, r, rfl, ?_⟩
    simp only [isB, Bool.and_eq_true, decide_eq_true_eq] at h
    exact h.1
theorem Turn.drawn {P : Cst} {a b c : World} (h : Turn P a b) (k : Drawn b c) : Turn P a c := h.below k.below
theorem of_drawn {P : Cst} {a b : World} (k : Drawn a b) : Turn P a b := (Turn.refl P a).drawn k

set_option maxHeartbeats 2000000 in
theorem take_yes {P : Cst} {p : Nat} {bad : Bool} {w : World} (h : PS P p bad w) {k : Int} {c : ByteArray} (hb : isB k c (rest P p) = true) :
    Calls Tryz.prog 28 #[.pointer (some ⟨P.pb, 0, none⟩), .int .i64 k, .string c] w fun e w' => e = .returned (.bool true) ∧ PS P (p + 1) bad w' ∧ Turn P w w' := by
  have K := Lib.hid (is_any h k c)
  rw [hb] at K
  obtain ⟨t, r, hr, -⟩ := isB_some hb
  obtain ⟨hp, -, -⟩ := rest_cons hr
  have hl := h.fit.len
  have H := Lib.hid h
  have HP := Lib.hid hp
  have hp8 : p < 800 := by omega
  clear h hb hr hp hl
  generalize hpb : P.pb = pb at *
  have HPB := Lib.hid hpb; clear hpb
  go_enter Tryz.func28, Tryz.ntmps28
  go_wp2_with fail
  refine K.out.mono ?_
  rintro e w1 ⟨rfl, hd⟩
  have h1 := H.out.drawn hd
  have c1 := h1.c1
  rw [HPB.out] at c1
  have fz := h1.fz 1
  rw [HPB.out] at fz
  have HD := Lib.hid hd
  have H1 := Lib.hid h1
  clear hd h1
  go_wp2_with fail
  go_ret
  refine ⟨rfl, ?_, ?_⟩
  · have := H1.out.go (p + 1) (by have := HP.out; omega)
    rw [HPB.out] at this
    exact this
  · have := (of_drawn (P := P) HD.out).set 1 (.int .i64 ((p : Int) + 1))
    rw [HPB.out] at this
    exact this

set_option maxHeartbeats 2000000 in
theorem take_no {P : Cst} {p : Nat} {bad : Bool} {w : World} (h : PS P p bad w) {k : Int} {c : ByteArray} (hb : isB k c (rest P p) = false) :
    Calls Tryz.prog 28 #[.pointer (some ⟨P.pb, 0, none⟩), .int .i64 k, .string c] w fun e w' => e = .returned (.bool false) ∧ PS P p bad w' ∧ Turn P w w' := by
  have K := Lib.hid (is_any h k c)
  rw [hb] at K
  have H := Lib.hid h
  clear h hb
  generalize hpb : P.pb = pb at *
  clear hpb
  go_enter Tryz.func28, Tryz.ntmps28
  go_wp2_with fail
  refine K.out.mono ?_
  rintro e w1 ⟨rfl, hd⟩
  have HD := Lib.hid hd
  clear hd
  go_wp2_with fail
  go_ret
  exact ⟨rfl, H.out.drawn HD.out, of_drawn HD.out⟩

set_option maxHeartbeats 2000000 in
theorem need_no {P : Cst} {p : Nat} {bad : Bool} {w : World} (h : PS P p bad w) {k : Int} {c : ByteArray} (hb : isB k c (rest P p) = false) :
    Calls Tryz.prog 24 #[.pointer (some ⟨P.pb, 0, none⟩), .int .i64 k, .string c] w fun e w' => e = .returned (.string ⟨#[]⟩) ∧ PS P p true w' ∧ Turn P w w' := by
  have K := Lib.hid (is_any h k c)
  rw [hb] at K
  have H := Lib.hid h
  clear h hb
  generalize hpb : P.pb = pb at *
  have HPB := Lib.hid hpb; clear hpb
  go_enter Tryz.func24, Tryz.ntmps24
  go_wp2_with fail
  refine K.out.mono ?_
  rintro e w1 ⟨rfl, hd⟩
  have h1 := H.out.drawn hd
  have c2 := h1.c2
  rw [HPB.out] at c2
  have fz := h1.fz 2
  rw [HPB.out] at fz
  have HD := Lib.hid hd
  have H1 := Lib.hid h1
  clear hd h1
  go_wp2_with fail
  go_ret
  refine ⟨rfl, ?_, ?_⟩
  · have := H1.out.no
    rw [HPB.out] at this
    exact this
  · have := (of_drawn (P := P) HD.out).set 2 (.bool true)
    rw [HPB.out] at this
    exact this

set_option maxHeartbeats 2000000 in
theorem need_yes {P : Cst} {p : Nat} {bad : Bool} {w : World} (h : PS P p bad w) {k : Int} {c : ByteArray} (hb : isB k c (rest P p) = true) :
    Calls Tryz.prog 24 #[.pointer (some ⟨P.pb, 0, none⟩), .int .i64 k, .string c] w fun e w' => e = .returned (.string (txt (rest P p))) ∧ PS P (p + 1) bad w' ∧ Turn P w w' := by
  have K := Lib.hid (is_any h k c)
  rw [hb] at K
  obtain ⟨t, r, hr, -⟩ := isB_some hb
  obtain ⟨hp, ht, -⟩ := rest_cons hr
  have hx : txt (rest P p) = t.text := by rw [hr]; rfl
  rw [hx]
  have hl := h.fit.len
  have hcap := h.fit.cap
  obtain ⟨tb, to, hta, hne, -, -, -⟩ := h.tok p t ht
  have H := Lib.hid h
  have HP := Lib.hid hp
  have HT := Lib.hid ht
  have HTA := Lib.hid hta
  have hp8 : p < 800 := by omega
  clear h hb hr hl hx ht hta
  generalize hpb : P.pb = pb at *
  generalize hN : P.toks.length = N at *
  generalize hC : P.cap = cap at *
  generalize htt : t.text = tt at *
  have HTT := Lib.hid htt; clear htt
  have HPB := Lib.hid (And.intro hpb (And.intro hN hC)); clear hpb hN hC
  go_enter Tryz.func24, Tryz.ntmps24
  go_wp2_with fail
  refine K.out.mono ?_
  rintro e w1 ⟨rfl, hd⟩
  have h1 := H.out.drawn hd
  have c0 := h1.c0
  have c1 := h1.c1
  rw [HPB.out.1] at c1
  rw [HPB.out.1, HPB.out.2.1, HPB.out.2.2, HTA.out] at c0
  have fz := h1.fz 1
  rw [HPB.out.1] at fz
  have d1 : w1.cell? ⟨tb, to + p * 3 + 1, none⟩ = some (.string tt) := by
    rw [← HTT.out]
    obtain ⟨tb', to', hta', -, -, d1, -⟩ := h1.tok p t HT.out
    rw [HTA.out] at hta'
    cases hta'
    exact d1
  have HD := Lib.hid hd
  have H1 := Lib.hid h1
  clear hd h1
  go_wp2_with fail
  go_quiet (fail)
  go_wp2_with fail
  go_ret
  refine ⟨rfl, ?_, ?_⟩
  · have := H1.out.go (p + 1) (by have := HP.out; have := HPB.out.2.1; omega)
    rw [HPB.out.1] at this
    exact this.draws _
  · have := (of_drawn (P := P) HD.out).set 1 (.int .i64 ((p : Int) + 1))
    rw [HPB.out.1] at this
    exact this.drawn ⟨_, rfl⟩
end Go.Proofs.YtbflpocbjdccgaaGreatDoor.Parser

namespace Go.Proofs.YtbflpocbjdccgaaGreatDoor.Parser
open Go.RowKit
open Strs Tree Gram

/-- The parser and its tokens lie below this block. -/
def Lo (P : Cst) (base : Nat) : Prop := P.pb < base ∧ ∀ b o, 0 < P.toks.length → P.ta = some ⟨b, o, none⟩ → b < base
theorem PS.lo {P : Cst} {p : Nat} {bad : Bool} {w : World} (h : PS P p bad w) : Lo P w.heap.size := by
  refine ⟨h.size, fun b o hl e => ?_⟩
  obtain ⟨b', o', e', -, d, -⟩ := h.tok 0 P.toks[0] (List.getElem?_eq_getElem hl)
  rw [e] at e'
  cases e'
  exact cell_lt d
theorem Lo.le {P : Cst} {a b : Nat} (h : Lo P a) (hab : a ≤ b) : Lo P b := ⟨Nat.lt_of_lt_of_le h.1 hab, fun x o hl e => Nat.lt_of_lt_of_le (h.2 x o hl e) hab⟩
theorem cell_low {w w' : World} {base b o : Nat} {v : Value} (hb : Below base w w') (hlt : b < base) (h : w.cell? ⟨b, o, none⟩ = some v) : w'.cell? ⟨b, o, none⟩ = some v := by
  rw [hb.cell (p := ⟨b, o, none⟩) hlt]; exact h
theorem PS.low {P : Cst} {p : Nat} {bad : Bool} {wr w' : World} {base : Nat} (h : PS P p bad wr) (hb : Below base wr w') (hl : Lo P base) : PS P p bad w' :=
  ⟨h.fit, Nat.lt_of_lt_of_le h.size hb.size, h.le, cell_low hb hl.1 h.c0, cell_low hb hl.1 h.c1, cell_low hb hl.1 h.c2, fun o => (hb.frozen (p := ⟨P.pb, o, none⟩) hl.1).trans (h.fz o), fun i t ht => by
    obtain ⟨b, o, e, hne, d0, d1, d2⟩ := h.tok i t ht
    have hlt := hl.2 b o (by
      have := (List.getElem?_eq_some_iff.1 ht).1
      omega) e
    exact ⟨b, o, e, hne, cell_low hb hlt d0, cell_low hb hlt d1, cell_low hb hlt d2⟩⟩
theorem Turn.low {P : Cst} {a b c : World} (h : Turn P a b) (k : Below a.heap.size b c) : Turn P a c := by
  have h' : a.grownBy b (some P.pb) := h
  exact ⟨k.os.trans h'.os, k.tape.trans h'.tape, k.output.trans h'.output, Nat.le_trans h'.size k.size, fun i hi hn => (k.block i hi).trans (h'.block i hi hn)⟩
theorem Turn.size {P : Cst} {a b : World} (h : Turn P a b) : a.heap.size ≤ b.heap.size := World.grownBy.size h
/-- A row of the call's own goes on being one while the parser turns. -/
theorem own_turn {P : Cst} {w w' : World} {base : Nat} {e : TypeId} {size : Nat} {v : Value} {n : Nat} {xs : List Value} (h : w.ownsRow base e size v n xs) (ht : Turn P w w') (hp : P.pb < base) : w'.ownsRow base e size v n xs := by
  have hlt := h.lt
  refine ⟨h.1, ?_⟩
  rcases h.2 with hn | ⟨g, cap, cur, rfl, hbg, hgg, rest⟩
  · exact .inl hn
  · refine .inr ⟨g, cap, cur, rfl, hbg, ?_, rest⟩
    rw [World.grownBy.block ht g (hlt g rfl).2 (by simp; omega)]
    exact hgg
theorem texts_own {w : World} {base lo : Nat} {v : Value} {xs : List ByteArray} (h : w.ownsRow base 9 1 v xs.length (xs.map Value.string)) (hlo : lo ≤ base) (hx : ∀ x, x ∈ xs → x.size ≤ maxLen) : Texts lo w xs v := by
  have h' := h
  obtain ⟨_, ⟨rfl, hn⟩ | ⟨g, cap, cur, rfl, hbg, hg, hnc, hcm, _, _⟩⟩ := h
  · exact ⟨none, 0, by rw [hn], ⟨by omega, by unfold maxLen; omega⟩, hx, fun hp => by omega⟩
  · refine ⟨_, cap, rfl, ⟨hnc, hcm⟩, hx, fun hp => ⟨g, 0, rfl, by omega, fun j hj => ?_⟩⟩
    rw [Nat.zero_add, h'.cellAt j (by omega)]
    simp [hj]
/-- What was there is as it was, but for the parser, when a row of the call's own has been added to. -/
theorem app_low {wr w' : World} {base : Nat} {e : TypeId} {o : Obj} {v : Value} {n sz : Nat} {xs : List Value} (hb : base ≤ wr.heap.size) (hown : wr.ownsRow base e sz v n xs) (hg : (wr.alloc o).grownBy w' v.ownBlock) : Below base wr w' :=
  ((Below.refl base wr).alloc hb o).grown hg (by simp; omega) (fun k hk => (hown.lt k hk).1)
/-- The place at which the parser of this block stands. -/
def plc (pb : Nat) (w : World) : Nat := match w.cell? ⟨pb, 1, none⟩ with | some (.int _ n) => n.toNat | _ => 0
theorem PS.plc {P : Cst} {p : Nat} {bad : Bool} {w : World} (h : PS P p bad w) : plc P.pb w = p := by
  unfold Parser.plc
  rw [h.c1]
  simp
theorem text_le {P : Cst} {p : Nat} (hf : Fit P) : (txt (rest P p)).size ≤ 4000 := by
  generalize hr : rest P p = r
  cases r with
  | nil => exact Nat.zero_le _
  | cons t r => exact hf.text t (List.mem_of_getElem? (rest_cons hr).2.1)
theorem isB_lt {P : Cst} {p : Nat} {k : Int} {c : ByteArray} (h : isB k c (rest P p) = true) : p < P.toks.length := by
  obtain ⟨t, r, hr, -⟩ := isB_some h
  exact (rest_cons hr).1
theorem own_set {w : World} {base : Nat} {e : TypeId} {size : Nat} {v : Value} {n : Nat} {xs : List Value} (h : w.ownsRow base e size v n xs) (a : Addr) (u : Value) (hp : a.block < base) : (w.setCell a u).ownsRow base e size v n xs := by
  refine ⟨h.1, ?_⟩
  rcases h.2 with hn | ⟨g, cap, cur, rfl, hbg, hgg, rest⟩
  · exact .inl hn
  · refine .inr ⟨g, cap, cur, rfl, hbg, ?_, rest⟩
    rw [Below.heap_setCell _ _ _ _ (by omega)]
    exact hgg
/-- A tree's five cells at the head of block B are written. -/
def put5 (w : World) (B : Nat) (a b c d e : Value) : World := ((((w.setCell ⟨B, 0, none⟩ a).setCell ⟨B, 1, none⟩ b).setCell ⟨B, 2, none⟩ c).setCell ⟨B, 3, none⟩ d).setCell ⟨B, 4, none⟩ e
theorem put5_below {base : Nat} {w0 w : World} (h : Below base w0 w) {B : Nat} (hB : base ≤ B) (a b c d e : Value) : Below base w0 (put5 w B a b c d e) := ((((h.setCell hB _).setCell hB _).setCell hB _).setCell hB _).setCell hB _
theorem own_put5 {w : World} {base : Nat} {e : TypeId} {size : Nat} {v : Value} {n : Nat} {xs : List Value} (h : w.ownsRow base e size v n xs) {B : Nat} (hB : B < base) (a b c d f : Value) : (put5 w B a b c d f).ownsRow base e size v n xs :=
  own_set (own_set (own_set (own_set (own_set h _ _ hB) _ _ hB) _ _ hB) _ _ hB) _ _ hB
theorem kept_put5 (w : World) {B lo : Nat} (h : B < lo) (a b c d e : Value) : Kept lo w (put5 w B a b c d e) :=
  ((((kept_set w ⟨B, 0, none⟩ a h).trans (kept_set _ ⟨B, 1, none⟩ b h)).trans (kept_set _ ⟨B, 2, none⟩ c h)).trans (kept_set _ ⟨B, 3, none⟩ d h)).trans (kept_set _ ⟨B, 4, none⟩ e h)
/-- A tree's five cells at the head of block B are empty. -/
structure Zero (B : Nat) (wr : World) : Prop where
  size : B < wr.heap.size
  z0 : wr.cell? ⟨B, 0, none⟩ = some (.int .i64 0)
  z1 : wr.cell? ⟨B, 1, none⟩ = some (.string ⟨#[]⟩)
  z2 : wr.cell? ⟨B, 2, none⟩ = some (.int .i64 0)
  z3 : wr.cell? ⟨B, 3, none⟩ = some (.slice none 0 0)
  z4 : wr.cell? ⟨B, 4, none⟩ = some (.slice none 0 0)
  fz : ∀ o, wr.frozen? ⟨B, o, none⟩ = false
theorem Zero.same {B : Nat} {wr w' : World} (h : Zero B wr) (hs : wr.heap.size ≤ w'.heap.size) (hb : w'.heap[B]? = wr.heap[B]?) : Zero B w' := by
  have hc : ∀ o, w'.cell? ⟨B, o, none⟩ = wr.cell? ⟨B, o, none⟩ := fun o => World.cell?_of_block (a := ⟨B, o, none⟩) hb
  have hf : ∀ o, w'.frozen? ⟨B, o, none⟩ = wr.frozen? ⟨B, o, none⟩ := fun o => World.frozen?_of_block (a := ⟨B, o, none⟩) hb
  exact ⟨Nat.lt_of_lt_of_le h.size hs, (hc 0).trans h.z0, (hc 1).trans h.z1, (hc 2).trans h.z2, (hc 3).trans h.z3, (hc 4).trans h.z4, fun o => (hf o).trans (h.fz o)⟩
theorem Zero.low {B base : Nat} {wr w' : World} (h : Zero B wr) (hb : Below base wr w') (hB : B < base) : Zero B w' := h.same hb.size (hb.block B hB)
theorem Zero.step {B : Nat} {wr w' : World} (h : Zero B wr) (hb : Below wr.heap.size wr w') : Zero B w' := h.low hb h.size
theorem Zero.turn {P : Cst} {B : Nat} {wr w' : World} (h : Zero B wr) (ht : Turn P wr w') (hB : B ≠ P.pb) : Zero B w' := h.same ht.size (World.grownBy.block ht B h.size (by simpa using hB))
theorem zero_new (w : World) (T : TypeId) : Zero w.heap.size (w.alloc (.cells #[.int .i64 0, .string ⟨#[]⟩, .int .i64 0, .slice none 0 0, .slice none 0 0] T)) := by
  refine ⟨by simp, ?_, ?_, ?_, ?_, ?_, fun o => ?_⟩
  all_goals go_simp
/-- The slice value v reads as these texts, and is not nil. -/
def TextsN (lo : Nat) (w : World) (xs : List ByteArray) (v : Value) : Prop :=
  (∀ x, x ∈ xs → x.size ≤ maxLen) ∧ ∃ b o c, v = .slice (some ⟨b, o, none⟩) xs.length c ∧ xs.length ≤ c ∧ c ≤ maxLen ∧ lo ≤ b ∧ ∀ j (h : j < xs.length), w.cell? ⟨b, o + j, none⟩ = some (.string xs[j])
theorem textsN_own {w : World} {base lo : Nat} {v : Value} {xs : List ByteArray} (h : w.ownsRow base 9 1 v xs.length (xs.map Value.string)) (hn : v ≠ .slice none 0 0) (hlo : lo ≤ base) (hx : ∀ x, x ∈ xs → x.size ≤ maxLen) : TextsN lo w xs v := by
  have h' := h
  obtain ⟨_, ⟨rfl, _⟩ | ⟨g, cap, cur, rfl, hbg, hg, hnc, hcm, _, _⟩⟩ := h
  · exact absurd rfl hn
  · refine ⟨hx, g, 0, cap, rfl, hnc, hcm, by omega, fun j hj => ?_⟩
    rw [Nat.zero_add, h'.cellAt j (by omega)]
    simp [hj]
theorem TextsN.keep {lo : Nat} {w w' : World} {xs : List ByteArray} {v : Value} (h : TextsN lo w xs v) (k : Kept lo w w') : TextsN lo w' xs v := by
  obtain ⟨hx, b, o, c, e, m1, m2, hb, hc⟩ := h
  exact ⟨hx, b, o, c, e, m1, m2, hb, fun j hj => k b _ _ hb (hc j hj)⟩
theorem TextsN.mono {lo hi : Nat} {w : World} {xs : List ByteArray} {v : Value} (h : TextsN hi w xs v) (hl : lo ≤ hi) : TextsN lo w xs v := by
  obtain ⟨hx, b, o, c, e, m1, m2, hb, hc⟩ := h
  exact ⟨hx, b, o, c, e, m1, m2, Nat.le_trans hl hb, hc⟩
theorem TextsN.texts {lo : Nat} {w : World} {xs : List ByteArray} {v : Value} (h : TextsN lo w xs v) : Texts lo w xs v := by
  obtain ⟨hx, b, o, c, rfl, m1, m2, hb, hc⟩ := h
  exact ⟨_, c, rfl, ⟨m1, m2⟩, hx, fun _ => ⟨b, o, rfl, hb, hc⟩⟩
/-- A token is needed: it is taken, or something is wrong. -/
def NeedBack (P : Cst) (p : Nat) (bad : Bool) (k : Int) (c : ByteArray) (w : World) (e : Ending) (w' : World) : Prop :=
  ∃ s q b, e = .returned (.string s) ∧ PS P q b w' ∧ Turn P w w' ∧ s.size ≤ 4000 ∧ p ≤ q ∧ (b = false → bad = false ∧ isB k c (rest P p) = true ∧ q = p + 1 ∧ s = txt (rest P p)) ∧ (b = true → bad = true ∨ isB k c (rest P p) = false)
theorem need_any {P : Cst} {p : Nat} {bad : Bool} {w : World} (h : PS P p bad w) (k : Int) (c : ByteArray) :
    Calls Tryz.prog 24 #[.pointer (some ⟨P.pb, 0, none⟩), .int .i64 k, .string c] w (NeedBack P p bad k c w) := by
  cases hb : isB k c (rest P p) with
  | true =>
    refine (need_yes h hb).mono ?_
    rintro e w' ⟨rfl, h1, ht⟩
    exact ⟨_, p + 1, bad, rfl, h1, ht, text_le h.fit, Nat.le_succ _, fun e => ⟨e, hb, rfl, rfl⟩, fun e => .inl e⟩
  | false =>
    refine (need_no h hb).mono ?_
    rintro e w' ⟨rfl, h1, ht⟩
    exact ⟨_, p, true, rfl, h1, ht, Nat.zero_le _, Nat.le_refl _, (fun e => nomatch e), fun _ => .inr hb⟩
end Go.Proofs.YtbflpocbjdccgaaGreatDoor.Parser

namespace Go.Proofs.YtbflpocbjdccgaaGreatDoor.Parser
open Go.RowKit
open Strs Tree Gram

set_option maxHeartbeats 2000000 in
theorem begins_no {P : Cst} {p : Nat} {bad : Bool} {w : World} (h : PS P p bad w) (hr : rest P p = []) :
    Calls Tryz.prog 136 #[.pointer (some ⟨P.pb, 0, none⟩)] w fun e w' => e = .returned (.bool (begins (rest P p))) ∧ PS P p bad w' ∧ Turn P w w' := by
  have hp := rest_nil h.le hr
  rw [hr]
  have c0 := h.c0
  have c1 := h.c1
  have H := Lib.hid h
  have hl := h.fit.len
  clear h hr
  generalize P.toks.length = n at *
  generalize hpb : P.pb = pb at *
  clear hpb
  subst hp
  generalize hD : begins [] = D
  have : D = false := by rw [← hD]; rfl
  subst this
  go_enter Tryz.func136, Tryz.ntmps136
  go_wp2_with fail
  go_quiet (fail)
  go_wp2_with fail
  go_ret
  exact ⟨rfl, H.out.draws _, of_drawn ⟨_, rfl⟩⟩

set_option maxHeartbeats 4000000 in
theorem begins_yes {P : Cst} {p : Nat} {bad : Bool} {w : World} (h : PS P p bad w) {t : Tok.T} {r : R} (hr : rest P p = t :: r) :
    Calls Tryz.prog 136 #[.pointer (some ⟨P.pb, 0, none⟩)] w fun e w' => e = .returned (.bool (begins (rest P p))) ∧ PS P p bad w' ∧ Turn P w w' := by
  obtain ⟨hp, ht, -⟩ := rest_cons hr
  obtain ⟨tb, to, hta, hne, d0, d1, d2⟩ := h.tok p t ht
  have c0 := h.c0
  have c1 := h.c1
  rw [hta] at c0
  have H := Lib.hid h
  have hl := h.fit.len
  have hcap := h.fit.cap
  rw [hr]
  have hD : begins (t :: r) = ((decide (1 ≤ t.kind ∧ t.kind ≤ 5) && decide (t.kind ≠ 2)) || (decide (t.kind = 7) && (decide (t.text = cOpen) || decide (t.text = cLeft) || decide (t.text = cHat)))) := rfl
  have hto := h.fit.text t (List.mem_of_getElem? ht)
  generalize begins (t :: r) = D at *
  have KI := fun w1 => Lib.hid (SpecTree.in_any t.kind 1 5 w1)
  have hlt := cell_lt d0
  clear h hr ht hta
  generalize P.toks.length = n at *
  generalize P.cap = cap at *
  generalize t.kind = tk at *
  generalize t.text = tt at *
  generalize t.num = tn at *
  generalize hpb : P.pb = pb at *
  clear hpb
  have HD := Lib.hid hD; clear hD
  generalize hI : decide (1 ≤ tk ∧ tk ≤ 5) = I at *
  clear hI
  go_enter Tryz.func136, Tryz.ntmps136
  go_wp2_with fail
  go_quiet (fail)
  generalize hw1 : w.drewN _ = w1
  have HW : Drawn w w1 := ⟨_, hw1.symm⟩
  have H1 := Lib.hid (H.out.drawn HW)
  have HD1 := Lib.hid HW
  have hb := HW.below
  have c0 := cell_keep hb c0
  have c1 := cell_keep hb c1
  have d0 := cell_keep hb d0
  have d1 := cell_keep hb d1
  have d2 := cell_keep hb d2
  have hlt := cell_lt d0
  have hlp := cell_lt c0
  clear hw1 HW hb
  go_wp2_with fail
  go_region
  go_wp2_with fail
  refine (KI _).out.mono ?_
  rintro e w2 ⟨rfl, rfl⟩
  have x0 : (w1.alloc (Obj.cells #[.int .i64 tk, .string tt, .int .i64 tn] 48)).drew.cell? ⟨w1.heap.size, 0, none⟩ = some (.int .i64 tk) := by go_simp
  have x1 : (w1.alloc (Obj.cells #[.int .i64 tk, .string tt, .int .i64 tn] 48)).drew.cell? ⟨w1.heap.size, 1, none⟩ = some (.string tt) := by go_simp
  have hbl : Below w1.heap.size w1 (w1.alloc (Obj.cells #[.int .i64 tk, .string tt, .int .i64 tn] 48)).drew := ((Below.refl _ _).alloc (Nat.le_refl _) _).drew
  generalize (w1.alloc (Obj.cells #[.int .i64 tk, .string tt, .int .i64 tn] 48)).drew = w2 at *
  have H2 := Lib.hid (H1.out.below hbl)
  have HT := Lib.hid ((of_drawn (P := P) HD1.out).below hbl)
  clear hbl d0 d1 d2 c0 c1 hlt hlp
  by_cases h2 : tk = 2
  · have b2 : (tk != 2) = false := by rw [h2]; rfl
    have b7 : (tk == 7) = false := by rw [h2]; rfl
    have : D = false := by rw [HD.out, h2]; simp
    subst this
    subst h2
    clear HD
    cases I
    · go_wp2_with fail
      go_ret
      exact ⟨rfl, H2.out, HT.out⟩
    · go_wp2_with fail
      go_ret
      exact ⟨rfl, H2.out, HT.out⟩
  have b2 : (tk != 2) = true := by simpa using h2
  cases I with
  | true =>
    have : D = true := by rw [HD.out]; simp [h2]
    subst this
    clear HD h2
    go_wp2_with fail
    go_ret
    exact ⟨rfl, H2.out, HT.out⟩
  | false =>
    by_cases h7 : tk = 7
    case neg =>
      have b7 : (tk == 7) = false := by rw [kind_eq, decide_eq_false h7]
      have : D = false := by rw [HD.out]; simp [h7]
      subst this
      clear HD h2 h7
      go_wp2_with fail
      go_ret
      exact ⟨rfl, H2.out, HT.out⟩
    subst h7
    have HD : Hid (D = (decide (tt = cOpen) || decide (tt = cLeft) || decide (tt = cHat))) := Lib.hid (by rw [HD.out]; simp)
    by_cases g1 : tt = cOpen
    · have : D = true := by rw [HD.out]; simp [g1]
      subst this
      subst g1
      unfold cOpen at *
      clear HD h2
      go_wp2_with fail
      go_ret
      exact ⟨rfl, H2.out, HT.out⟩
    by_cases g2 : tt = cLeft
    · have : D = true := by rw [HD.out]; simp [g2]
      subst this
      subst g2
      unfold cLeft at *
      clear HD h2 g1
      go_wp2_with fail
      go_ret
      exact ⟨rfl, H2.out, HT.out⟩
    by_cases g3 : tt = cHat
    · have : D = true := by rw [HD.out]; simp [g3]
      subst this
      subst g3
      unfold cHat at *
      clear HD h2 g1 g2
      go_wp2_with fail
      go_ret
      exact ⟨rfl, H2.out, HT.out⟩
    · have : D = false := by rw [HD.out]; simp [g1, g2, g3]
      subst this
      have e1 : (tt.toList == [40]) = false := by
        have := text_ne g1
        rw [ByteArray.toList_eq cOpen] at this
        exact this
      have e2 : (tt.toList == [91]) = false := by
        have := text_ne g2
        rw [ByteArray.toList_eq cLeft] at this
        exact this
      have e3 : (tt.toList == [94]) = false := by
        have := text_ne g3
        rw [ByteArray.toList_eq cHat] at this
        exact this
      clear HD h2 g1 g2 g3
      go_wp2_with fail
      go_ret
      exact ⟨rfl, H2.out, HT.out⟩

theorem begins_any {P : Cst} {p : Nat} {bad : Bool} {w : World} (h : PS P p bad w) :
    Calls Tryz.prog 136 #[.pointer (some ⟨P.pb, 0, none⟩)] w fun e w' => e = .returned (.bool (begins (rest P p))) ∧ PS P p bad w' ∧ Turn P w w' := by
  cases hr : rest P p with
  | nil => rw [← hr]; exact begins_no h hr
  | cons t r => rw [← hr]; exact begins_yes h hr
end Go.Proofs.YtbflpocbjdccgaaGreatDoor.Parser

namespace Go.Proofs.YtbflpocbjdccgaaGreatDoor.Parser
open Go.RowKit
open Strs Tree Gram

theorem infoS : (Tryz.prog.info? 9).map (fun i => (i.zero, i.size, i.bytes)) = some (some (.string ByteArray.empty), 1, 16) := by kernel_rfl
theorem isB_none (k : Int) (r : R) : isB k ⟨#[]⟩ r = hd k r := isB_hd k r
theorem nameLoop_go {P : Cst} {q : Nat} {ts : List ByteArray} (h : isB 1 ⟨#[]⟩ (rest P q) = true) : nameLoop ts (rest P q) = nameLoop (ts ++ [txt (rest P q)]) (rest P (q + 1)) := by
  obtain ⟨t, r, hr, hk⟩ := isB_some h
  have h1 := (rest_cons hr).2.2
  rw [h1, hr, nameLoop, if_pos hk]
  rfl
theorem nameLoop_stop {P : Cst} {q : Nat} {ts : List ByteArray} (h : isB 1 ⟨#[]⟩ (rest P q) = false) : nameLoop ts (rest P q) = (ts, rest P q) := by
  rw [isB_none] at h
  generalize rest P q = r at *
  cases r with
  | nil => rfl
  | cons t r =>
    rw [nameLoop, if_neg]
    simpa [hd] using h

/-- What Names hands back. -/
def NamesBack (P : Cst) (p : Nat) (bad : Bool) (w : World) (e : Ending) (w' : World) : Prop :=
  ∃ v ts q b2, e = .returned v ∧ TextsN w.heap.size w' ts v ∧ ts.length ≤ 800 ∧ PS P q b2 w' ∧ Turn P w w' ∧ (∀ ts' r1, names (rest P p) = some (ts', r1) → ts = ts' ∧ rest P q = r1 ∧ b2 = bad) ∧ (names (rest P p) = none → b2 = true)

set_option maxHeartbeats 4000000 in
theorem names_any {P : Cst} {p : Nat} {bad : Bool} {w : World} (h : PS P p bad w) :
    Calls Tryz.prog 121 #[.pointer (some ⟨P.pb, 0, none⟩)] w (NamesBack P p bad w) := by
  obtain ⟨i0, hi, hz0, hz1, hz2⟩ := info_parts infoS
  have K1 := fun (w1 : World) (h1 : PS P p bad w1) (hb : isB 7 ⟨#[124]⟩ (rest P p) = true) => Lib.hid (take_yes h1 hb)
  have K0 := fun (w1 : World) (h1 : PS P p bad w1) (hb : isB 7 ⟨#[124]⟩ (rest P p) = false) => Lib.hid (take_no h1 hb)
  have KI := fun (w1 : World) (q : Nat) (h1 : PS P q bad w1) => Lib.hid (is_any h1 1 ⟨#[]⟩)
  have KN := fun (w1 : World) (q : Nat) (h1 : PS P q bad w1) (hb : isB 1 ⟨#[]⟩ (rest P q) = true) => Lib.hid (need_yes h1 hb)
  have KY := fun (w1 : World) (q : Nat) (h1 : PS P q bad w1) (hb : isB 7 ⟨#[124]⟩ (rest P q) = true) => Lib.hid (need_yes h1 hb)
  have KZ := fun (w1 : World) (q : Nat) (h1 : PS P q bad w1) (hb : isB 7 ⟨#[124]⟩ (rest P q) = false) => Lib.hid (need_no h1 hb)
  have H := Lib.hid h
  have HLO := Lib.hid h.lo
  have hpbl := h.size
  have h8 := h.fit.len
  clear h
  generalize hpb : P.pb = pb at *
  generalize hN : P.toks.length = N at *
  have HPB := Lib.hid hpb; clear hpb
  have HN := Lib.hid hN; clear hN
  have h0 : Hid (PS P p bad (w.alloc (Obj.cells #[] 9))) := Lib.hid (H.out.below ((Below.refl _ _).alloc (Nat.le_refl _) _))
  have T0 : Hid (Turn P w (w.alloc (Obj.cells #[] 9))) := Lib.hid ((Turn.refl P w).low ((Below.refl _ _).alloc (Nat.le_refl _) _))
  go_enter Tryz.func121, Tryz.ntmps121
  go_wp2_with fail
  cases hbar : isB 7 ⟨#[124]⟩ (rest P p) with
  | false =>
    refine (K0 _ h0.out hbar).out.mono ?_
    rintro e w1 ⟨rfl, h1, ht⟩
    have H1 := Lib.hid h1
    have HT := Lib.hid ht
    clear h1 ht
    go_wp2_with fail
    go_ret
    have hn : names (rest P p) = some ([], rest P p) := by
      unfold names
      rw [← isB_mk cBar (by decide)]
      rw [show isB 7 cBar (rest P p) = false from hbar]
      rfl
    refine ⟨_, [], p, bad, rfl, ⟨(fun _ h => nomatch h), _, _, _, rfl, Nat.le_refl _, Nat.zero_le _, Nat.le_refl _, fun j h => absurd h (Nat.not_lt_zero _)⟩, Nat.zero_le _, H1.out, T0.out.trans HT.out, ?_, ?_⟩
    · intro ts' r1 he; rw [hn] at he; cases he; exact ⟨rfl, rfl, rfl⟩
    · intro he; rw [hn] at he; cases he
  | true =>
    have HB := Lib.hid hbar
    refine (K1 _ h0.out hbar).out.mono ?_
    rintro e w1 ⟨rfl, h1, ht⟩
    have H1 := Lib.hid h1
    have HT := Lib.hid (T0.out.trans ht)
    have HO := Lib.hid (own_turn (World.ownsRow_lit w #[] 0 (Nat.le_refl _) (Nat.zero_le _) rfl : (w.alloc (Obj.cells #[] 9)).ownsRow w.heap.size 9 1 _ 0 ([].map Value.string)) ht (by rw [HPB.out]; exact hpbl))
    clear h1 ht hbar
    go_wp2_with fail
    go_loopw [3] (fun v wr => ∃ (ts : List ByteArray) (q : Nat), p < q ∧ q ≤ N ∧ ts.length ≤ q ∧ (∀ x, x ∈ ts → x.size ≤ maxLen) ∧ nameLoop [] (rest P (p + 1)) = nameLoop ts (rest P q) ∧ PS P q bad wr ∧ Turn P w wr ∧ wr.ownsRow w.heap.size 9 1 v ts.length (ts.map Value.string) ∧ v ≠ .slice none 0 0) (fun _ wr => N - plc pb wr)
    case atStart => exact ⟨[], p + 1, by omega, by have := isB_lt HB.out; rw [HN.out] at this; omega, by simp, by simp, rfl, H1.out, HT.out, HO.out, by simp⟩
    case round =>
      obtain ⟨ts, q, hpq, hqN, hlen, hsz, hgo, hps, htr, hown, hnn⟩ := hrel
      have HGO := Lib.hid hgo; clear hgo
      have HSZ := Lib.hid hsz; clear hsz
      have HPS := Lib.hid hps
      have hpl : plc pb wr = q := by rw [← HPB.out]; exact hps.plc
      have hpl := Lib.hid hpl
      have hgw : w.heap.size ≤ wr.heap.size := htr.size
      clear hps
      have HTR := Lib.hid htr; clear htr
      obtain ⟨ra, rc, rfl⟩ := Kit.row_form hown
      have HO1 := Lib.hid hown; clear hown
      have HNN := Lib.hid hnn; clear hnn
      have K := KI wr q HPS.out
      cases hb : isB 1 ⟨#[]⟩ (rest P q) with
      | false =>
        have HL : Hid (nameLoop [] (rest P (p + 1)) = (ts, rest P q)) := Lib.hid (HGO.out.trans (nameLoop_stop hb))
        rw [hb] at K
        clear hb
        go_wp2_with fail
        refine K.out.mono ?_
        rintro e w2 ⟨rfl, hd⟩
        have HD := Lib.hid hd; clear hd
        go_wp2_with fail
        cases hb2 : isB 7 ⟨#[124]⟩ (rest P q) with
        | false =>
          refine (KZ w2 q (HPS.out.drawn HD.out) hb2).out.mono ?_
          rintro e w3 ⟨rfl, h3, ht3⟩
          have H3 := Lib.hid h3
          have HT3 := Lib.hid (HTR.out.trans ((of_drawn HD.out).trans ht3))
          have HO3 := Lib.hid (own_turn HO1.out ((of_drawn HD.out).trans ht3) (by rw [HPB.out]; exact hpbl))
          have HN2 : Hid (names (rest P p) = none) := by
            show _ = _
            unfold names
            rw [← isB_mk cBar (by decide), show isB 7 cBar (rest P p) = true from HB.out, if_pos rfl, rest_tail, HL.out]
            simp only
            rw [← isB_mk cBar (by decide), show isB 7 cBar (rest P q) = false from hb2]
            rfl
          clear h3 ht3 hb2
          go_wp2_with fail
          go_ret
          refine ⟨_, ts, q, true, rfl, textsN_own HO3.out HNN.out (Nat.le_refl _) HSZ.out, by omega, H3.out, HT3.out, ?_, fun _ => rfl⟩
          intro ts' r1 he; rw [HN2.out] at he; cases he
        | true =>
          refine (KY w2 q (HPS.out.drawn HD.out) hb2).out.mono ?_
          rintro e w3 ⟨rfl, h3, ht3⟩
          have H3 := Lib.hid h3
          have HT3 := Lib.hid (HTR.out.trans ((of_drawn HD.out).trans ht3))
          have HO3 := Lib.hid (own_turn HO1.out ((of_drawn HD.out).trans ht3) (by rw [HPB.out]; exact hpbl))
          have HN2 : Hid (names (rest P p) = some (ts, rest P (q + 1))) := by
            show _ = _
            unfold names
            rw [← isB_mk cBar (by decide), show isB 7 cBar (rest P p) = true from HB.out, if_pos rfl, rest_tail, HL.out]
            simp only
            rw [← isB_mk cBar (by decide), show isB 7 cBar (rest P q) = true from hb2, rest_tail]
            rfl
          clear h3 ht3 hb2
          go_wp2_with fail
          go_ret
          refine ⟨_, ts, q + 1, bad, rfl, textsN_own HO3.out HNN.out (Nat.le_refl _) HSZ.out, by omega, H3.out, HT3.out, ?_, ?_⟩
          · intro ts' r1 he; rw [HN2.out] at he; cases he; exact ⟨rfl, rfl, rfl⟩
          · intro he; rw [HN2.out] at he; cases he
      | true =>
        have HL := Lib.hid (HGO.out.trans (nameLoop_go hb))
        have hqN' : q < N := by rw [← HN.out]; exact isB_lt hb
        have HX : Hid ((txt (rest P q)).size ≤ maxLen) := Lib.hid (Nat.le_trans (text_le HPS.out.fit) (by unfold maxLen; omega))
        have HB1 := Lib.hid hb
        rw [hb] at K
        clear hb
        generalize hx : txt (rest P q) = x at *
        have HXE := Lib.hid hx; clear hx
        go_wp2_with fail
        refine K.out.mono ?_
        rintro e w2 ⟨rfl, hd⟩
        have HD := Lib.hid hd; clear hd
        go_wp2_with fail
        refine (KN w2 q (HPS.out.drawn HD.out) HB1.out).out.mono ?_
        rw [HXE.out]
        rintro e w3 ⟨rfl, h3, ht3⟩
        have H3 := Lib.hid h3
        have HT3 := Lib.hid (HTR.out.trans ((of_drawn HD.out).trans ht3))
        have HO3 := Lib.hid (own_turn HO1.out ((of_drawn HD.out).trans ht3) (by rw [HPB.out]; exact hpbl))
        have hg3 : w.heap.size ≤ w3.heap.size := HT3.out.size
        clear h3 ht3
        go_wp2_with (at_builtin; go_must (refine wpList_append_own _ rfl _ _ 22 rfl w.heap.size 9 i0 (.string ByteArray.empty) 1 16 Tryz.underlying22 hi hz0 hz1 hz2 rfl (by decide) _ _ _ rfl (HO3.out.alloc _) ⟨w3.heap.size, 0, none⟩ 1 1 [.string x] rfl rfl ?c1 ?c2 ?c3 ?c4 ?c5 ?_))
        case c1 => exact Kit.one_cells _ _ _
        case c2 => exact Kit.one_str _
        case c3 => unfold maxLen; omega
        case c4 => omega
        case c5 => simp; omega
        intro v' w4 hown' hgr hnn'
        have HNN' : Hid (v' ≠ .slice none 0 0) := Lib.hid hnn'; clear hnn'
        have HOWN := Lib.hid hown'
        have HLW := Lib.hid (app_low hg3 HO3.out hgr)
        clear hown' hgr
        go_wp2_with fail
        go_roundw
        case rel =>
          refine ⟨ts ++ [x], q + 1, by omega, by omega, by simp; omega, ?_, HL.out, H3.out.low HLW.out HLO.out, HT3.out.low HLW.out, by simpa using HOWN.out, HNN'.out⟩
          intro y hy
          rcases List.mem_append.1 hy with hy | hy
          · exact HSZ.out y hy
          · rw [List.mem_singleton.1 hy]; exact HX.out
        case measure =>
          have h1 := (H3.out.low HLW.out HLO.out).plc
          rw [HPB.out] at h1
          rw [h1, hpl.out]
          omega
/-- The bad flag stays, and is set where the names are wrong. -/
theorem names_facts {P : Cst} {p q : Nat} {bad b2 : Bool} {ts : List ByteArray} (h1 : ∀ ts' r1, names (rest P p) = some (ts', r1) → ts = ts' ∧ rest P q = r1 ∧ b2 = bad) (h2 : names (rest P p) = none → b2 = true) :
    (b2 = false → bad = false ∧ names (rest P p) = some (ts, rest P q)) ∧ (b2 = true → bad = true ∨ names (rest P p) = none) := by
  cases hn : names (rest P p) with
  | none => exact ⟨fun e => by (rw [h2 hn] at e; cases e), fun _ => .inr rfl⟩
  | some y =>
    obtain ⟨ts', r1⟩ := y
    obtain ⟨rfl, rfl, rfl⟩ := h1 _ _ hn
    exact ⟨fun e => ⟨e, rfl⟩, fun e => .inl e⟩
end Go.Proofs.YtbflpocbjdccgaaGreatDoor.Parser
