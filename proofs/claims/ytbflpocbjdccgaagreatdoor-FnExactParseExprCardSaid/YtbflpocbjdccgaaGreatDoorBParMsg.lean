/-
  impl's parser: unary and binary messages, and what is read by them.
-/
import Derived.Test.YtbflpocbjdccgaaGreatDoorBParSends
namespace Go.Proofs.YtbflpocbjdccgaaGreatDoor.ParI
open Go.RowKit
open Strs Tree Gram Placed
open Go.Proofs.YtbflpocbjdccgaaGreatDoor.Parser

theorem mess_unary {ex : X} {r : R} (h : hd 1 r = true) : message ex r = some (eMsg (txt r) [], r.tail) := by rw [message, if_pos h]
theorem hd_one {k j : Int} {r : R} (h : hd k r = true) (hj : k ≠ j) : hd j r = false := by
  obtain ⟨t, r', rfl, hk⟩ := hd_some h
  exact decide_eq_false (fun e => hj (hk.symm.trans e))
def drop2 (g : Option (E × Bool × R)) : Option (E × R) := g.map fun x => (x.1, x.2.2)
theorem mess_binary {ex : X} {r : R} (h : hd 6 r = true) : message ex r = match drop2 (unary ex r.tail) with | none => none | some (a, r1) => some (eMsg (txt r) [a], r1) := by
  rw [message, if_neg (by rw [hd_one h (by decide)]; simp), if_pos h]
  cases unary ex r.tail with
  | none => rfl
  | some y => obtain ⟨a, s, r1⟩ := y; rfl
theorem un_sLoop {ex : X} (hx : Short ex) : ∀ (m : Nat) (r : R) (e : E) (s : Bool), r.length ≤ m → sLoop ex 1 e r = some ((unLoop e s r).1, (unLoop e s r).2.2) := by
  intro m
  induction m with
  | zero =>
    intro r e s hm
    have : r = [] := List.eq_nil_of_length_eq_zero (by omega)
    subst this
    rw [s_stop rfl]; rfl
  | succ m ih =>
    intro r e s hm
    cases r with
    | nil => rw [s_stop rfl]; rfl
    | cons t r =>
      rw [unLoop]
      by_cases hk : t.kind = 1
      · have hh : hd 1 (t :: r) = true := decide_eq_true hk
        have h1 := mess_unary (ex := ex) hh
        rw [s_go hx hh h1, if_pos hk]
        exact ih r (eSend e t.text []) true (by simp at hm; omega)
      · have hh : hd 1 (t :: r) = false := decide_eq_false hk
        rw [s_stop hh, if_neg hk]
theorem unary_s {ex : X} (hx : Short ex) (r : R) : drop2 (unary ex r) = match primary ex r with | none => none | some (e, r1) => sLoop ex 1 e r1 := by
  unfold unary drop2
  cases primary ex r with
  | none => rfl
  | some y =>
    obtain ⟨e, r1⟩ := y
    simp only [Option.map]
    rw [un_sLoop hx _ r1 e false (Nat.le_refl _)]
theorem bin_sLoop {ex : X} (hx : Short ex) : ∀ (m : Nat) (r : R) (e : E) (s : Bool), r.length ≤ m → sLoop ex 6 e r = drop2 (binLoop ex e s r) := by
  intro m
  induction m with
  | zero =>
    intro r e s hm
    have : r = [] := List.eq_nil_of_length_eq_zero (by omega)
    subst this
    rw [s_stop rfl, binLoop]; rfl
  | succ m ih =>
    intro r e s hm
    cases h6 : hd 6 r with
    | false => rw [s_stop h6, bin_stop h6]; rfl
    | true =>
      have h1 := mess_binary (ex := ex) h6
      have hl := hd_lt h6
      cases hu : unary ex r.tail with
      | none =>
        rw [hu] at h1
        rw [s_none h6 h1, bin_none h6 hu]; rfl
      | some y =>
        obtain ⟨a, s', r1⟩ := y
        rw [hu] at h1
        have hlt := unary_lt hx hu
        rw [s_go hx h6 h1, bin_go hx h6 hu]
        exact ih r1 _ true (by omega)
theorem binary_s {ex : X} (hx : Short ex) (r : R) : drop2 (binary ex r) = match drop2 (unary ex r) with | none => none | some (e, r1) => sLoop ex 6 e r1 := by
  unfold binary
  cases unary ex r with
  | none => rfl
  | some y =>
    obtain ⟨e, s, r1⟩ := y
    simp only [drop2, Option.map]
    rw [bin_sLoop hx _ r1 e s (Nat.le_refl _)]
    rfl
theorem drop2_short {ex : X} (hx : Short ex) {r r1 : R} {e : E} (h : drop2 (unary ex r) = some (e, r1)) : r1.length < r.length := by
  unfold drop2 at h
  cases hu : unary ex r with
  | none => rw [hu] at h; cases h
  | some y =>
    obtain ⟨a, s, r2⟩ := y
    rw [hu] at h
    cases h
    exact unary_lt hx hu
theorem five_set1 {B : Nat} {a b c d e : Value} {w : World} (h : Five B a b c d e w) (v : Value) : Five B a v c d e (w.setCell ⟨B, 1, none⟩ v) := by
  obtain ⟨hs, z0, z1, z2, z3, z4, fz⟩ := h
  refine ⟨by simpa using hs, ?_, ?_, ?_, ?_, ?_, fun o => ?_⟩
  all_goals go_simp

theorem alloc_heap {w w' : World} (o : Obj) {b : Nat} (hs : w'.heap.size = w.heap.size) (h : b < w.heap.size → w'.heap[b]? = w.heap[b]?) : (w'.alloc o).heap[b]? = (w.alloc o).heap[b]? := by
  simp only [World.alloc, Array.getElem?_push, hs]
  split
  · rfl
  · by_cases hb : b < w.heap.size
    · exact h hb
    · rw [Array.getElem?_eq_none (by omega), Array.getElem?_eq_none (by omega)]

set_option maxRecDepth 10000 in
set_option maxHeartbeats 8000000 in
theorem message_1 (n : Nat) : MC n 1 := by
  intro P p w h hn hh
  have hfd := field0
  have hbz : Below w.heap.size w (w.alloc (.cells #[.int .i64 0, .string ⟨#[]⟩, .int .i64 0, .slice none 0 0, .slice none 0 0] 25)) := (Below.refl _ _).alloc (Nat.le_refl _) _
  have hw1 : (w.alloc (.cells #[.int .i64 0, .string ⟨#[]⟩, .int .i64 0, .slice none 0 0, .slice none 0 0] 25)).heap.size = w.heap.size + 1 := by simp
  have hbe : Below (w.alloc (.cells #[.int .i64 0, .string ⟨#[]⟩, .int .i64 0, .slice none 0 0, .slice none 0 0] 25)).heap.size (w.alloc (.cells #[.int .i64 0, .string ⟨#[]⟩, .int .i64 0, .slice none 0 0, .slice none 0 0] 25)) ((w.alloc (.cells #[.int .i64 0, .string ⟨#[]⟩, .int .i64 0, .slice none 0 0, .slice none 0 0] 25)).alloc (.cells #[.int .i64 6, .string ⟨#[]⟩, .int .i64 0, .slice none 0 0, .slice none 0 0] 25)) := (Below.refl _ _).alloc (Nat.le_refl _) _
  have hb2 := hbz.trans (hbe.mono hbz.size)
  have h2 := h.below hb2
  have KN := Lib.hid (next_any h2)
  have hf := five_new (w.alloc (.cells #[.int .i64 0, .string ⟨#[]⟩, .int .i64 0, .slice none 0 0, .slice none 0 0] 25)) (.int .i64 6) (.string ⟨#[]⟩) (.int .i64 0) (.slice none 0 0) (.slice none 0 0) 25
  rw [hw1] at hf
  have HF := Lib.hid hf
  have HZ := Lib.hid ((zero_new w 25).step hbe)
  have HPS := Lib.hid h2
  have HT := Lib.hid ((Turn.refl P w).low hb2)
  have HLO := Lib.hid h.lo
  have hpbl := h.size
  have HG := Lib.hid (mess_unary (ex := expr n) hh)
  have HH := Lib.hid hh
  have htx := text_le (p := p) h.fit.fit
  have e1 : (nxt (rest P p)).kind = 1 := nxt_eq hh
  clear h hn hh hbz hw1 hbe hb2 h2 hf
  generalize message (expr n) (rest P p) = G at *
  generalize hpb : P.pb = pb at *
  have HPB := Lib.hid hpb; clear hpb
  generalize nxt (rest P p) = t at *
  obtain ⟨tk, tt, tn⟩ := t
  simp only at e1
  subst e1
  go_enter Tryz.func62, Tryz.ntmps62
  go_wp2_with fail
  refine KN.out.mono ?_
  rintro e w3 ⟨rfl, hb3⟩
  have KT := Lib.hid (take_yes (HPS.out.below hb3) HH.out)
  have HT3 := Lib.hid (HT.out.below hb3)
  have HZ3 := Lib.hid (HZ.out.step hb3)
  have HF3 := Lib.hid (HF.out.step hb3)
  rw [HPB.out] at KT
  clear hb3 KN
  generalize hxx : txt (rest P p) = x at *
  clear hxx
  go_wp2_with fail
  refine KT.out.mono ?_
  rintro e w4 ⟨rfl, h4, ht4⟩
  have HPS4 := Lib.hid h4
  have HT4 := Lib.hid (HT3.out.trans ht4)
  obtain ⟨hszz, y0, y1, y2, y3, y4, yfz⟩ := HZ3.out.turn ht4 (by rw [HPB.out]; omega)
  obtain ⟨hs5, f0, f1, f2, f3, f4, ffz⟩ := HF3.out.turn ht4 (by rw [HPB.out]; omega)
  clear h4 ht4 KT
  go_wp2_with fail
  have hb8 : Below w.heap.size w4 (w4.setCell ⟨w.heap.size + 1, 1, none⟩ (.string x)) := (Below.refl _ _).setCell (by show w.heap.size ≤ w.heap.size + 1; omega) _
  have hb9 := put5_below (B := w.heap.size) hb8 (Nat.le_refl _) (.int .i64 6) (.string x) (.int .i64 0) (.slice none 0 0) (.slice none 0 0)
  refine bodyPost_ret (v := .agg #[.int .i64 6, .string x, .int .i64 0, .slice none 0 0, .slice none 0 0]) (by simp [results, Tryz.results62, go_sem, *]) rfl ?_
  exact .inl ⟨.mk 6 x 0 [] (.slice none 0 0) (.slice none 0 0) [], p + 1, rfl, own_leaf (by rfl) (by rfl) (by unfold maxLen; omega), HPS4.out.low hb9 HLO.out, HT4.out.low hb9, by rw [HG.out, rest_tail]; rfl⟩

set_option maxRecDepth 10000 in
set_option maxHeartbeats 8000000 in
theorem unary_any {n : Nat} (hx : XI n) {P : Cst} {p : Nat} {w : World} (h : IS P p w) (hn : (rest P p).length ≤ n) :
    Calls Tryz.prog 91 #[.pointer (some ⟨P.pb, 0, none⟩)] w (IBack P w (drop2 (unary (expr n) (rest P p)))) := by
  have hbz : Below w.heap.size w (w.alloc (.cells #[.int .i64 0, .string ⟨#[]⟩, .int .i64 0, .slice none 0 0, .slice none 0 0] 25)) := (Below.refl _ _).alloc (Nat.le_refl _) _
  have hw1 : (w.alloc (.cells #[.int .i64 0, .string ⟨#[]⟩, .int .i64 0, .slice none 0 0, .slice none 0 0] 25)).heap.size = w.heap.size + 1 := by simp
  have KP := Lib.hid (primary_any hx (h.below hbz) hn)
  have KS := Lib.hid (fun (w1 : World) (q : Nat) (t : T) (h1 : IS P q w1) (hl : (rest P q).length ≤ n) (ho : Own (w.heap.size + 1) w1 t) (hw : w.heap.size + 1 ≤ w1.heap.size) => sends_any (by decide) (message_1 n) h1 hl ho (Nat.lt_succ_of_lt h.size) hw)
  have HW1 := Lib.hid hw1
  have HT := Lib.hid ((Turn.refl P w).low hbz)
  have HZ := Lib.hid (zero_new w 25)
  have HLO := Lib.hid h.lo
  have hpbl := h.size
  have HLEN := Lib.hid hn
  have HG := Lib.hid (unary_s (expr_short n) (rest P p))
  clear h hn hx hbz hw1
  generalize drop2 (unary (expr n) (rest P p)) = G at *
  generalize hpb : P.pb = pb at *
  have HPB := Lib.hid hpb; clear hpb
  go_enter Tryz.func91, Tryz.ntmps91
  go_wp2_with fail
  refine KP.out.mono ?_
  rintro e w3 (⟨t, q3, rfl, ho3, h3, ht3, hg3⟩ | ⟨⟨v, rfl⟩, ht3, hg3⟩)
  case inr =>
    have HG2 : Hid (G = none) := Lib.hid (by rw [HG.out, hg3])
    have HT3 := Lib.hid (HT.out.trans ht3)
    clear ht3 hg3 KP
    go_wp2_with fail
    exact ⟨rfl, .inr ⟨⟨_, rfl⟩, HT3.out, HG2.out⟩⟩
  rw [HW1.out] at ho3
  have hs3 := ht3.size
  rw [HW1.out] at hs3
  have HG3 : Hid (G = sLoop (expr n) 1 (toE t) (rest P q3)) := Lib.hid (by rw [HG.out, hg3])
  have HLQ : Hid ((rest P q3).length ≤ n) := Lib.hid (by
    have h1 := primary_lt (expr_short n) hg3
    have h2 := HLEN.out
    omega)
  have KS3 := Lib.hid (KS.out w3 q3 t h3 HLQ.out ho3 hs3)
  have HT3 := Lib.hid (HT.out.trans ht3)
  have HZ3 := Lib.hid (HZ.out.turn ht3 (by rw [HPB.out]; omega))
  clear ho3 h3 ht3 hg3 KP KS
  go_wp2_with fail
  refine KS3.out.mono ?_
  rintro e w5 (⟨u, q5, rfl, ho5, h5, ht5, hg5⟩ | ⟨⟨v, rfl⟩, ht5, hg5⟩)
  case inr =>
    have HG2 : Hid (G = none) := Lib.hid (by rw [HG3.out, hg5])
    have HT5 := Lib.hid (HT3.out.trans ht5)
    clear ht5 hg5 KS3
    go_wp2_with fail
    exact ⟨rfl, .inr ⟨⟨_, rfl⟩, HT5.out, HG2.out⟩⟩
  obtain ⟨fa, fc, fa', fc', hf1, hf2⟩ := good_forms ho5.good
  obtain ⟨uk, ut, un, uns, uvn, uvk, uks⟩ := u
  simp only [T.vn, T.vk, T.names, T.kids] at hf1 hf2
  subst hf1 hf2
  have HO5 := Lib.hid ho5
  have HPS5 := Lib.hid h5
  have HT5 := Lib.hid (HT3.out.trans ht5)
  have HG5 : Hid (G = some (toE (.mk uk ut un uns (.slice fa uns.length fc) (.slice fa' uks.length fc') uks), rest P q5)) := Lib.hid (by rw [HG3.out, hg5])
  obtain ⟨hszz, y0, y1, y2, y3, y4, yfz⟩ := HZ3.out.turn ht5 (by rw [HPB.out]; omega)
  unfold agg
  simp only [T.kind, T.text, T.num, T.vn, T.vk]
  clear ho5 h5 ht5 hg5 KS3
  go_wp2_with fail
  have hb9 := put5_below (Below.refl w.heap.size w5) (B := w.heap.size) (Nat.le_refl _) (.int .i64 uk) (.string ut) (.int .i64 un) (.slice fa uns.length fc) (.slice fa' uks.length fc')
  refine bodyPost_ret (v := .agg #[.int .i64 uk, .string ut, .int .i64 un, .slice fa uns.length fc, .slice fa' uks.length fc']) (by simp [results, Tryz.results91, go_sem, *]) rfl ?_
  exact .inl ⟨.mk uk ut un uns (.slice fa uns.length fc) (.slice fa' uks.length fc') uks, q5, rfl, (Own.put5 HO5.out (B := w.heap.size) (fun hm => by have := HO5.out.lo _ hm; omega) _ _ _ _ _).mono (Nat.le_succ _), HPS5.out.low hb9 HLO.out, HT5.out.low hb9, HG5.out⟩

set_option maxRecDepth 10000 in
set_option maxHeartbeats 8000000 in
theorem message_6 {n : Nat} (hx : XI n) : MC n 6 := by
  intro P p w h hn hh
  have hfd := field0
  have hbz : Below w.heap.size w (w.alloc (.cells #[.int .i64 0, .string ⟨#[]⟩, .int .i64 0, .slice none 0 0, .slice none 0 0] 25)) := (Below.refl _ _).alloc (Nat.le_refl _) _
  have hw1 : (w.alloc (.cells #[.int .i64 0, .string ⟨#[]⟩, .int .i64 0, .slice none 0 0, .slice none 0 0] 25)).heap.size = w.heap.size + 1 := by simp
  have hbe : Below (w.alloc (.cells #[.int .i64 0, .string ⟨#[]⟩, .int .i64 0, .slice none 0 0, .slice none 0 0] 25)).heap.size (w.alloc (.cells #[.int .i64 0, .string ⟨#[]⟩, .int .i64 0, .slice none 0 0, .slice none 0 0] 25)) ((w.alloc (.cells #[.int .i64 0, .string ⟨#[]⟩, .int .i64 0, .slice none 0 0, .slice none 0 0] 25)).alloc (.cells #[.int .i64 6, .string ⟨#[]⟩, .int .i64 0, .slice none 0 0, .slice none 0 0] 25)) := (Below.refl _ _).alloc (Nat.le_refl _) _
  have hb2 := hbz.trans (hbe.mono hbz.size)
  have h2 := h.below hb2
  have KN := Lib.hid (next_any h2)
  have hf := five_new (w.alloc (.cells #[.int .i64 0, .string ⟨#[]⟩, .int .i64 0, .slice none 0 0, .slice none 0 0] 25)) (.int .i64 6) (.string ⟨#[]⟩) (.int .i64 0) (.slice none 0 0) (.slice none 0 0) 25
  rw [hw1] at hf
  have KU := Lib.hid (fun (w1 : World) (q : Nat) (h1 : IS P q w1) (hl : (rest P q).length ≤ n) => unary_any hx h1 hl)
  have HF := Lib.hid hf
  have HZ := Lib.hid ((zero_new w 25).step hbe)
  have HPS := Lib.hid h2
  have HT := Lib.hid ((Turn.refl P w).low hb2)
  have HLO := Lib.hid h.lo
  have hpbl := h.size
  have HG := Lib.hid (mess_binary (ex := expr n) hh)
  have HH := Lib.hid hh
  have HLEN := Lib.hid hn
  have htx := text_le (p := p) h.fit.fit
  have e1 : (nxt (rest P p)).kind = 6 := nxt_eq hh
  clear h hn hh hx hbz hw1 hbe hb2 h2 hf
  generalize message (expr n) (rest P p) = G at *
  generalize hpb : P.pb = pb at *
  have HPB := Lib.hid hpb; clear hpb
  generalize nxt (rest P p) = t at *
  obtain ⟨tk, tt, tn⟩ := t
  simp only at e1
  subst e1
  generalize hxx : txt (rest P p) = x at *
  have HXX := Lib.hid hxx; clear hxx
  go_enter Tryz.func62, Tryz.ntmps62
  go_wp2_with fail
  refine KN.out.mono ?_
  rintro e w3 ⟨rfl, hb3⟩
  have KT := Lib.hid (take_yes (HPS.out.below hb3) HH.out)
  have HT3 := Lib.hid (HT.out.below hb3)
  have HZ3 := Lib.hid (HZ.out.step hb3)
  have HF3 := Lib.hid (HF.out.step hb3)
  rw [HPB.out, HXX.out] at KT
  clear hb3 KN
  go_wp2_with fail
  refine KT.out.mono ?_
  rintro e w4 ⟨rfl, h4, ht4⟩
  have HF4 := Lib.hid (HF3.out.turn ht4 (by rw [HPB.out]; omega))
  have hb4 : Below w.heap.size w4 (w4.setCell ⟨w.heap.size + 1, 1, none⟩ (.string x)) := (Below.refl _ _).setCell (by show w.heap.size ≤ w.heap.size + 1; omega) _
  have hb4' : Below (w.heap.size + 1) w4 (w4.setCell ⟨w.heap.size + 1, 1, none⟩ (.string x)) := (Below.refl _ _).setCell (by show w.heap.size + 1 ≤ w.heap.size + 1; omega) _
  have HT5 := Lib.hid ((HT3.out.trans ht4).low hb4)
  have HZ5 := Lib.hid ((HZ3.out.turn ht4 (by rw [HPB.out]; omega)).low hb4' (Nat.lt_succ_self _))
  have HF5 := Lib.hid (five_set1 HF4.out (.string x))
  have hq1 := hd_lt' HH.out
  have KU5 := Lib.hid (KU.out _ (p + 1) (h4.low hb4 HLO.out) (by
    have h1 := HLEN.out
    rw [rest_len] at h1 ⊢
    omega))
  have hw5 : (w4.setCell ⟨w.heap.size + 1, 1, none⟩ (.string x)).heap.size = w4.heap.size := by simp [World.setCell]
  have hs4 := ht4.size
  have hs3 := HF3.out.size
  obtain ⟨hs5, f0, f1, f2, f3, f4, ffz⟩ := HF4.out
  clear h4 ht4 KT hb4 hb4'
  go_wp2_with fail
  refine KU5.out.mono ?_
  rintro e w6 (⟨u, q6, rfl, ho6, h6, ht6, hg6⟩ | ⟨⟨v, rfl⟩, ht6, hg6⟩)
  case inr =>
    have HG2 : Hid (G = none) := Lib.hid (by rw [HG.out, rest_tail, hg6])
    have HT6 := Lib.hid (HT5.out.trans ht6)
    clear ht6 hg6 KU5
    go_wp2_with fail
    exact ⟨rfl, .inr ⟨⟨_, rfl⟩, HT6.out, HG2.out⟩⟩
  have hs6 := ht6.size
  rw [hw5] at hs6 ho6
  have hba : Below w6.heap.size w6 (w6.alloc (.cells #[.int .i64 u.kind, .string u.text, .int .i64 u.num, u.vn, u.vk] 25)) := (Below.refl _ _).alloc (Nat.le_refl _) _
  have HL6 := Lib.hid ((lit_row ho6 hs6).node (k := 6) (n := 0) (s := x) (by rfl) (by rfl) (by unfold maxLen; omega))
  have HPS6 := Lib.hid h6
  have HT6 := Lib.hid (HT5.out.trans ht6)
  have HG2 : Hid (G = some (eMsg x [toE u], rest P q6)) := Lib.hid (by rw [HG.out, rest_tail, hg6])
  obtain ⟨hszz, y0, y1, y2, y3, y4, yfz⟩ := HZ5.out.turn ht6 (by rw [HPB.out]; omega)
  obtain ⟨hsg, g0, g1, g2, g3, g4, gfz⟩ := HF5.out.turn ht6 (by rw [HPB.out]; omega)
  unfold agg
  clear ho6 h6 ht6 hg6 KU5 hba f0 f1 f2 f3 f4 ffz hw5 hs5
  go_wp2_with fail
  have hb8 : Below w.heap.size w6 (w6.setCell ⟨w.heap.size + 1, 4, none⟩ (.slice (some ⟨w6.heap.size, 0, none⟩) 1 1)) := (Below.refl _ _).setCell (by show w.heap.size ≤ w.heap.size + 1; omega) _
  have hb9 := put5_below (B := w.heap.size) hb8 (Nat.le_refl _) (.int .i64 6) (.string x) (.int .i64 0) (.slice none 0 0) (.slice (some ⟨w6.heap.size, 0, none⟩) 1 1)
  have hba : ∀ W : World, Below W.heap.size W (W.alloc (.cells #[.int .i64 u.kind, .string u.text, .int .i64 u.num, u.vn, u.vk] 25)) := fun W => (Below.refl _ _).alloc (Nat.le_refl _) _
  refine bodyPost_ret (v := .agg #[.int .i64 6, .string x, .int .i64 0, .slice none 0 0, .slice (some ⟨w6.heap.size, 0, none⟩) 1 1]) (by simp [results, Tryz.results62, go_sem, *]) rfl ?_
  refine .inl ⟨.mk 6 x 0 [] (.slice none 0 0) (.slice (some ⟨w6.heap.size, 0, none⟩) 1 1) [u], q6, rfl, (HL6.out.frame fun b hb => ?_).mono (by omega), (HPS6.out.low hb9 HLO.out).below (hba _), (HT6.out.low hb9).below (hba _), by rw [HG2.out]; rfl⟩
  have h1 := HL6.out.lo b hb
  exact alloc_heap _ (by simp [World.setCell]) (fun _ => (put5_heap _ w.heap.size _ _ _ _ _ (by omega)).trans (set_heap w6 (w.heap.size + 1) 4 _ (by omega)))

set_option maxRecDepth 10000 in
set_option maxHeartbeats 8000000 in
theorem binary_any {n : Nat} (hx : XI n) {P : Cst} {p : Nat} {w : World} (h : IS P p w) (hn : (rest P p).length ≤ n) :
    Calls Tryz.prog 92 #[.pointer (some ⟨P.pb, 0, none⟩)] w (IBack P w (drop2 (binary (expr n) (rest P p)))) := by
  have hbz : Below w.heap.size w (w.alloc (.cells #[.int .i64 0, .string ⟨#[]⟩, .int .i64 0, .slice none 0 0, .slice none 0 0] 25)) := (Below.refl _ _).alloc (Nat.le_refl _) _
  have hw1 : (w.alloc (.cells #[.int .i64 0, .string ⟨#[]⟩, .int .i64 0, .slice none 0 0, .slice none 0 0] 25)).heap.size = w.heap.size + 1 := by simp
  have KP := Lib.hid (unary_any hx (h.below hbz) hn)
  have KS := Lib.hid (fun (w1 : World) (q : Nat) (t : T) (h1 : IS P q w1) (hl : (rest P q).length ≤ n) (ho : Own (w.heap.size + 1) w1 t) (hw : w.heap.size + 1 ≤ w1.heap.size) => sends_any (by decide) (message_6 hx) h1 hl ho (Nat.lt_succ_of_lt h.size) hw)
  have HW1 := Lib.hid hw1
  have HT := Lib.hid ((Turn.refl P w).low hbz)
  have HZ := Lib.hid (zero_new w 25)
  have HLO := Lib.hid h.lo
  have hpbl := h.size
  have HLEN := Lib.hid hn
  have HG := Lib.hid (binary_s (expr_short n) (rest P p))
  clear h hn hx hbz hw1
  generalize drop2 (binary (expr n) (rest P p)) = G at *
  generalize hpb : P.pb = pb at *
  have HPB := Lib.hid hpb; clear hpb
  go_enter Tryz.func92, Tryz.ntmps92
  go_wp2_with fail
  refine KP.out.mono ?_
  rintro e w3 (⟨t, q3, rfl, ho3, h3, ht3, hg3⟩ | ⟨⟨v, rfl⟩, ht3, hg3⟩)
  case inr =>
    have HG2 : Hid (G = none) := Lib.hid (by rw [HG.out, hg3])
    have HT3 := Lib.hid (HT.out.trans ht3)
    clear ht3 hg3 KP
    go_wp2_with fail
    exact ⟨rfl, .inr ⟨⟨_, rfl⟩, HT3.out, HG2.out⟩⟩
  rw [HW1.out] at ho3
  have hs3 := ht3.size
  rw [HW1.out] at hs3
  have HG3 : Hid (G = sLoop (expr n) 6 (toE t) (rest P q3)) := Lib.hid (by rw [HG.out, hg3])
  have HLQ : Hid ((rest P q3).length ≤ n) := Lib.hid (by
    have h1 := drop2_short (expr_short n) hg3
    have h2 := HLEN.out
    omega)
  have KS3 := Lib.hid (KS.out w3 q3 t h3 HLQ.out ho3 hs3)
  have HT3 := Lib.hid (HT.out.trans ht3)
  have HZ3 := Lib.hid (HZ.out.turn ht3 (by rw [HPB.out]; omega))
  clear ho3 h3 ht3 hg3 KP KS
  go_wp2_with fail
  refine KS3.out.mono ?_
  rintro e w5 (⟨u, q5, rfl, ho5, h5, ht5, hg5⟩ | ⟨⟨v, rfl⟩, ht5, hg5⟩)
  case inr =>
    have HG2 : Hid (G = none) := Lib.hid (by rw [HG3.out, hg5])
    have HT5 := Lib.hid (HT3.out.trans ht5)
    clear ht5 hg5 KS3
    go_wp2_with fail
    exact ⟨rfl, .inr ⟨⟨_, rfl⟩, HT5.out, HG2.out⟩⟩
  obtain ⟨fa, fc, fa', fc', hf1, hf2⟩ := good_forms ho5.good
  obtain ⟨uk, ut, un, uns, uvn, uvk, uks⟩ := u
  simp only [T.vn, T.vk, T.names, T.kids] at hf1 hf2
  subst hf1 hf2
  have HO5 := Lib.hid ho5
  have HPS5 := Lib.hid h5
  have HT5 := Lib.hid (HT3.out.trans ht5)
  have HG5 : Hid (G = some (toE (.mk uk ut un uns (.slice fa uns.length fc) (.slice fa' uks.length fc') uks), rest P q5)) := Lib.hid (by rw [HG3.out, hg5])
  obtain ⟨hszz, y0, y1, y2, y3, y4, yfz⟩ := HZ3.out.turn ht5 (by rw [HPB.out]; omega)
  unfold agg
  simp only [T.kind, T.text, T.num, T.vn, T.vk]
  clear ho5 h5 ht5 hg5 KS3
  go_wp2_with fail
  have hb9 := put5_below (Below.refl w.heap.size w5) (B := w.heap.size) (Nat.le_refl _) (.int .i64 uk) (.string ut) (.int .i64 un) (.slice fa uns.length fc) (.slice fa' uks.length fc')
  refine bodyPost_ret (v := .agg #[.int .i64 uk, .string ut, .int .i64 un, .slice fa uns.length fc, .slice fa' uks.length fc']) (by simp [results, Tryz.results92, go_sem, *]) rfl ?_
  exact .inl ⟨.mk uk ut un uns (.slice fa uns.length fc) (.slice fa' uks.length fc') uks, q5, rfl, (Own.put5 HO5.out (B := w.heap.size) (fun hm => by have := HO5.out.lo _ hm; omega) _ _ _ _ _).mono (Nat.le_succ _), HPS5.out.low hb9 HLO.out, HT5.out.low hb9, HG5.out⟩
end Go.Proofs.YtbflpocbjdccgaaGreatDoor.ParI
