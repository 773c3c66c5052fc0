/-
  slices.Equal over texts, and isLike: whether two nodes are equal but for what is in their kids.
-/
import Derived.Test.YtlmhgeanknhcfaaSoft
import Derived.Test.YtlmhgeanknhcfaaPairs
import Derived.Test.YtlmhgeanknhcfaaSpecEqual
import Derived.Deep.QuietTactic
import Derived.BigQuiet
namespace Go.Proofs.Ytlmhgeanknhcfaa.ImplLike
open Go.RowKit
open Strs Tree Soft Pairs

/-- The world has been drawn from, and nothing else. -/
def Drawn (w w' : World) : Prop := ∃ m, w' = w.drewN m
theorem Drawn.more {w w' : World} (h : Drawn w w') (k : Nat) : Drawn w (w'.drewN k) := by
  obtain ⟨m, rfl⟩ := h
  exact ⟨m + k, by rw [World.drewN_drewN]⟩
theorem Drawn.below {w w' : World} (h : Drawn w w') : Below w.heap.size w w' := by
  obtain ⟨m, rfl⟩ := h
  exact ⟨rfl, rfl, rfl, Nat.le_refl _, fun _ _ => rfl⟩

set_option maxHeartbeats 1000000 in
theorem texts_cons (a1 a2 : Option Addr) (c1 c2 n : Nat) (xs ys : List ByteArray) (w : World) (hx : xs.length = n) (hy : ys.length = n) (hm : n ≤ maxLen)
    (h1 : 0 < n → ∃ b o, a1 = some ⟨b, o, none⟩ ∧ ∀ j (h : j < xs.length), w.cell? ⟨b, o + j, none⟩ = some (.string xs[j]))
    (h2 : 0 < n → ∃ b o, a2 = some ⟨b, o, none⟩ ∧ ∀ j (h : j < ys.length), w.cell? ⟨b, o + j, none⟩ = some (.string ys[j])) :
    Calls Try.prog 39 #[.slice a1 n c1, .slice a2 n c2] w fun e w' => e = .returned (.bool (decide (xs = ys))) ∧ Drawn w w' := by
  unfold maxLen at hm
  have H1 := Lib.hid h1; clear h1
  have H2 := Lib.hid h2; clear h2
  have HX := Lib.hid hx; clear hx
  have HY := Lib.hid hy; clear hy
  generalize hD : decide (xs = ys) = D
  have HD := Lib.hid hD; clear hD
  go_enter Try.func39, Try.ntmps39
  go_wp2_with fail
  go_loopw [13] (fun j wr => ∃ i : Nat, i ≤ n ∧ j = .int .i64 i ∧ Drawn w wr ∧ Hid (∀ j (h1 : j < xs.length) (h2 : j < ys.length), j < i → xs[j] = ys[j])) (fun j _ => n - (intOf j).toNat)
  case atStart => exact ⟨0, by omega, rfl, ⟨0, rfl⟩, fun j _ _ h => by omega⟩
  case round =>
    obtain ⟨i, hi, rfl, hdr, HS⟩ := hrel
    have HDR := Lib.hid hdr
    have hbw := hdr.below
    clear hdr
    by_cases hlt : i < n
    · have hix : i < xs.length := by rw [HX.out]; exact hlt
      have hiy : i < ys.length := by rw [HY.out]; exact hlt
      obtain ⟨b1, o1, rfl, d1⟩ := H1.out (by omega)
      obtain ⟨b2, o2, rfl, d2⟩ := H2.out (by omega)
      have hc1 : wr.cell? ⟨b1, o1 + i, none⟩ = some (.string xs[i]) := cell_keep hbw (d1 i hix)
      have hc2 : wr.cell? ⟨b2, o2 + i, none⟩ = some (.string ys[i]) := cell_keep hbw (d2 i hiy)
      clear d1 d2 hbw
      generalize hs : xs[i] = s at *
      generalize ht : ys[i] = t at *
      have HE := Lib.hid (And.intro hs ht); clear hs ht
      by_cases hst : s = t
      · subst hst
        go_wp2_with fail
        go_quiet (fail)
        go_wp2_with fail
        go_roundw
        case rel =>
          refine ⟨i + 1, by omega, by go_num, HDR.out.more _, fun j g1 g2 hj => ?_⟩
          by_cases e : j = i
          · subst e; exact HE.out.1.trans HE.out.2.symm
          · exact HS.out j g1 g2 (by omega)
        case measure => simp [intOf]; omega
      · have hD : D = false := by
          rw [← HD.out]
          refine decide_eq_false fun e => hst ?_
          rw [← HE.out.1, ← HE.out.2]
          simp [e]
        subst hD
        have hb := SpecEqual.beq_no hst
        clear hst
        go_wp2_with fail
        go_quiet (fail)
        go_wp2_with fail
        go_ret
        exact ⟨rfl, HDR.out.more _⟩
    · have hD : D = true := by
        rw [← HD.out]
        refine decide_eq_true ?_
        have h1 := HX.out
        have h2 := HY.out
        exact List.ext_getElem (by omega) fun j g1 g2 => HS.out j g1 g2 (by omega)
      subst hD
      clear hbw
      go_wp2_with fail
      go_ret
      exact ⟨rfl, HDR.out⟩

theorem texts_any {lo1 lo2 : Nat} {xs ys : List ByteArray} {v1 v2 : Value} {w : World} (h1 : Texts lo1 w xs v1) (h2 : Texts lo2 w ys v2) :
    Calls Try.prog 39 #[v1, v2] w fun e w' => e = .returned (.bool (decide (xs = ys))) ∧ Drawn w w' := by
  obtain ⟨a1, c1, rfl, m1, _, d1⟩ := h1
  obtain ⟨a2, c2, rfl, m2, _, d2⟩ := h2
  by_cases h : xs.length = ys.length
  · rw [← h]
    refine texts_cons a1 a2 c1 c2 xs.length xs ys w rfl h.symm (Nat.le_trans m1.1 m1.2) (fun hp => ?_) (fun hp => ?_)
    · obtain ⟨b, o, e, _, d⟩ := d1 hp; exact ⟨b, o, e, d⟩
    · obtain ⟨b, o, e, _, d⟩ := d2 (by omega); exact ⟨b, o, e, d⟩
  · have hne : ¬ (xs.length : Int) = (ys.length : Int) := by omega
    rw [decide_eq_false (fun e : xs = ys => h (by rw [e]))]
    clear d1 d2 m1 m2
    generalize xs.length = n1 at *
    generalize ys.length = n2 at *
    go_enter Try.func39, Try.ntmps39
    go_wp2_with fail
    go_ret
    exact ⟨rfl, 0, rfl⟩

/-- Whether two nodes are alike. -/
noncomputable def likeB (e f : E) : Bool := @decide (Like e f) (Classical.propDecidable _)
theorem likeB_yes {e f : E} (h : Like e f) : likeB e f = true := @decide_eq_true _ (Classical.propDecidable _) h
theorem likeB_no {e f : E} (h : ¬ Like e f) : likeB e f = false := @decide_eq_false _ (Classical.propDecidable _) h

theorem below_texts {w w' : World} {xs : List ByteArray} {v : Value} (h : Texts 0 w xs v) (hb : Below w.heap.size w w') : Texts 0 w' xs v := h.below hb

set_option maxHeartbeats 2000000 in
theorem like_any {w0 w : World} {a b : Addr} {e f : E} (hb : Below w0.heap.size w0 w) (h1 : Nd w0 a e) (h2 : Nd w0 b f) :
    Calls Try.prog 34 #[.pointer (some a), .pointer (some b)] w fun r w' => r = .returned (.bool (likeB e f)) ∧ Drawn w w' := by
  obtain ⟨ba, oa, vn, x, cap, rfl, c0, c1, c2, c3, c4, hm, hm2, hx, -, -, -, -⟩ := (h1.keep hb).see
  obtain ⟨bb, ob, vn', x', cap', rfl, d0, d1, d2, d3, d4, hm', hm2', hx', -, -, -, -⟩ := (h2.keep hb).see
  clear h1 h2 hb
  obtain ⟨k, t, n, ns, ks⟩ := e
  obtain ⟨k', t', n', ns', ks'⟩ := f
  simp only [E.kind, E.text, E.num, E.names, E.kids] at *
  have KT := fun q => Lib.hid (texts_any (w := w.drewN q) (show Texts 0 (w.drewN q) ns vn from hx) (show Texts 0 (w.drewN q) ns' vn' from hx'))
  clear hx hx'
  unfold maxLen at hm2 hm2'
  generalize hD : likeB (.mk k t n ns ks) (.mk k' t' n' ns' ks') = D
  have HD := Lib.hid hD; clear hD
  by_cases ek : k = k'
  case neg =>
    have hD : D = false := by rw [← HD.out]; exact likeB_no (fun h => ek h.1)
    subst hD
    have bk : ((k : Int) == k') = false := by rw [beq_eq_false_iff_ne]; exact ek
    go_enter Try.func34, Try.ntmps34
    go_wp2_with fail
    go_quiet (fail)
    go_wp2_with fail
    go_ret
    exact ⟨rfl, _, rfl⟩
  subst ek
  by_cases et : t = t'
  case neg =>
    have hD : D = false := by rw [← HD.out]; exact likeB_no (fun h => et h.2.1)
    subst hD
    have bt := SpecEqual.beq_no et
    clear et
    go_enter Try.func34, Try.ntmps34
    go_wp2_with fail
    go_quiet (fail)
    go_wp2_with fail
    go_ret
    exact ⟨rfl, _, rfl⟩
  subst et
  by_cases en : n = n'
  case neg =>
    have hD : D = false := by rw [← HD.out]; exact likeB_no (fun h => en h.2.2.1)
    subst hD
    have bn : ((n : Int) == n') = false := by rw [beq_eq_false_iff_ne]; exact en
    go_enter Try.func34, Try.ntmps34
    go_wp2_with fail
    go_quiet (fail)
    go_wp2_with fail
    go_ret
    exact ⟨rfl, _, rfl⟩
  subst en
  by_cases es : ns = ns'
  case neg =>
    have hD : D = false := by rw [← HD.out]; exact likeB_no (fun h => es h.2.2.2.1)
    subst hD
    rw [decide_eq_false es] at KT
    clear es
    go_enter Try.func34, Try.ntmps34
    go_wp2_with fail
    go_quiet ((go_at_call 39; exact Calls.quiet_of (KT _).out))
    go_wp2_with fail
    go_ret
    exact ⟨rfl, _, rfl⟩
  subst es
  rw [decide_eq_true rfl] at KT
  by_cases el : ks.length = ks'.length
  case neg =>
    have hD : D = false := by rw [← HD.out]; exact likeB_no (fun h => el h.2.2.2.2)
    subst hD
    have bl : ((ks.length : Int) == (ks'.length : Int)) = false := by rw [beq_eq_false_iff_ne]; omega
    clear HD
    generalize ks.length = l1 at *
    generalize ks'.length = l2 at *
    go_enter Try.func34, Try.ntmps34
    go_wp2_with fail
    go_quiet ((go_at_call 39; exact Calls.quiet_of (KT _).out))
    go_wp2_with fail
    go_ret
    exact ⟨rfl, _, rfl⟩
  have hD : D = true := by rw [← HD.out]; exact likeB_yes ⟨rfl, rfl, rfl, rfl, el⟩
  subst hD
  rw [← el] at d4 hm'
  clear HD el
  generalize ks.length = l1 at *
  go_enter Try.func34, Try.ntmps34
  go_wp2_with fail
  go_quiet ((go_at_call 39; exact Calls.quiet_of (KT _).out))
  go_wp2_with fail
  go_ret
  exact ⟨rfl, _, rfl⟩
end Go.Proofs.Ytlmhgeanknhcfaa.ImplLike
