/-
  What impl's checks of classes call: areNames, slices.Contains, slices.Equal over texts, equalInfos, slices.EqualFunc over classes, indexOfClass.
-/
import Derived.Test.YtoaocpfehdcfgaaGreatBCheckMath
import Derived.Test.YtoaocpfehdcfgaaGreatBImplInfos
import Derived.Test.YtoaocpfehdcfgaaGreatBImplTok
import Derived.Test.YtoaocpfehdcfgaaGreatBSpecClassesI
import Derived.Deep.QuietTactic
import Derived.BigQuiet
namespace Go.Proofs.YtoaocpfehdcfgaaGreat.ImplCore
open Go.RowKit
open Strs Tree Core Go.Proofs.YtoaocpfehdcfgaaGreat.Data
open ImplTok (Part)
open SpecCore (builtins builtins_len builtins_at is_cases texts_At texts_take)
set_option linter.unusedVariables false
def DrawnC (w w' : World) : Prop := ∃ m, w' = w.drewN m
theorem DrawnC.more {w w' : World} (h : DrawnC w w') (k : Nat) : DrawnC w (w'.drewN k) := by
  obtain ⟨m, rfl⟩ := h
  exact ⟨m + k, by rw [World.drewN_drewN]⟩
theorem DrawnC.below {w w' : World} (h : DrawnC w w') : Below w.heap.size w w' := by
  obtain ⟨m, rfl⟩ := h
  exact ⟨rfl, rfl, rfl, Nat.le_refl _, fun _ _ => rfl⟩
set_option maxHeartbeats 1000000 in
theorem texts_cons (a1 a2 : Option Addr) (c1 c2 n : Nat) (xs ys : List ByteArray) (w : World) (hx : xs.length = n) (hy : ys.length = n) (hm : n ≤ maxLen)
    (h1 : 0 < n → ∃ b o, a1 = some ⟨b, o, none⟩ ∧ ∀ j (h : j < xs.length), w.cell? ⟨b, o + j, none⟩ = some (.string xs[j]))
    (h2 : 0 < n → ∃ b o, a2 = some ⟨b, o, none⟩ ∧ ∀ j (h : j < ys.length), w.cell? ⟨b, o + j, none⟩ = some (.string ys[j])) :
    Calls Tryz.prog 72 #[.slice a1 n c1, .slice a2 n c2] w fun e w' => e = .returned (.bool (decide (xs = ys))) ∧ DrawnC w w' := by
  unfold maxLen at hm
  have H1 := Lib.hid h1; clear h1
  have H2 := Lib.hid h2; clear h2
  have HX := Lib.hid hx; clear hx
  have HY := Lib.hid hy; clear hy
  generalize hD : decide (xs = ys) = D
  have HD := Lib.hid hD; clear hD
  go_enter Tryz.func72, Tryz.ntmps72
  go_wp2_with fail
  go_loopw [13] (fun j wr => ∃ i : Nat, i ≤ n ∧ j = .int .i64 i ∧ DrawnC w wr ∧ Hid (∀ j (h1 : j < xs.length) (h2 : j < ys.length), j < i → xs[j] = ys[j])) (fun j _ => n - (intOf j).toNat)
  case atStart => exact ⟨0, by omega, rfl, ⟨0, rfl⟩, fun j _ _ h => by omega⟩
  case round =>
    obtain ⟨i, hi, rfl, hdr, HS⟩ := hrel
    have HDR := Lib.hid hdr
    have hbw := hdr.below
    clear hdr
    by_cases hlt : i < n
    · have hix : i < xs.length := by rw [HX.out]; exact hlt
      have hiy : i < ys.length := by rw [HY.out]; exact hlt
      obtain ⟨b1, o1, rfl, d1⟩ := H1.out (by omega)
      obtain ⟨b2, o2, rfl, d2⟩ := H2.out (by omega)
      have hc1 : wr.cell? ⟨b1, o1 + i, none⟩ = some (.string xs[i]) := cell_keep hbw (d1 i hix)
      have hc2 : wr.cell? ⟨b2, o2 + i, none⟩ = some (.string ys[i]) := cell_keep hbw (d2 i hiy)
      clear d1 d2 hbw
      generalize hs : xs[i] = s at *
      generalize ht : ys[i] = t at *
      have HE := Lib.hid (And.intro hs ht); clear hs ht
      by_cases hst : s = t
      · subst hst
        go_wp2_with fail
        go_quiet (fail)
        go_wp2_with fail
        go_roundw
        case rel =>
          refine ⟨i + 1, by omega, by go_num, HDR.out.more _, fun j g1 g2 hj => ?_⟩
          by_cases e : j = i
          · subst e; exact HE.out.1.trans HE.out.2.symm
          · exact HS.out j g1 g2 (by omega)
        case measure => simp [intOf]; omega
      · have hD : D = false := by
          rw [← HD.out]
          refine decide_eq_false fun e => hst ?_
          rw [← HE.out.1, ← HE.out.2]
          simp [e]
        subst hD
        have hb := SpecTexts.beq_no hst
        clear hst
        go_wp2_with fail
        go_quiet (fail)
        go_wp2_with fail
        go_ret
        exact ⟨rfl, HDR.out.more _⟩
    · have hD : D = true := by
        rw [← HD.out]
        refine decide_eq_true ?_
        have h1 := HX.out
        have h2 := HY.out
        exact List.ext_getElem (by omega) fun j g1 g2 => HS.out j g1 g2 (by omega)
      subst hD
      clear hbw
      go_wp2_with fail
      go_ret
      exact ⟨rfl, HDR.out⟩
theorem texts_any {lo1 lo2 : Nat} {xs ys : List ByteArray} {v1 v2 : Value} {w : World} (h1 : Texts lo1 w xs v1) (h2 : Texts lo2 w ys v2) :
    Calls Tryz.prog 72 #[v1, v2] w fun e w' => e = .returned (.bool (decide (xs = ys))) ∧ DrawnC w w' := by
  obtain ⟨a1, c1, rfl, m1, _, d1⟩ := h1
  obtain ⟨a2, c2, rfl, m2, _, d2⟩ := h2
  by_cases h : xs.length = ys.length
  · rw [← h]
    refine texts_cons a1 a2 c1 c2 xs.length xs ys w rfl h.symm (Nat.le_trans m1.1 m1.2) (fun hp => ?_) (fun hp => ?_)
    · obtain ⟨b, o, e, _, d⟩ := d1 hp; exact ⟨b, o, e, d⟩
    · obtain ⟨b, o, e, _, d⟩ := d2 (by omega); exact ⟨b, o, e, d⟩
  · have hne : ¬ (xs.length : Int) = (ys.length : Int) := by omega
    rw [decide_eq_false (fun e : xs = ys => h (by rw [e]))]
    clear d1 d2 m1 m2
    generalize xs.length = n1 at *
    generalize ys.length = n2 at *
    go_enter Tryz.func72, Tryz.ntmps72
    go_wp2_with fail
    go_ret
    exact ⟨rfl, 0, rfl⟩
set_option maxHeartbeats 1000000 in
theorem index_any (v : Value) (xs : List ByteArray) (s : ByteArray) (w : World) (h : At w v xs) :
    Calls Tryz.prog 98 #[v, .string s] w fun e w' => e = .returned (.int .i64 (Chk.index xs s)) ∧ w = w' := by
  obtain ⟨a, cap, rfl, hm, hc⟩ := h
  unfold maxLen at hm
  have HC := Lib.hid hc; clear hc
  generalize hn : xs.length = n at *
  have HN := Lib.hid hn; clear hn
  go_enter Tryz.func98, Tryz.ntmps98
  go_wp2_with fail
  go_loop [8] (fun j => ∃ i : Nat, i ≤ n ∧ j = .int .i64 i ∧ s ∉ xs.take i) (fun j => n - (intOf j).toNat)
  case atStart => exact ⟨0, by omega, rfl, by simp⟩
  case round =>
    obtain ⟨i, hi, rfl, hno⟩ := hrel
    have HNO := Lib.hid hno; clear hno
    by_cases hlt : i < n
    · obtain ⟨b, off, rfl, hcell⟩ := HC.out (by omega)
      have hil : i < xs.length := by rw [HN.out]; exact hlt
      have hci := hcell i hlt
      have HX : Hid (xs.getD i ByteArray.empty = xs[i]) := by show _ = _; simp [List.getD, hil]
      rw [HX.out] at hci
      clear hcell
      by_cases he : xs[i] = s
      · have HR : Hid (Chk.index xs s = i) := Lib.hid (Chk.index_at hil he HNO.out)
        have he2 : (s.toList == xs[i].toList) = true := by rw [he]; simp
        clear HX he
        generalize xs[i] = x at *
        go_wp2_with fail
        go_ret
        exact ⟨by rw [HR.out]; rfl, rfl⟩
      · have hf : (s.toList == xs[i].toList) = false := Chk.ba_ne (fun e => he e.symm)
        have HF : Hid (s ∉ xs.take (i + 1)) := Lib.hid (by
          rw [List.take_succ_eq_append_getElem hil, List.mem_append, List.mem_singleton]
          rintro (h | h)
          · exact HNO.out h
          · exact he h.symm)
        clear he HX
        generalize xs[i] = x at *
        go_wp2_with fail
        go_round
        case rel => exact ⟨i + 1, by omega, by go_num, HF.out⟩
        case measure => simp [intOf]; omega
    · have HR : Hid (Chk.index xs s = -1) := Lib.hid (Chk.index_no (by
        have := HNO.out
        rwa [List.take_of_length_le (by rw [HN.out]; omega)] at this))
      go_wp2_with fail
      go_ret
      exact ⟨by rw [HR.out]; rfl, rfl⟩
theorem has_index (xs : List ByteArray) (s : ByteArray) : Tok.has xs s = decide (Chk.index xs s ≥ 0) := by
  rw [Bool.eq_iff_iff, Chk.has_iff, decide_eq_true_iff]
  exact Chk.index_mem.symm
set_option maxHeartbeats 1000000 in
theorem contains_any (v : Value) (xs : List ByteArray) (s : ByteArray) (w : World) (h : At w v xs) :
    Calls Tryz.prog 89 #[v, .string s] w fun e w' => e = .returned (.bool (Tok.has xs s)) ∧ w = w' := by
  have K := Lib.hid (index_any v xs s w h)
  have HV := Lib.hid (has_index xs s)
  generalize Chk.index xs s = q at *
  generalize Tok.has xs s = r at *
  clear h
  go_enter Tryz.func89, Tryz.ntmps89
  go_wp2_with fail
  refine K.out.mono ?_
  rintro e w1 ⟨rfl, rfl⟩
  go_wp2_with fail
  go_ret
  exact ⟨by rw [HV.out]; rfl, rfl⟩
set_option maxHeartbeats 1000000 in
theorem names_any {lo : Nat} {w : World} {v : Value} {ns : List ByteArray} (h : Texts lo w ns v) : Calls Tryz.prog 88 #[v] w (Part (ns.all Tok.isName) w) := by
  obtain ⟨a, cap, rfl, hm, -, hc⟩ := h
  unfold maxLen at hm
  have KN := fun s w => Lib.hid (ImplTok.is_name s w)
  have HC := Lib.hid hc; clear hc
  generalize hD : ns.all Tok.isName = D
  have HD := Lib.hid hD; clear hD
  obtain ⟨n, hn⟩ : ∃ n, ns.length = n := ⟨_, rfl⟩
  rw [hn] at hm ⊢
  have HN := Lib.hid hn; clear hn
  go_enter Tryz.func88, Tryz.ntmps88
  go_wp2_with fail
  go_loopw [7] (fun j wr => ∃ i : Nat, i ≤ n ∧ j = .int .i64 i ∧ Below w.heap.size w wr ∧ Hid (∀ j (h : j < ns.length), j < i → Tok.isName ns[j] = true)) (fun j _ => n - (intOf j).toNat)
  case atStart => exact ⟨0, by omega, rfl, Below.refl _ _, fun j _ h => by omega⟩
  case round =>
    obtain ⟨i, hi, rfl, hbw, HI⟩ := hrel
    by_cases hlt : i < n
    · have hil : i < ns.length := by rw [HN.out]; exact hlt
      obtain ⟨b, off, rfl, _, hd⟩ := HC.out (by have := HN.out; omega)
      have c0 : wr.cell? ⟨b, off + i, none⟩ = some (.string ns[i]) := cell_keep hbw (hd i hil)
      have HB := Lib.hid hbw
      clear hd hbw
      generalize hs : ns[i] = s at *
      have HS := Lib.hid hs; clear hs
      cases hv : Tok.isName s with
      | true =>
        have KS := Lib.hid (KN s wr).out
        rw [hv] at KS
        have HV := Lib.hid hv; clear hv
        go_wp2_with fail
        refine KS.out.mono ?_
        rintro r w1 ⟨rfl, hb1⟩
        have HB1 := Lib.hid (HB.out.trans (hb1.mono HB.out.size))
        clear hb1 c0
        go_wp2_with fail
        go_roundw
        case rel =>
          refine ⟨i + 1, by omega, by go_num, HB1.out, fun j hj hji => ?_⟩
          by_cases e : j = i
          · subst e; rw [HS.out]; exact HV.out
          · exact HI.out j hj (by omega)
        case measure => simp [intOf]; omega
      | false =>
        have KS := Lib.hid (KN s wr).out
        rw [hv] at KS
        have hD : D = false := by
          rw [← HD.out, List.all_eq_false]
          exact ⟨ns[i], List.getElem_mem hil, by rw [HS.out, hv]; simp⟩
        subst hD
        clear hv
        go_wp2_with fail
        refine KS.out.mono ?_
        rintro r w1 ⟨rfl, hb1⟩
        have HB1 := Lib.hid (HB.out.trans (hb1.mono HB.out.size))
        clear hb1 c0
        go_wp2_with fail
        go_ret
        exact ⟨rfl, HB1.out⟩
    · have hD : D = true := by
        rw [← HD.out, List.all_eq_true]
        intro x hx
        obtain ⟨j, hj, rfl⟩ := List.getElem_of_mem hx
        exact HI.out j hj (by have := HN.out; omega)
      subst hD
      go_wp2_with fail
      go_ret
      exact ⟨rfl, hbw⟩
end Go.Proofs.YtoaocpfehdcfgaaGreat.ImplCore
