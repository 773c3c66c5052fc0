/-
  impl's hasSlot, hasVariable, hasClass and hasFields: what they answer. Written by wip/tools/gen_implf.py.
-/
import Derived.Test.YtekeondbbikkpaaGreatBImplCoreP
import Derived.Test.YtekeondbbikkpaaGreatBImplQuot
import Derived.Test.YtekeondbbikkpaaGreatBSpecRtC
namespace Go.Proofs.YtekeondbbikkpaaGreat.ImplCore
open Go.RowKit
open Strs Tree Core
open SpecCore (draws_low text0 nat0 args_ge args_le lvl_none lvl_some slot_some var_some slot_none var_none LOk)
set_option linter.unusedVariables false
structure Ck (w : World) (g : Nat) (C : Nat) (L : Lv) : Prop where
  c0 : w.cell? ⟨g, 0, none⟩ = some (.int .i64 C)
  lv : ∃ la lc, w.cell? ⟨g, 1, none⟩ = some (.slice la L.length lc) ∧ (L.length ≤ lc ∧ lc ≤ maxLen) ∧ (0 < L.length → ∃ lb lo, la = some ⟨lb, lo, none⟩ ∧ ∀ (j : Nat) (q : Int × Int), L[j]? = some q → w.cell? ⟨lb, lo + j * 2, none⟩ = some (.int .i64 q.1) ∧ w.cell? ⟨lb, lo + j * 2 + 1, none⟩ = some (.int .i64 q.2))
theorem Ck.below {w w' : World} {g C : Nat} {L : Lv} (h : Ck w g C L) (hb : Below w.heap.size w w') : Ck w' g C L := by
  obtain ⟨c0, la, lc, c1, hm, hc⟩ := h
  refine ⟨cell_keep hb c0, la, lc, cell_keep hb c1, hm, fun hp => ?_⟩
  obtain ⟨lb, lo, rfl, hd⟩ := hc hp
  exact ⟨lb, lo, rfl, fun j q hj => ⟨cell_keep hb (hd j q hj).1, cell_keep hb (hd j q hj).2⟩⟩
set_option maxRecDepth 10000 in
set_option maxHeartbeats 4000000 in
theorem slot_any {w : World} {g C : Nat} {L : Lv} (h : Ck w g C L) (hl : L.length ≤ 4194304) (d n : Int) :
    Calls Tryz.prog 110 #[.pointer (some ⟨g, 0, none⟩), .int .i64 d, .int .i64 n] w fun r w' => r = .returned (.bool (slotB L d n)) ∧ ∃ m, w' = w.drewN m := by
  obtain ⟨-, la, lc, c1, hm, hc⟩ := h
  unfold maxLen at hm
  have HC := Lib.hid hc; clear hc
  by_cases hd : 0 ≤ d ∧ d ≤ (L.length : Int) - 1
  case neg =>
    have HR : Hid (slotB L d n = false) := Lib.hid (slot_none (lvl_none hd))
    generalize slotB L d n = R at *
    generalize L.length = Ln at *
    by_cases h0 : d < 0
    · go_enter Tryz.func110, Tryz.ntmps110
      go_wp2_with fail
      go_ret
      exact ⟨by rw [HR.out]; rfl, 0, rfl⟩
    · have h1 : (Ln : Int) ≤ d := by omega
      go_enter Tryz.func110, Tryz.ntmps110
      go_wp2_with fail
      go_ret
      exact ⟨by rw [HR.out]; rfl, 0, rfl⟩
  obtain ⟨dn, rfl⟩ : ∃ dn : Nat, d = (dn : Int) := ⟨d.toNat, by omega⟩
  obtain ⟨j, hj⟩ : ∃ j : Nat, (L.length : Int) - 1 - (dn : Int) = (j : Int) := ⟨L.length - 1 - dn, by omega⟩
  have hjl : j < L.length := by omega
  obtain ⟨⟨p, s⟩, hq⟩ : ∃ q, L[j]? = some q := ⟨_, List.getElem?_eq_getElem hjl⟩
  obtain ⟨lb, lo, rfl, hcell⟩ := HC.out (by omega)
  obtain ⟨e1, e2⟩ := hcell j _ hq
  simp only at e1 e2
  have HR : Hid (slotB L (dn : Int) n = (decide (0 ≤ n) && decide (n < s))) := Lib.hid (by rw [slot_some (lvl_some hj hq), Bool.eq_iff_iff]; simp only [Bool.and_eq_true, decide_eq_true_eq]; omega)
  clear hcell hq HC
  generalize slotB L (dn : Int) n = R at *
  generalize L.length = Ln at *
  have g1 : ¬ (Ln : Int) ≤ (dn : Int) := by omega
  by_cases hn : 0 ≤ n
  case neg =>
    have hR : R = false := by rw [HR.out, decide_eq_false hn]; rfl
    subst hR
    have hn3 : decide (0 ≤ n) = false := decide_eq_false hn
    go_enter Tryz.func110, Tryz.ntmps110
    go_wp2_with fail
    go_quiet (fail)
    go_wp2_with fail
    go_ret
    exact ⟨rfl, _, rfl⟩
  have hR : R = decide (n < s) := by rw [HR.out, decide_eq_true hn]; rfl
  have HRR := Lib.hid hR
  clear HR hR
  go_enter Tryz.func110, Tryz.ntmps110
  go_wp2_with fail
  go_quiet (fail)
  go_wp2_with fail
  go_ret
  exact ⟨by rw [HRR.out]; rfl, _, rfl⟩
set_option maxRecDepth 10000 in
set_option maxHeartbeats 4000000 in
theorem var_any {w : World} {g C : Nat} {L : Lv} (h : Ck w g C L) (hl : L.length ≤ 4194304) (d n : Int) :
    Calls Tryz.prog 111 #[.pointer (some ⟨g, 0, none⟩), .int .i64 d, .int .i64 n] w fun r w' => r = .returned (.bool (varB L d n)) ∧ ∃ m, w' = w.drewN m := by
  have KS := fun m => Lib.hid (slot_any (h.below (draws_low w m)) hl d n)
  obtain ⟨-, la, lc, c1, hm, hc⟩ := h
  unfold maxLen at hm
  have HC := Lib.hid hc; clear hc
  by_cases hd : 0 ≤ d ∧ d ≤ (L.length : Int) - 1
  case neg =>
    have HR : Hid (varB L d n = false) := Lib.hid (var_none (lvl_none hd))
    rw [slot_none (lvl_none hd)] at KS
    generalize varB L d n = R at *
    generalize L.length = Ln at *
    go_enter Tryz.func111, Tryz.ntmps111
    go_wp2_with fail
    go_quiet ((go_at_call 110; exact Calls.quiet_of (KS _).out))
    go_wp2_with fail
    go_ret
    exact ⟨by rw [HR.out]; rfl, _, rfl⟩
  obtain ⟨dn, rfl⟩ : ∃ dn : Nat, d = (dn : Int) := ⟨d.toNat, by omega⟩
  obtain ⟨j, hj⟩ : ∃ j : Nat, (L.length : Int) - 1 - (dn : Int) = (j : Int) := ⟨L.length - 1 - dn, by omega⟩
  have hjl : j < L.length := by omega
  obtain ⟨⟨p, s⟩, hq⟩ : ∃ q, L[j]? = some q := ⟨_, List.getElem?_eq_getElem hjl⟩
  obtain ⟨lb, lo, rfl, hcell⟩ := HC.out (by omega)
  obtain ⟨e1, e2⟩ := hcell j _ hq
  simp only at e1 e2
  have HR : Hid (varB L (dn : Int) n = (slotB L (dn : Int) n && decide (p ≤ n))) := Lib.hid (by rw [slot_some (lvl_some hj hq), var_some (lvl_some hj hq)])
  clear hcell hq HC
  generalize varB L (dn : Int) n = R at *
  generalize slotB L (dn : Int) n = B at *
  generalize L.length = Ln at *
  cases B with
  | false =>
    have hR : R = false := by rw [HR.out]; rfl
    subst hR
    go_enter Tryz.func111, Tryz.ntmps111
    go_wp2_with fail
    go_quiet ((go_at_call 110; exact Calls.quiet_of (KS _).out))
    go_wp2_with fail
    go_ret
    exact ⟨rfl, _, rfl⟩
  | true =>
    have hR : R = decide (p ≤ n) := by rw [HR.out]; rfl
    have HRR := Lib.hid hR
    clear HR hR
    go_enter Tryz.func111, Tryz.ntmps111
    go_wp2_with fail
    go_quiet ((go_at_call 110; exact Calls.quiet_of (KS _).out))
    go_wp2_with fail
    go_ret
    exact ⟨by rw [HRR.out]; rfl, _, rfl⟩
set_option maxHeartbeats 4000000 in
theorem cls_any {w : World} {g C : Nat} {L : Lv} (h : Ck w g C L) (n : Int) :
    Calls Tryz.prog 112 #[.pointer (some ⟨g, 0, none⟩), .int .i64 n] w fun r w' => r = .returned (.bool (clsB C n)) ∧ w' = w := by
  have c0 := h.c0
  have HR : Hid (clsB C n = (decide (0 ≤ n) && decide (n < C))) := Lib.hid rfl
  generalize clsB C n = R at *
  clear h
  by_cases hn : 0 ≤ n
  case neg =>
    have hR : R = false := by rw [HR.out, decide_eq_false hn]; rfl
    subst hR
    go_enter Tryz.func112, Tryz.ntmps112
    go_wp2_with fail
    go_ret
    exact ⟨rfl, rfl⟩
  have hR : R = decide (n < C) := by rw [HR.out, decide_eq_true hn]; rfl
  have HRR := Lib.hid hR
  clear HR hR
  go_enter Tryz.func112, Tryz.ntmps112
  go_wp2_with fail
  go_ret
  exact ⟨by rw [HRR.out]; rfl, rfl⟩
set_option maxRecDepth 10000 in
set_option maxHeartbeats 4000000 in
theorem fld_1 {lo b o : Nat} {w : World} {g C : Nat} {L : Lv} (hk : Ck w g C L) (hl : L.length ≤ 4194304) {t : ByteArray} {n d : Int} {ks : List K} (h : KSpot lo w b o (.mk 1 t n d ks)) (ht : t.size ≤ 1048576) :
    Calls Tryz.prog 99 #[.pointer (some ⟨g, 0, none⟩), .pointer (some ⟨b, o, none⟩)] w fun r w' => r = .returned (.bool (fieldB C L 1 t n d)) ∧ Below w.heap.size w w' := by
  have HV : Hid (fieldB C L 1 t n d = (decide (0 ≤ n) && decide (n ≤ 999999999))) := Lib.hid (by simp [fieldB])
  generalize fieldB C L 1 t n d = R at *
  obtain ⟨vk, c0, c1, c2, c3, c4, -⟩ := h
  simp only [K.kind, K.text, K.num, K.dep] at c0 c1 c2 c3
  have HCK := Lib.hid hk; clear hk
  go_enter Tryz.func99, Tryz.ntmps99
  go_wp2_with fail
  all_goals
    go_ret
    exact ⟨by rw [HV.out]; simp [*]; try (intros; omega), Below.refl _ _⟩
set_option maxRecDepth 10000 in
set_option maxHeartbeats 4000000 in
theorem fld_2 {lo b o : Nat} {w : World} {g C : Nat} {L : Lv} (hk : Ck w g C L) (hl : L.length ≤ 4194304) {t : ByteArray} {n d : Int} {ks : List K} (h : KSpot lo w b o (.mk 2 t n d ks)) (ht : t.size ≤ 1048576) :
    Calls Tryz.prog 99 #[.pointer (some ⟨g, 0, none⟩), .pointer (some ⟨b, o, none⟩)] w fun r w' => r = .returned (.bool (fieldB C L 2 t n d)) ∧ Below w.heap.size w w' := by
  have HV : Hid (fieldB C L 2 t n d = Tree.isText t) := Lib.hid (by simp [fieldB])
  generalize fieldB C L 2 t n d = R at *
  obtain ⟨vk, c0, c1, c2, c3, c4, -⟩ := h
  simp only [K.kind, K.text, K.num, K.dep] at c0 c1 c2 c3
  have KX := Lib.hid (ImplQuot.quotable_any t w)
  have HCK := Lib.hid hk; clear hk
  generalize hB : Tree.isText t = B at *
  clear hB
  go_enter Tryz.func99, Tryz.ntmps99
  go_wp2_with fail
  refine KX.out.mono ?_
  rintro r w1 ⟨rfl, hb1⟩
  have HB := Lib.hid hb1
  clear hb1 c0 c1 c2 c3 c4
  go_wp2_with fail
  go_ret
  exact ⟨by rw [HV.out]; rfl, HB.out⟩
set_option maxRecDepth 10000 in
set_option maxHeartbeats 4000000 in
theorem fld_3 {lo b o : Nat} {w : World} {g C : Nat} {L : Lv} (hk : Ck w g C L) (hl : L.length ≤ 4194304) {t : ByteArray} {n d : Int} {ks : List K} (h : KSpot lo w b o (.mk 3 t n d ks)) (ht : t.size ≤ 1048576) :
    Calls Tryz.prog 99 #[.pointer (some ⟨g, 0, none⟩), .pointer (some ⟨b, o, none⟩)] w fun r w' => r = .returned (.bool (fieldB C L 3 t n d)) ∧ Below w.heap.size w w' := by
  have HV : Hid (fieldB C L 3 t n d = Tok.sel t) := Lib.hid (by simp [fieldB])
  generalize fieldB C L 3 t n d = R at *
  obtain ⟨vk, c0, c1, c2, c3, c4, -⟩ := h
  simp only [K.kind, K.text, K.num, K.dep] at c0 c1 c2 c3
  have KX := Lib.hid (ImplCount.sel_any t w ht)
  have HCK := Lib.hid hk; clear hk
  generalize hB : Tok.sel t = B at *
  clear hB
  go_enter Tryz.func99, Tryz.ntmps99
  go_wp2_with fail
  refine KX.out.mono ?_
  rintro r w1 ⟨rfl, hb1⟩
  have HB := Lib.hid hb1
  clear hb1 c0 c1 c2 c3 c4
  go_wp2_with fail
  go_ret
  exact ⟨by rw [HV.out]; rfl, HB.out⟩
set_option maxRecDepth 10000 in
set_option maxHeartbeats 4000000 in
theorem fld_13 {lo b o : Nat} {w : World} {g C : Nat} {L : Lv} (hk : Ck w g C L) (hl : L.length ≤ 4194304) {t : ByteArray} {n d : Int} {ks : List K} (h : KSpot lo w b o (.mk 13 t n d ks)) (ht : t.size ≤ 1048576) :
    Calls Tryz.prog 99 #[.pointer (some ⟨g, 0, none⟩), .pointer (some ⟨b, o, none⟩)] w fun r w' => r = .returned (.bool (fieldB C L 13 t n d)) ∧ Below w.heap.size w w' := by
  have HV : Hid (fieldB C L 13 t n d = Tok.sel t) := Lib.hid (by simp [fieldB])
  generalize fieldB C L 13 t n d = R at *
  obtain ⟨vk, c0, c1, c2, c3, c4, -⟩ := h
  simp only [K.kind, K.text, K.num, K.dep] at c0 c1 c2 c3
  have KX := Lib.hid (ImplCount.sel_any t w ht)
  have HCK := Lib.hid hk; clear hk
  generalize hB : Tok.sel t = B at *
  clear hB
  go_enter Tryz.func99, Tryz.ntmps99
  go_wp2_with fail
  refine KX.out.mono ?_
  rintro r w1 ⟨rfl, hb1⟩
  have HB := Lib.hid hb1
  clear hb1 c0 c1 c2 c3 c4
  go_wp2_with fail
  go_ret
  exact ⟨by rw [HV.out]; rfl, HB.out⟩
set_option maxRecDepth 10000 in
set_option maxHeartbeats 4000000 in
theorem fld_8 {lo b o : Nat} {w : World} {g C : Nat} {L : Lv} (hk : Ck w g C L) (hl : L.length ≤ 4194304) {t : ByteArray} {n d : Int} {ks : List K} (h : KSpot lo w b o (.mk 8 t n d ks)) (ht : t.size ≤ 1048576) :
    Calls Tryz.prog 99 #[.pointer (some ⟨g, 0, none⟩), .pointer (some ⟨b, o, none⟩)] w fun r w' => r = .returned (.bool (fieldB C L 8 t n d)) ∧ Below w.heap.size w w' := by
  have HV : Hid (fieldB C L 8 t n d = slotB L d n) := Lib.hid (by simp [fieldB])
  generalize fieldB C L 8 t n d = R at *
  obtain ⟨vk, c0, c1, c2, c3, c4, -⟩ := h
  simp only [K.kind, K.text, K.num, K.dep] at c0 c1 c2 c3
  have KS := fun m => Lib.hid (slot_any (hk.below (draws_low w m)) hl d n)
  generalize slotB L d n = B at *
  have HCK := Lib.hid hk; clear hk
  go_enter Tryz.func99, Tryz.ntmps99
  go_wp2_with fail
  go_quiet ((go_at_call 110; exact Calls.quiet_of (KS _).out))
  go_wp2_with fail
  go_ret
  exact ⟨by rw [HV.out]; rfl, draws_low _ _⟩
set_option maxRecDepth 10000 in
set_option maxHeartbeats 4000000 in
theorem fld_9 {lo b o : Nat} {w : World} {g C : Nat} {L : Lv} (hk : Ck w g C L) (hl : L.length ≤ 4194304) {t : ByteArray} {n d : Int} {ks : List K} (h : KSpot lo w b o (.mk 9 t n d ks)) (ht : t.size ≤ 1048576) :
    Calls Tryz.prog 99 #[.pointer (some ⟨g, 0, none⟩), .pointer (some ⟨b, o, none⟩)] w fun r w' => r = .returned (.bool (fieldB C L 9 t n d)) ∧ Below w.heap.size w w' := by
  have HV : Hid (fieldB C L 9 t n d = varB L d n) := Lib.hid (by simp [fieldB])
  generalize fieldB C L 9 t n d = R at *
  obtain ⟨vk, c0, c1, c2, c3, c4, -⟩ := h
  simp only [K.kind, K.text, K.num, K.dep] at c0 c1 c2 c3
  have KS := fun m => Lib.hid (var_any (hk.below (draws_low w m)) hl d n)
  generalize varB L d n = B at *
  have HCK := Lib.hid hk; clear hk
  go_enter Tryz.func99, Tryz.ntmps99
  go_wp2_with fail
  go_quiet ((go_at_call 111; exact Calls.quiet_of (KS _).out))
  go_wp2_with fail
  go_ret
  exact ⟨by rw [HV.out]; rfl, draws_low _ _⟩
set_option maxRecDepth 10000 in
set_option maxHeartbeats 4000000 in
theorem fld_21 {lo b o : Nat} {w : World} {g C : Nat} {L : Lv} (hk : Ck w g C L) (hl : L.length ≤ 4194304) {t : ByteArray} {n d : Int} {ks : List K} (h : KSpot lo w b o (.mk 21 t n d ks)) (ht : t.size ≤ 1048576) :
    Calls Tryz.prog 99 #[.pointer (some ⟨g, 0, none⟩), .pointer (some ⟨b, o, none⟩)] w fun r w' => r = .returned (.bool (fieldB C L 21 t n d)) ∧ Below w.heap.size w w' := by
  have HV : Hid (fieldB C L 21 t n d = varB L d n) := Lib.hid (by simp [fieldB])
  generalize fieldB C L 21 t n d = R at *
  obtain ⟨vk, c0, c1, c2, c3, c4, -⟩ := h
  simp only [K.kind, K.text, K.num, K.dep] at c0 c1 c2 c3
  have KS := fun m => Lib.hid (var_any (hk.below (draws_low w m)) hl d n)
  generalize varB L d n = B at *
  have HCK := Lib.hid hk; clear hk
  go_enter Tryz.func99, Tryz.ntmps99
  go_wp2_with fail
  go_quiet ((go_at_call 111; exact Calls.quiet_of (KS _).out))
  go_wp2_with fail
  go_ret
  exact ⟨by rw [HV.out]; rfl, draws_low _ _⟩
set_option maxRecDepth 10000 in
set_option maxHeartbeats 4000000 in
theorem fld_10 {lo b o : Nat} {w : World} {g C : Nat} {L : Lv} (hk : Ck w g C L) (hl : L.length ≤ 4194304) {t : ByteArray} {n d : Int} {ks : List K} (h : KSpot lo w b o (.mk 10 t n d ks)) (ht : t.size ≤ 1048576) :
    Calls Tryz.prog 99 #[.pointer (some ⟨g, 0, none⟩), .pointer (some ⟨b, o, none⟩)] w fun r w' => r = .returned (.bool (fieldB C L 10 t n d)) ∧ Below w.heap.size w w' := by
  have HV : Hid (fieldB C L 10 t n d = Tok.isName t) := Lib.hid (by simp [fieldB])
  generalize fieldB C L 10 t n d = R at *
  obtain ⟨vk, c0, c1, c2, c3, c4, -⟩ := h
  simp only [K.kind, K.text, K.num, K.dep] at c0 c1 c2 c3
  have KX := Lib.hid (ImplTok.is_name t w)
  have HCK := Lib.hid hk; clear hk
  generalize hB : Tok.isName t = B at *
  clear hB
  go_enter Tryz.func99, Tryz.ntmps99
  go_wp2_with fail
  refine KX.out.mono ?_
  rintro r w1 ⟨rfl, hb1⟩
  have HB := Lib.hid hb1
  clear hb1 c0 c1 c2 c3 c4
  go_wp2_with fail
  go_ret
  exact ⟨by rw [HV.out]; rfl, HB.out⟩
set_option maxRecDepth 10000 in
set_option maxHeartbeats 4000000 in
theorem fld_11 {lo b o : Nat} {w : World} {g C : Nat} {L : Lv} (hk : Ck w g C L) (hl : L.length ≤ 4194304) {t : ByteArray} {n d : Int} {ks : List K} (h : KSpot lo w b o (.mk 11 t n d ks)) (ht : t.size ≤ 1048576) :
    Calls Tryz.prog 99 #[.pointer (some ⟨g, 0, none⟩), .pointer (some ⟨b, o, none⟩)] w fun r w' => r = .returned (.bool (fieldB C L 11 t n d)) ∧ Below w.heap.size w w' := by
  have HV : Hid (fieldB C L 11 t n d = Tok.isName t) := Lib.hid (by simp [fieldB])
  generalize fieldB C L 11 t n d = R at *
  obtain ⟨vk, c0, c1, c2, c3, c4, -⟩ := h
  simp only [K.kind, K.text, K.num, K.dep] at c0 c1 c2 c3
  have KX := Lib.hid (ImplTok.is_name t w)
  have HCK := Lib.hid hk; clear hk
  generalize hB : Tok.isName t = B at *
  clear hB
  go_enter Tryz.func99, Tryz.ntmps99
  go_wp2_with fail
  refine KX.out.mono ?_
  rintro r w1 ⟨rfl, hb1⟩
  have HB := Lib.hid hb1
  clear hb1 c0 c1 c2 c3 c4
  go_wp2_with fail
  go_ret
  exact ⟨by rw [HV.out]; rfl, HB.out⟩
set_option maxRecDepth 10000 in
set_option maxHeartbeats 4000000 in
theorem fld_12 {lo b o : Nat} {w : World} {g C : Nat} {L : Lv} (hk : Ck w g C L) (hl : L.length ≤ 4194304) {t : ByteArray} {n d : Int} {ks : List K} (h : KSpot lo w b o (.mk 12 t n d ks)) (ht : t.size ≤ 1048576) :
    Calls Tryz.prog 99 #[.pointer (some ⟨g, 0, none⟩), .pointer (some ⟨b, o, none⟩)] w fun r w' => r = .returned (.bool (fieldB C L 12 t n d)) ∧ Below w.heap.size w w' := by
  have HV : Hid (fieldB C L 12 t n d = clsB C n) := Lib.hid (by simp [fieldB])
  generalize fieldB C L 12 t n d = R at *
  obtain ⟨vk, c0, c1, c2, c3, c4, -⟩ := h
  simp only [K.kind, K.text, K.num, K.dep] at c0 c1 c2 c3
  have KX := Lib.hid (cls_any hk n)
  have HCK := Lib.hid hk; clear hk
  generalize clsB C n = B at *
  go_enter Tryz.func99, Tryz.ntmps99
  go_wp2_with fail
  refine KX.out.mono ?_
  rintro r w1 ⟨rfl, rfl⟩
  go_wp2_with fail
  go_ret
  exact ⟨by rw [HV.out]; rfl, Below.refl _ _⟩
set_option maxRecDepth 10000 in
set_option maxHeartbeats 4000000 in
theorem fld_14 {lo b o : Nat} {w : World} {g C : Nat} {L : Lv} (hk : Ck w g C L) (hl : L.length ≤ 4194304) {t : ByteArray} {n d : Int} {ks : List K} (h : KSpot lo w b o (.mk 14 t n d ks)) (ht : t.size ≤ 1048576) :
    Calls Tryz.prog 99 #[.pointer (some ⟨g, 0, none⟩), .pointer (some ⟨b, o, none⟩)] w fun r w' => r = .returned (.bool (fieldB C L 14 t n d)) ∧ Below w.heap.size w w' := by
  have HV : Hid (fieldB C L 14 t n d = (clsB C n && Tok.sel t)) := Lib.hid (by simp [fieldB])
  generalize fieldB C L 14 t n d = R at *
  obtain ⟨vk, c0, c1, c2, c3, c4, -⟩ := h
  simp only [K.kind, K.text, K.num, K.dep] at c0 c1 c2 c3
  have KX := Lib.hid (cls_any hk n)
  have KY := Lib.hid (ImplCount.sel_any t w ht)
  have HCK := Lib.hid hk; clear hk
  generalize clsB C n = B at *
  generalize Tok.sel t = S at *
  cases B with
  | false =>
    go_enter Tryz.func99, Tryz.ntmps99
    go_wp2_with fail
    refine KX.out.mono ?_
    rintro r w1 ⟨rfl, rfl⟩
    go_wp2_with fail
    go_ret
    exact ⟨by rw [HV.out]; rfl, Below.refl _ _⟩
  | true =>
    go_enter Tryz.func99, Tryz.ntmps99
    go_wp2_with fail
    refine KX.out.mono ?_
    rintro r w1 ⟨rfl, rfl⟩
    go_wp2_with fail
    refine KY.out.mono ?_
    rintro r w1 ⟨rfl, hb1⟩
    have HB := Lib.hid hb1
    clear hb1 c0 c1 c2 c3 c4
    go_wp2_with fail
    go_ret
    exact ⟨by rw [HV.out]; rfl, HB.out⟩
set_option maxRecDepth 10000 in
set_option maxHeartbeats 4000000 in
theorem fld_16 {lo b o : Nat} {w : World} {g C : Nat} {L : Lv} (hk : Ck w g C L) (hl : L.length ≤ 4194304) {t : ByteArray} {n d : Int} {ks : List K} (h : KSpot lo w b o (.mk 16 t n d ks)) (ht : t.size ≤ 1048576) :
    Calls Tryz.prog 99 #[.pointer (some ⟨g, 0, none⟩), .pointer (some ⟨b, o, none⟩)] w fun r w' => r = .returned (.bool (fieldB C L 16 t n d)) ∧ Below w.heap.size w w' := by
  have HV : Hid (fieldB C L 16 t n d = (decide (0 ≤ n) && decide (n ≤ d))) := Lib.hid (by simp [fieldB])
  generalize fieldB C L 16 t n d = R at *
  obtain ⟨vk, c0, c1, c2, c3, c4, -⟩ := h
  simp only [K.kind, K.text, K.num, K.dep] at c0 c1 c2 c3
  have HCK := Lib.hid hk; clear hk
  by_cases hn : 0 ≤ n
  case neg =>
    have hn3 : decide (0 ≤ n) = false := decide_eq_false hn
    go_enter Tryz.func99, Tryz.ntmps99
    go_wp2_with fail
    go_quiet (fail)
    go_wp2_with fail
    go_ret
    exact ⟨by rw [HV.out, hn3]; rfl, draws_low _ _⟩
  go_enter Tryz.func99, Tryz.ntmps99
  go_wp2_with fail
  go_quiet (fail)
  go_wp2_with fail
  go_ret
  exact ⟨by rw [HV.out, decide_eq_true hn]; rfl, draws_low _ _⟩
set_option maxRecDepth 10000 in
set_option maxHeartbeats 4000000 in
theorem fld_20 {lo b o : Nat} {w : World} {g C : Nat} {L : Lv} (hk : Ck w g C L) (hl : L.length ≤ 4194304) {t : ByteArray} {n d : Int} {ks : List K} (h : KSpot lo w b o (.mk 20 t n d ks)) (ht : t.size ≤ 1048576) :
    Calls Tryz.prog 99 #[.pointer (some ⟨g, 0, none⟩), .pointer (some ⟨b, o, none⟩)] w fun r w' => r = .returned (.bool (fieldB C L 20 t n d)) ∧ Below w.heap.size w w' := by
  have HV : Hid (fieldB C L 20 t n d = (decide (n = 0) || decide (n = 1))) := Lib.hid (by simp [fieldB])
  generalize fieldB C L 20 t n d = R at *
  obtain ⟨vk, c0, c1, c2, c3, c4, -⟩ := h
  simp only [K.kind, K.text, K.num, K.dep] at c0 c1 c2 c3
  have HCK := Lib.hid hk; clear hk
  have h3 : n = 0 ∨ n = 1 ∨ ((n == 0) = false ∧ (n == 1) = false) := by simp; omega
  rcases h3 with rfl | rfl | ⟨b0, b1⟩
  · skip
    go_enter Tryz.func99, Tryz.ntmps99
    go_wp2_with fail
    go_ret
    exact ⟨by rw [HV.out]; rfl, Below.refl _ _⟩
  · skip
    go_enter Tryz.func99, Tryz.ntmps99
    go_wp2_with fail
    go_ret
    exact ⟨by rw [HV.out]; rfl, Below.refl _ _⟩
  · have HV2 : Hid (R = false) := Lib.hid (by rw [HV.out]; simp at b0 b1; simp [b0, b1])
    go_enter Tryz.func99, Tryz.ntmps99
    go_wp2_with fail
    go_ret
    exact ⟨by rw [HV2.out]; rfl, Below.refl _ _⟩
set_option maxRecDepth 10000 in
set_option maxHeartbeats 4000000 in
theorem fld_other {lo b o : Nat} {w : World} {g C : Nat} {L : Lv} {k : Int} {t : ByteArray} {n d : Int} {ks : List K} (h : KSpot lo w b o (.mk k t n d ks)) (hk : k ≠ 1 ∧ k ≠ 2 ∧ k ≠ 3 ∧ k ≠ 8 ∧ k ≠ 9 ∧ k ≠ 10 ∧ k ≠ 11 ∧ k ≠ 12 ∧ k ≠ 13 ∧ k ≠ 14 ∧ k ≠ 16 ∧ k ≠ 20 ∧ k ≠ 21) :
    Calls Tryz.prog 99 #[.pointer (some ⟨g, 0, none⟩), .pointer (some ⟨b, o, none⟩)] w fun r w' => r = .returned (.bool (fieldB C L k t n d)) ∧ Below w.heap.size w w' := by
  have HV : Hid (fieldB C L k t n d = true) := Lib.hid (by unfold fieldB; rw [if_neg (by omega), if_neg (by omega), if_neg (by omega), if_neg (by omega), if_neg (by omega), if_neg (by omega), if_neg (by omega), if_neg (by omega), if_neg (by omega), if_neg (by omega)])
  generalize fieldB C L k t n d = R at *
  obtain ⟨vk, c0, c1, c2, c3, c4, -⟩ := h
  simp only [K.kind, K.text, K.num, K.dep] at c0 c1 c2 c3
  obtain ⟨h1, h2, h3, h8, h9, h10, h11, h12, h13, h14, h16, h20, h21⟩ := hk
  have b1 : (k == 1) = false := by rw [beq_eq_false_iff_ne]; exact h1
  have b2 : (k == 2) = false := by rw [beq_eq_false_iff_ne]; exact h2
  have b3 : (k == 3) = false := by rw [beq_eq_false_iff_ne]; exact h3
  have b8 : (k == 8) = false := by rw [beq_eq_false_iff_ne]; exact h8
  have b9 : (k == 9) = false := by rw [beq_eq_false_iff_ne]; exact h9
  have b10 : (k == 10) = false := by rw [beq_eq_false_iff_ne]; exact h10
  have b11 : (k == 11) = false := by rw [beq_eq_false_iff_ne]; exact h11
  have b12 : (k == 12) = false := by rw [beq_eq_false_iff_ne]; exact h12
  have b13 : (k == 13) = false := by rw [beq_eq_false_iff_ne]; exact h13
  have b14 : (k == 14) = false := by rw [beq_eq_false_iff_ne]; exact h14
  have b16 : (k == 16) = false := by rw [beq_eq_false_iff_ne]; exact h16
  have b20 : (k == 20) = false := by rw [beq_eq_false_iff_ne]; exact h20
  have b21 : (k == 21) = false := by rw [beq_eq_false_iff_ne]; exact h21
  clear h1 h2 h3 h8 h9 h10 h11 h12 h13 h14 h16 h20 h21
  go_enter Tryz.func99, Tryz.ntmps99
  go_wp2_with fail
  go_ret
  exact ⟨by rw [HV.out]; rfl, Below.refl _ _⟩
theorem fields_any {lo b o : Nat} {w : World} {g C : Nat} {L : Lv} (hk : Ck w g C L) (hl : L.length ≤ 4194304) {e : K} (h : KSpot lo w b o e) (ht : e.text.size ≤ 1048576) :
    Calls Tryz.prog 99 #[.pointer (some ⟨g, 0, none⟩), .pointer (some ⟨b, o, none⟩)] w fun r w' => r = .returned (.bool (fieldB C L e.kind e.text e.num e.dep)) ∧ Below w.heap.size w w' := by
  obtain ⟨k, t, n, d, ks⟩ := e
  simp only [K.text] at ht
  show Calls Tryz.prog _ _ w fun r w' => r = .returned (.bool (fieldB C L k t n d)) ∧ Below w.heap.size w w'
  by_cases h1 : k = 1
  · subst h1; exact fld_1 hk hl h ht
  by_cases h2 : k = 2
  · subst h2; exact fld_2 hk hl h ht
  by_cases h3 : k = 3
  · subst h3; exact fld_3 hk hl h ht
  by_cases h8 : k = 8
  · subst h8; exact fld_8 hk hl h ht
  by_cases h9 : k = 9
  · subst h9; exact fld_9 hk hl h ht
  by_cases h10 : k = 10
  · subst h10; exact fld_10 hk hl h ht
  by_cases h11 : k = 11
  · subst h11; exact fld_11 hk hl h ht
  by_cases h12 : k = 12
  · subst h12; exact fld_12 hk hl h ht
  by_cases h13 : k = 13
  · subst h13; exact fld_13 hk hl h ht
  by_cases h14 : k = 14
  · subst h14; exact fld_14 hk hl h ht
  by_cases h16 : k = 16
  · subst h16; exact fld_16 hk hl h ht
  by_cases h20 : k = 20
  · subst h20; exact fld_20 hk hl h ht
  by_cases h21 : k = 21
  · subst h21; exact fld_21 hk hl h ht
  exact fld_other h ⟨h1, h2, h3, h8, h9, h10, h11, h12, h13, h14, h16, h20, h21⟩
end Go.Proofs.YtekeondbbikkpaaGreat.ImplCore
