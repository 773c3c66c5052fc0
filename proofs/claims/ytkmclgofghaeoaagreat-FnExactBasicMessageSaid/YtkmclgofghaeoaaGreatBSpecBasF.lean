/-
  The model's BasicMessage.
  The model's BasicMessage, whole.
-/
import Derived.Test.YtkmclgofghaeoaaGreatBSpecBasD
import Derived.Test.YtkmclgofghaeoaaGreatBStoAll
import Derived.Deep.QuietTactic
import Derived.BigQuiet
namespace Go.Proofs.YtkmclgofghaeoaaGreat.SpecBas
open Go.RowKit
open Strs Sto Bas Go.Proofs.YtkmclgofghaeoaaGreat.Data
set_option linter.unusedVariables false
set_option maxHeartbeats 4000000 in
theorem args_any (sel : ByteArray) (args : List V) (s : Value) (lo : Nat) (w : World) (hs : VsAt lo w s args) (hsz : ∀ x, x ∈ args → x.text.size ≤ 1048576) (hl : sel.size ≤ 1048576) :
    Calls Tryz.prog 13 #[.string sel, s] w fun e w' => e = .returned (.bool (decide (Tok.countArgs sel = (args.length : Int)) && args.all valB)) ∧ Below w.heap.size w w' := by
  have KC := Lib.hid (SpecSel.count_any sel w hl)
  have KV := fun (w' : World) (x : V) (hx : x ∈ args) => Lib.hid (SpecSto.val_any x w' (hsz x hx))
  have HS := Lib.hid hs
  obtain ⟨a, c, rfl, hm, -⟩ := hs
  unfold maxLen at hm
  clear hsz
  generalize hNf : args.length = N at *
  have HN := Lib.hid hNf
  clear hNf
  generalize Tok.countArgs sel = m at *
  by_cases hmn : m = (N : Int)
  case neg =>
    have g := (SpecSto.eq_no hmn).2
    rw [decide_eq_false hmn, Bool.false_and]
    clear hmn KV HS
    go_enter Tryz.func13, Tryz.ntmps13
    go_wp2_with fail
    refine KC.out.mono ?_
    rintro e w1 ⟨rfl, hb1⟩
    have HB := Lib.hid hb1
    clear hb1 KC
    go_wp2_with fail
    go_ret
    exact ⟨rfl, HB.out⟩
  have g := (SpecSto.eq_yes hmn).2
  rw [decide_eq_true hmn, Bool.true_and]
  clear hmn
  have HV : Hid (args.all valB = args.all valB) := Lib.hid rfl
  generalize hR : args.all valB = R at HV ⊢
  have HR := Lib.hid hR
  clear hR HV
  go_enter Tryz.func13, Tryz.ntmps13
  go_wp2_with fail
  refine KC.out.mono ?_
  rintro e w1 ⟨rfl, hb1⟩
  have HB := Lib.hid hb1
  clear hb1 KC
  go_wp2_with fail
  go_loopw [5] (fun j wr => ∃ i : Nat, i ≤ N ∧ j = .int .i64 i ∧ Hid ((args.take i).all valB = true) ∧ Hid (Below w.heap.size w wr)) (fun j _ => N - (intOf j).toNat)
  case atStart => exact ⟨0, by omega, rfl, Lib.hid rfl, HB⟩
  case round =>
    obtain ⟨i, hi, rfl, HQ, HBW⟩ := hrel
    by_cases hlt : i < N
    · have hil : i < args.length := by rw [HN.out]; exact hlt
      obtain ⟨v, hv⟩ : ∃ v, args[i]? = some v := ⟨_, List.getElem?_eq_getElem hil⟩
      have K := KV wr v (List.mem_of_getElem? hv)
      obtain ⟨fb, fo, rfl, -, m0, m1, m2, -⟩ := (HS.out.below HBW.out).at hv
      have HNO : Hid (valB v = false → R = false) := Lib.hid fun hh => by rw [← HR.out, all_no hv hh]
      have HYES : Hid (valB v = true → (args.take (i + 1)).all valB = true) := Lib.hid fun hh => all_take HQ.out hv hh
      clear hv
      generalize valB v = B at *
      obtain ⟨vk, vm, vt⟩ := v
      simp only at m0 m1 m2 K
      have hiI : (i : Int) < (N : Int) := by omega
      cases B with
      | false =>
        have hRf := HNO.out rfl
        subst hRf
        clear HNO HYES HR HQ
        go_wp2_with fail
        refine K.out.mono ?_
        rintro e w2 ⟨rfl, hb2⟩
        have H2 := Lib.hid (HBW.out.trans (hb2.mono HBW.out.size)); clear hb2 m0 m1 m2
        go_wp2_with fail
        go_ret
        exact ⟨rfl, H2.out⟩
      | true =>
        have HNEW := Lib.hid (HYES.out rfl)
        clear HNO HYES HQ
        go_wp2_with fail
        refine K.out.mono ?_
        rintro e w2 ⟨rfl, hb2⟩
        have H2 := Lib.hid (HBW.out.trans (hb2.mono HBW.out.size)); clear hb2 m0 m1 m2
        go_wp2_with fail
        go_roundw
        case rel => exact ⟨i + 1, by omega, by go_num, HNEW, H2⟩
        case measure => simp [intOf]; omega
    have hall : args.all valB = true := all_end HQ.out (by rw [HN.out]; omega)
    have hRt : R = true := by rw [← HR.out, hall]
    subst hRt
    clear hall HQ KV HS HR
    go_wp2_with fail
    go_ret
    exact ⟨rfl, HBW.out⟩
theorem has_of {xs : List ByteArray} {s : ByteArray} (h : s ∈ xs) : Tok.has xs s = true := by
  unfold Tok.has; rw [List.any_eq_true]; exact ⟨s, h, beq_self_eq_true _⟩
theorem count_bin {s : ByteArray} {n : Nat} (h : s ∈ Tok.binaries) (hc : Tok.countArgs s = (n : Int)) : n = 1 := by
  unfold Tok.countArgs Tok.sel at hc
  rw [has_of h] at hc
  simp at hc
  omega
theorem count_two {s : ByteArray} {n : Nat} (hp : (Cuts.parts s 58).length = 2) (hc : Tok.countArgs s = (n : Int)) : n = 1 := by
  unfold Tok.countArgs at hc
  rw [hp] at hc
  split at hc
  · split at hc
    · omega
    · omega
  · omega
theorem count_eleven {s : ByteArray} {n : Nat} (h : Tok.has eleven s = true) (hc : Tok.countArgs s = (n : Int)) : n = 1 := by
  have hm := has_mem h
  unfold eleven at hm
  simp only [List.mem_cons, List.not_mem_nil, or_false] at hm
  rcases hm with rfl | rfl | rfl | rfl | rfl | rfl | rfl | rfl | rfl | rfl | rfl
  all_goals first | (refine count_two ?_ hc; decide) | (refine count_bin ?_ hc; unfold Tok.binaries; simp)
set_option maxHeartbeats 4000000 in
theorem apply_any (v : V) (sel : ByteArray) (args : List V) (s : Value) (lo : Nat) (w : World) (hv : valB v = true) (hs : VsAt lo w s args) (ha : args.all valB = true) (hc : Tok.countArgs sel = (args.length : Int)) :
    Calls Tryz.prog 15 #[.agg #[.int .i64 v.kind, .int .i64 v.num, .string v.text], .string sel, s] w fun e w' => e = .returned (act v sel (headV args)).val ∧ Below w.heap.size w w' := by
  have BX := Lib.hid ((rb_new (w.alloc (.cells #[.int .i64 v.kind, .int .i64 v.num, .string v.text] 27)) 29))
  have hb0 : Below w.heap.size w (w.alloc (.cells #[.int .i64 v.kind, .int .i64 v.num, .string v.text] 27)) := (Below.refl _ _).alloc (Nat.le_refl _) _
  have BX : Hid (RB w (w.heap.size + 1) ((w.alloc (.cells #[.int .i64 v.kind, .int .i64 v.num, .string v.text] 27)).alloc (.cells #[.int .i64 0, .int .i64 0, .int .i64 0, .string ⟨#[]⟩, .string ⟨#[]⟩] 29))) := Lib.hid (by
    have h := BX.out
    rw [show (w.alloc (.cells #[.int .i64 v.kind, .int .i64 v.num, .string v.text] 27)).heap.size = w.heap.size + 1 by simp] at h
    exact ⟨hb0.trans (h.below.mono hb0.size), by omega, h.lt, h.a0, h.a1, h.a2, h.a3, h.a4, h.fz⟩)
  have HS := fun (w' : World) (hb : Below w.heap.size w w') => hs.below hb
  have KB := fun (w' : World) (b : Bool) (hb : Below w.heap.size w w') (hk : v.kind = 1) (hbb : b = decide (v.num = 1)) => Lib.hid (bool_any v b sel args s lo w' hk hv hbb (HS w' hb) ha (fun e => by rw [e] at hc; exact count_bin (by unfold Tok.binaries; simp) hc))
  have KI := fun (w' : World) (hb : Below w.heap.size w w') (hk : v.kind = 2) => Lib.hid (int_any v sel args s lo w' hk hv (HS w' hb) ha (fun e => count_eleven e hc))
  have KT := fun (w' : World) (hb : Below w.heap.size w w') (hk : v.kind = 3) => Lib.hid (text_any v sel args s lo w' hk hv (HS w' hb) ha (fun e => by
    rcases e with e | e | e
    · rw [e] at hc; exact count_bin (by unfold Tok.binaries; simp) hc
    · rw [e] at hc; exact count_bin (by unfold Tok.binaries; simp) hc
    · rw [e] at hc; exact count_two (by decide) hc))
  clear hb0 HS hs ha hc
  have hcell := BX.out.below
  by_cases hk1 : v.kind = 1
  · have z1 := (SpecSto.eq_yes hk1).1
    have K := fun (w' : World) (hb : Below w.heap.size w w') => KB w' (v.num == 1) hb hk1 (by rw [Bool.eq_iff_iff]; simp)
    clear KB KI KT hk1 hcell
    generalize act v sel (headV args) = r at *
    go_enter Tryz.func15, Tryz.ntmps15
    go_wp2_with fail
    refine ((K _ BX.out.below).out).mono ?_
    rintro e w1 ⟨rfl, hb1⟩
    have BX1 := Lib.hid (BX.out.step hb1)
    clear hb1 BX
    clear K
    obtain ⟨hB, hge, hlt, a0, a1, a2, a3, a4, fz⟩ := BX1.out
    unfold R.val
    go_wp2_with fail
    exact bodyPost_ret (v := (r).val) (by simp [results, Tryz.results15, go_sem, *]; try rfl) rfl ⟨rfl, BX1.out.put _ _ _ _ _⟩
  have z1 := (SpecSto.eq_no hk1).1
  by_cases hk2 : v.kind = 2
  · have z2 := (SpecSto.eq_yes hk2).1
    have K := fun (w' : World) (hb : Below w.heap.size w w') => KI w' hb hk2
    clear KB KI KT hk1 hk2 hcell
    generalize act v sel (headV args) = r at *
    go_enter Tryz.func15, Tryz.ntmps15
    go_wp2_with fail
    refine ((K _ BX.out.below).out).mono ?_
    rintro e w1 ⟨rfl, hb1⟩
    have BX1 := Lib.hid (BX.out.step hb1)
    clear hb1 BX
    clear K
    obtain ⟨hB, hge, hlt, a0, a1, a2, a3, a4, fz⟩ := BX1.out
    unfold R.val
    go_wp2_with fail
    exact bodyPost_ret (v := (r).val) (by simp [results, Tryz.results15, go_sem, *]; try rfl) rfl ⟨rfl, BX1.out.put _ _ _ _ _⟩
  have z2 := (SpecSto.eq_no hk2).1
  by_cases hk3 : v.kind = 3
  · have z3 := (SpecSto.eq_yes hk3).1
    have K := fun (w' : World) (hb : Below w.heap.size w w') => KT w' hb hk3
    clear KB KI KT hk1 hk2 hk3 hcell
    generalize act v sel (headV args) = r at *
    go_enter Tryz.func15, Tryz.ntmps15
    go_wp2_with fail
    refine ((K _ BX.out.below).out).mono ?_
    rintro e w1 ⟨rfl, hb1⟩
    have BX1 := Lib.hid (BX.out.step hb1)
    clear hb1 BX
    clear K
    obtain ⟨hB, hge, hlt, a0, a1, a2, a3, a4, fz⟩ := BX1.out
    unfold R.val
    go_wp2_with fail
    exact bodyPost_ret (v := (r).val) (by simp [results, Tryz.results15, go_sem, *]; try rfl) rfl ⟨rfl, BX1.out.put _ _ _ _ _⟩
  have z3 := (SpecSto.eq_no hk3).1
  clear KB KI KT
  by_cases hk4 : v.kind = 4
  · have z4 := (SpecSto.eq_yes hk4).1
    have hop : opsOf v.kind = symOps := by rw [hk4]; rfl
    by_cases hn : sel = ⟨#[97, 115, 83, 116, 114, 105, 110, 103]⟩
    · have g := lit_eq (l := [97, 115, 83, 116, 114, 105, 110, 103]) hn
      rw [act_does (e := ⟨⟨#[97, 115, 83, 116, 114, 105, 110, 103]⟩, 0, fun v _ => doneR (textV v.text)⟩) (by rw [hop, hn]; rfl) (.inl rfl)]
      show Calls _ _ _ _ (fun e w' => e = .returned (doneR (textV v.text)).val ∧ Below w.heap.size w w')
      clear hk1 hk2 hk3 hk4 hop hn hcell
      go_enter Tryz.func15, Tryz.ntmps15
      go_wp2_with fail
      refine (text_is _ _).mono ?_
      rintro e w1 ⟨rfl, hb1⟩
      have BX1 := Lib.hid (BX.out.step hb1)
      clear hb1 BX
      go_wp2_with fail
      refine (done_is _ _).mono ?_
      rintro e w2 ⟨rfl, hb2⟩
      have BX2 := Lib.hid (BX1.out.step hb2)
      clear hb2 BX1
      obtain ⟨hB, hge, hlt, a0, a1, a2, a3, a4, fz⟩ := BX2.out
      unfold R.val
      go_wp2_with fail
      exact bodyPost_ret (v := (doneR (textV v.text)).val) (by simp [results, Tryz.results15, go_sem, *]; try rfl) rfl ⟨rfl, BX2.out.put _ _ _ _ _⟩
    · have g := lit_ne (l := [97, 115, 83, 116, 114, 105, 110, 103]) hn
      rw [act_none (by
        rw [hop]
        refine seek_no fun e he => ?_
        unfold symOps at he
        simp only [List.mem_cons, List.not_mem_nil, or_false] at he
        rw [he]; exact hn)]
      clear hk1 hk2 hk3 hk4 hop hn hcell
      go_enter Tryz.func15, Tryz.ntmps15
      go_wp2_with fail
      refine (miss_is _).mono ?_
      rintro e w1 ⟨rfl, hb1⟩
      have BX1 := Lib.hid (BX.out.step hb1)
      clear hb1 BX
      obtain ⟨hB, hge, hlt, a0, a1, a2, a3, a4, fz⟩ := BX1.out
      unfold R.val
      go_wp2_with fail
      exact bodyPost_ret (v := (missR).val) (by simp [results, Tryz.results15, go_sem, *]; try rfl) rfl ⟨rfl, BX1.out.put _ _ _ _ _⟩
  have z4 := (SpecSto.eq_no hk4).1
  rw [act_none (by unfold opsOf; rw [if_neg hk1, if_neg hk2, if_neg hk3, if_neg hk4]; rfl)]
  clear hk1 hk2 hk3 hk4 hcell
  go_enter Tryz.func15, Tryz.ntmps15
  go_wp2_with fail
  refine (miss_is _).mono ?_
  rintro e w1 ⟨rfl, hb1⟩
  have BX1 := Lib.hid (BX.out.step hb1)
  clear hb1 BX
  obtain ⟨hB, hge, hlt, a0, a1, a2, a3, a4, fz⟩ := BX1.out
  unfold R.val
  go_wp2_with fail
  exact bodyPost_ret (v := (missR).val) (by simp [results, Tryz.results15, go_sem, *]; try rfl) rfl ⟨rfl, BX1.out.put _ _ _ _ _⟩
end Go.Proofs.YtkmclgofghaeoaaGreat.SpecBas

namespace Go.Proofs.YtkmclgofghaeoaaGreat.SpecBas
open Go.RowKit
open Strs Sto Bas Go.Proofs.YtkmclgofghaeoaaGreat.Data
set_option linter.unusedVariables false
set_option maxHeartbeats 4000000 in
theorem msg_any (v : V) (sel : ByteArray) (args : List V) (s : Value) (lo : Nat) (w : World) (hs : VsAt lo w s args) (ht : v.text.size ≤ 1048576) (hsz : ∀ x, x ∈ args → x.text.size ≤ 1048576) (hl : sel.size ≤ 1048576) :
    Calls Tryz.prog 6 #[.agg #[.int .i64 v.kind, .int .i64 v.num, .string v.text], .string sel, s] w fun e w' => e = .returned (answer v sel args).val ∧ Below w.heap.size w w' := by
  have BX := Lib.hid (rb_two (w := w) v 27 29)
  have VX := Lib.hid (vb_two (w := w) v 27 (.cells #[.int .i64 0, .int .i64 0, .int .i64 0, .string ⟨#[]⟩, .string ⟨#[]⟩] 29))
  have KV := fun w' => Lib.hid (SpecSto.val_any v w' ht)
  have KA := fun (w' : World) (hb : Below w.heap.size w w') => Lib.hid (args_any sel args s lo w' (hs.below hb) hsz hl)
  have KP := fun (w' : World) (hb : Below w.heap.size w w') (hv : valB v = true) (ha : args.all valB = true) (hc : Tok.countArgs sel = (args.length : Int)) => Lib.hid (apply_any v sel args s lo w' hv (hs.below hb) ha hc)
  have HA : Hid (answer v sel args = if valB v && (decide (Tok.countArgs sel = (args.length : Int)) && args.all valB) then act v sel (headV args) else missR) := Lib.hid rfl
  have HK : Hid (¬ v.kind ≤ 4 → act v sel (headV args) = missR) := Lib.hid fun h => act_none (by unfold opsOf; rw [if_neg (by omega), if_neg (by omega), if_neg (by omega), if_neg (by omega)]; rfl)
  have HQ : Hid ((decide (Tok.countArgs sel = (args.length : Int)) && args.all valB) = true → Tok.countArgs sel = (args.length : Int) ∧ args.all valB = true) := Lib.hid fun h => by rw [Bool.and_eq_true, decide_eq_true_eq] at h; exact h
  generalize (decide (Tok.countArgs sel = (args.length : Int)) && args.all valB) = A at *
  generalize answer v sel args = r at *
  have hbase := BX.out.below
  clear hsz hs
  cases hv : valB v with
  | false =>
    have hr : r = missR := by rw [HA.out, hv]; rfl
    rw [hr]
    rw [hv] at KV
    clear HA HK HQ KA KP hv hbase hr VX
    go_enter Tryz.func6, Tryz.ntmps6
    go_wp2_with fail
    refine ((KV _).out).mono ?_
    rintro e w1 ⟨rfl, hb1⟩
    have BX1 := Lib.hid (BX.out.step hb1)
    clear hb1 BX
    go_wp2_with fail
    refine (miss_is _).mono ?_
    rintro e w2 ⟨rfl, hb2⟩
    have BX2 := Lib.hid (BX1.out.step hb2)
    clear hb2 BX1
    clear KV
    obtain ⟨hB, hge, hlt, a0, a1, a2, a3, a4, fz⟩ := BX2.out
    unfold R.val
    go_wp2_with fail
    exact bodyPost_ret (v := (missR).val) (by simp [results, Tryz.results6, go_sem, *]; try rfl) rfl ⟨rfl, BX2.out.put _ _ _ _ _⟩
  | true =>
    rw [hv] at KV
    by_cases hk : v.kind ≤ 4
    case neg =>
      have hkI : (4 : Int) < v.kind := by omega
      have hr : r = missR := by
        rw [HA.out, HK.out hk]; split <;> rfl
      rw [hr]
      clear HA HK HQ KA KP hv hbase hr hk
      go_enter Tryz.func6, Tryz.ntmps6
      go_wp2_with fail
      refine (KV _).out.mono ?_
      rintro e w1 ⟨rfl, hb1⟩
      have BX1 := Lib.hid (BX.out.step hb1)
      obtain ⟨v0, v1, v2⟩ := VX.out.step hb1
      clear hb1 BX VX KV
      go_wp2_with fail
      refine (miss_is _).mono ?_
      rintro e w2 ⟨rfl, hb2⟩
      have BX2 := Lib.hid (BX1.out.step hb2)
      clear hb2 BX1 v0 v1 v2
      obtain ⟨hB, hge, hlt, a0, a1, a2, a3, a4, fz⟩ := BX2.out
      unfold R.val
      go_wp2_with fail
      exact bodyPost_ret (v := missR.val) (by simp [results, Tryz.results6, go_sem, *]; try rfl) rfl ⟨rfl, BX2.out.put _ _ _ _ _⟩
    have hkI : ¬ (4 : Int) < v.kind := by omega
    cases A with
    | false =>
      have hr : r = missR := by rw [HA.out, hv]; rfl
      rw [hr]
      clear HA HK HQ KP hv hbase hr hk
      go_enter Tryz.func6, Tryz.ntmps6
      go_wp2_with fail
      refine (KV _).out.mono ?_
      rintro e w1 ⟨rfl, hb1⟩
      have BX1 := Lib.hid (BX.out.step hb1)
      obtain ⟨v0, v1, v2⟩ := VX.out.step hb1
      have K := KA w1 BX1.out.below
      clear hb1 BX VX KV KA
      go_wp2_with fail
      refine K.out.mono ?_
      rintro e w2 ⟨rfl, hb2⟩
      have BX2 := Lib.hid (BX1.out.step hb2)
      clear hb2 BX1 v0 v1 v2 K
      go_wp2_with fail
      refine (miss_is _).mono ?_
      rintro e w3 ⟨rfl, hb3⟩
      have BX3 := Lib.hid (BX2.out.step hb3)
      clear hb3 BX2
      obtain ⟨hB, hge, hlt, a0, a1, a2, a3, a4, fz⟩ := BX3.out
      unfold R.val
      go_wp2_with fail
      exact bodyPost_ret (v := missR.val) (by simp [results, Tryz.results6, go_sem, *]; try rfl) rfl ⟨rfl, BX3.out.put _ _ _ _ _⟩
    | true =>
      have hr : r = act v sel (headV args) := by rw [HA.out, hv]; rfl
      obtain ⟨hc, ha⟩ := HQ.out rfl
      rw [hr]
      have KP2 := fun (w' : World) (hb : Below w.heap.size w w') => KP w' hb hv ha hc
      clear HA HK HQ KP hv hbase hr hk hc ha
      generalize act v sel (headV args) = q at *
      go_enter Tryz.func6, Tryz.ntmps6
      go_wp2_with fail
      refine (KV _).out.mono ?_
      rintro e w1 ⟨rfl, hb1⟩
      have BX1 := Lib.hid (BX.out.step hb1)
      have VX1 := Lib.hid (VX.out.step hb1)
      obtain ⟨v0, v1, v2⟩ := VX.out.step hb1
      have K := KA w1 BX1.out.below
      clear hb1 BX VX KV KA
      go_wp2_with fail
      refine K.out.mono ?_
      rintro e w2 ⟨rfl, hb2⟩
      have BX2 := Lib.hid (BX1.out.step hb2)
      have K2 := KP2 w2 BX2.out.below
      clear v0 v1 v2
      obtain ⟨v0, v1, v2⟩ := VX1.out.step hb2
      clear hb2 BX1 K KP2 VX1
      go_wp2_with fail
      refine K2.out.mono ?_
      rintro e w3 ⟨rfl, hb3⟩
      have BX3 := Lib.hid (BX2.out.step hb3)
      clear hb3 BX2 v0 v1 v2 K2
      obtain ⟨hB, hge, hlt, a0, a1, a2, a3, a4, fz⟩ := BX3.out
      unfold R.val
      go_wp2_with fail
      exact bodyPost_ret (v := q.val) (by simp [results, Tryz.results6, go_sem, *]; try rfl) rfl ⟨rfl, BX3.out.put _ _ _ _ _⟩
end Go.Proofs.YtkmclgofghaeoaaGreat.SpecBas
