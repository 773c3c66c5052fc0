/-
  impl's BasicMessage.
-/
import Derived.Test.YtkmclgofghaeoaaBImplBasD
import Derived.Test.YtkmclgofghaeoaaBImplCount
import Derived.Deep.Cut
namespace Go.Proofs.Ytkmclgofghaeoaa.ImplBas
open Go.RowKit
open Strs Sto Bas SpecBas Chk Go.Proofs.Ytkmclgofghaeoaa.Data
set_option linter.unusedVariables false
theorem head_val {args : List V} (h : args.all valB = true) : valB (headV args) = true := by
  cases args with
  | nil => rfl
  | cons x xs =>
    rw [List.all_cons, Bool.and_eq_true] at h
    exact h.1
theorem tab_seek (k : Int) (s : ByteArray) : (seekE (opsOf k) s = none ∧ mpOf (tabOf k) s = none) ∨ ∃ p, seekE (opsOf k) s = some p.1 ∧ mpOf (tabOf k) s = some (opVal p.1.needs p.2) ∧ Does k p := by
  rw [← tab_ops k, seek_seek, mp_seek]
  cases h : seekT (tabOf k) s with
  | none => exact .inl ⟨rfl, rfl⟩
  | some p => exact .inr ⟨p, rfl, rfl, tab_do k p (seek_mem h)⟩
theorem rb_but {w0 wx w' : World} {g X : Nat} (h : RB w0 g wx) (hb : But X wx w') (hx : g ≠ X) (hl : w0.heap.size ≤ X) : RB w0 g w' :=
  ⟨h.below.trans (hb.below hl h.below.size), h.ge, Nat.lt_of_lt_of_le h.lt hb.size, hb.cell hx h.a0, hb.cell hx h.a1, hb.cell hx h.a2, hb.cell hx h.a3, hb.cell hx h.a4, fun o => (hb.frozen hx h.lt).trans (h.fz o)⟩
theorem vb_but {wx w' : World} {g X : Nat} {v : V} (h : VB g v wx) (hb : But X wx w') (hx : g ≠ X) : VB g v w' :=
  ⟨hb.cell hx h.a0, hb.cell hx h.a1, hb.cell hx h.a2⟩
structure OB (g : Nat) (n : Int) (f : FuncId) (wx : World) : Prop where
  a0 : wx.cell? ⟨g, 0, none⟩ = some (.int .i64 n)
  a1 : wx.cell? ⟨g, 1, none⟩ = some (.func (.func f) #[] #[])
theorem OB.step {wx w' : World} {g : Nat} {n : Int} {f : FuncId} (h : OB g n f wx) (hb : Below wx.heap.size wx w') : OB g n f w' := ⟨cell_keep hb h.a0, cell_keep hb h.a1⟩
theorem ob_but {wx w' : World} {g X : Nat} {n : Int} {f : FuncId} (h : OB g n f wx) (hb : But X wx w') (hx : g ≠ X) : OB g n f w' := ⟨hb.cell hx h.a0, hb.cell hx h.a1⟩
theorem ob_new (w : World) (n : Int) (f : FuncId) (T : TypeId) : OB w.heap.size n f (w.alloc (.cells #[.int .i64 n, .func (.func f) #[] #[]] T)) := ⟨by go_simp, by go_simp⟩
theorem but_three (w : World) (X : Nat) (a b c : Value) : But X w (((w.setCell ⟨X, 0, none⟩ a).setCell ⟨X, 1, none⟩ b).setCell ⟨X, 2, none⟩ c) :=
  ((but_set w X 0 a).trans (but_set _ X 1 b)).trans (but_set _ X 2 c)
set_option maxRecDepth 10000 in
set_option maxHeartbeats 16000000 in
theorem msg_any (v : V) (sel : ByteArray) (args : List V) (s : Value) (lo : Nat) (w : World) (hs : VsAt lo w s args) (ht : v.text.size ≤ 1048576) (hsz : ∀ x, x ∈ args → x.text.size ≤ 1048576) (hl : sel.size ≤ 1048576) :
    Calls Try.prog 8 #[.agg #[.int .i64 v.kind, .int .i64 v.num, .string v.text], .string sel, s] w fun e w' => e = .returned (answer v sel args).val ∧ Below w.heap.size w w' := by
  have BX := Lib.hid (rb_two (w := w) v 25 31)
  have VX := Lib.hid (vb_two (w := w) v 25 (.cells #[.int .i64 0, .int .i64 0, .int .i64 0, .string ⟨#[]⟩, .string ⟨#[]⟩] 31))
  have KV := fun w' => Lib.hid (ImplSto.val_any v w' ht)
  have KC := fun w' => Lib.hid (ImplCount.count_any sel w' hl)
  have KA := fun (w' : World) (hb : Below w.heap.size w w') => Lib.hid (list_any args s lo w' (hs.below hb) hsz)
  have HS := Lib.hid hs
  obtain ⟨a, c, rfl, hm, -⟩ := hs
  unfold maxLen at hm
  have HA : Hid (answer v sel args = if valB v && (decide (Tok.countArgs sel = (args.length : Int)) && args.all valB) then act v sel (headV args) else missR) := Lib.hid rfl
  clear hsz
  generalize hr : answer v sel args = r at *
  clear hr
  cases hv : valB v with
  | false =>
    have hrr : r = missR := by rw [HA.out, hv]; rfl
    subst hrr
    rw [hv] at KV
    clear HA KC KA HS hv VX
    go_enter Try.func8, Try.ntmps8
    go_wp2_with fail
    refine (KV _).out.mono ?_
    rintro e w1 ⟨rfl, hb1⟩
    have BX1 := Lib.hid (BX.out.step hb1)
    clear hb1 BX KV
    obtain ⟨hB, hge, hlt, a0, a1, a2, a3, a4, fz⟩ := BX1.out
    go_wp2_with fail
    exact bodyPost_ret (v := missR.val) (by simp [results, Try.results8, go_sem, *]; try rfl) rfl ⟨rfl, BX1.out.put _ _ _ _ _⟩
  | true =>
  rw [hv] at KV
  by_cases hc : Tok.countArgs sel = (args.length : Int)
  case neg =>
    have hrr : r = missR := by rw [HA.out, hv, decide_eq_false hc]; rfl
    subst hrr
    have z := (SpecBas.eq_no hc).2
    generalize Tok.countArgs sel = m at *
    generalize args.length = N at *
    clear HA KA HS hv VX hc
    go_enter Try.func8, Try.ntmps8
    go_wp2_with fail
    refine (KV _).out.mono ?_
    rintro e w1 ⟨rfl, hb1⟩
    have BX1 := Lib.hid (BX.out.step hb1)
    clear hb1 BX KV
    go_wp2_with fail
    refine (KC _).out.mono ?_
    rintro e w2 ⟨rfl, hb2⟩
    have BX2 := Lib.hid (BX1.out.step hb2)
    clear hb2 BX1 KC
    obtain ⟨hB, hge, hlt, a0, a1, a2, a3, a4, fz⟩ := BX2.out
    go_wp2_with fail
    exact bodyPost_ret (v := missR.val) (by simp [results, Try.results8, go_sem, *]; try rfl) rfl ⟨rfl, BX2.out.put _ _ _ _ _⟩
  have z := (SpecBas.eq_yes hc).2
  have HA2 : Hid (r = if args.all valB then act v sel (headV args) else missR) := Lib.hid (by rw [HA.out, hv, decide_eq_true hc]; rfl)
  clear HA
  generalize Tok.countArgs sel = m at *
  cases ha : args.all valB with
  | false =>
    have hrr : r = missR := by rw [HA2.out, ha]; rfl
    subst hrr
    rw [ha] at KA
    generalize args.length = N at *
    clear HA2 HS hv VX hc ha
    go_enter Try.func8, Try.ntmps8
    go_wp2_with fail
    refine (KV _).out.mono ?_
    rintro e w1 ⟨rfl, hb1⟩
    have BX1 := Lib.hid (BX.out.step hb1)
    clear hb1 BX KV
    go_wp2_with fail
    refine (KC _).out.mono ?_
    rintro e w2 ⟨rfl, hb2⟩
    have BX2 := Lib.hid (BX1.out.step hb2)
    clear hb2 BX1 KC
    go_wp2_with fail
    refine (KA _ BX2.out.below).out.mono ?_
    rintro e w3 ⟨rfl, hb3⟩
    have BX3 := Lib.hid (BX2.out.step hb3)
    clear hb3 BX2 KA
    obtain ⟨hB, hge, hlt, a0, a1, a2, a3, a4, fz⟩ := BX3.out
    go_wp2_with fail
    exact bodyPost_ret (v := missR.val) (by simp [results, Try.results8, go_sem, *]; try rfl) rfl ⟨rfl, BX3.out.put _ _ _ _ _⟩
  | true =>
  rw [ha] at KA
  have hrr : r = act v sel (headV args) := by rw [HA2.out, ha]; rfl
  have KT := fun w' => Lib.hid (tables_any v.kind w')
  have hst : ∀ (a : Addr) (m : Mode) (w : World), (store a .nilFunc m).run Try.prog w = stored Try.prog w a .nilFunc m := fun a m w => run_store _ w a _ m rfl
  have hsf : ∀ (f : FuncId) (a : Addr) (m : Mode) (w : World), (store a (.func (.func f) #[] #[]) m).run Try.prog w = stored Try.prog w a (.func (.func f) #[] #[]) m := fun f a m w => run_store _ w a _ m rfl
  have hav := head_val ha
  rcases tab_seek v.kind sel with ⟨hs1, hs2⟩ | ⟨p, hs1, hs2, hp⟩
  · rw [act_none hs1] at hrr
    subst hrr
    generalize args.length = N at *
    clear HA2 HS hv hc ha hav
    go_enter Try.func8, Try.ntmps8
    go_wp2_with fail
    refine (KV _).out.mono ?_
    rintro e w1 ⟨rfl, hb1⟩
    have BX1 := Lib.hid (BX.out.step hb1)
    have VX1 := Lib.hid (VX.out.step hb1)
    clear hb1 BX KV VX
    go_wp2_with fail
    refine (KC _).out.mono ?_
    rintro e w2 ⟨rfl, hb2⟩
    have BX2 := Lib.hid (BX1.out.step hb2)
    have VX2 := Lib.hid (VX1.out.step hb2)
    clear hb2 BX1 KC VX1
    go_wp2_with fail
    refine (KA _ BX2.out.below).out.mono ?_
    rintro e w3 ⟨rfl, hb3⟩
    have BX3 := Lib.hid (BX2.out.step hb3)
    obtain ⟨v0, v1, v2⟩ := VX2.out.step hb3
    clear hb3 BX2 KA VX2
    go_wp2_with fail
    refine (KT _).out.mono ?_
    rintro e w4 ⟨t, rfl, hl4, hb4⟩
    have hlk := hl4 w4 (Below.refl _ _) sel
    rw [hs2] at hlk
    rw [show (none : Option Value).getD zeroOp = .agg #[.int .i64 0, .nilFunc] from rfl, show (none : Option Value).isSome = false from rfl] at hlk
    have BX4 := Lib.hid (BX3.out.step hb4)
    clear hb4 BX3 KT v0 v1 v2 hl4 hs2 hs1
    have BX5 := Lib.hid (BX4.out.step ((Below.refl _ _).alloc (Nat.le_refl _) (.cells #[.int .i64 0, .nilFunc] 51)))
    have HB5 := BX5
    obtain ⟨hB, hge, hlt, a0, a1, a2, a3, a4, fz⟩ := BX5.out
    go_wp2_with fail
    exact bodyPost_ret (v := missR.val) (by simp [results, Try.results8, go_sem, *]; try rfl) rfl ⟨rfl, BX5.out.put _ _ _ _ _⟩
  · obtain ⟨hen, hdo⟩ := hp
    have HM := Lib.hid hs2
    have HE := Lib.hid hen
    have HR : Hid ((p.1.needs = 0 ∨ (headV args).kind = p.1.needs) → r = p.1.f v (headV args)) := Lib.hid fun h => by rw [hrr]; exact act_does hs1 h
    have HF : Hid (¬ p.1.needs = 0 → ¬ (headV args).kind = p.1.needs → r = failR (missed p.1.needs)) := Lib.hid fun h h' => by rw [hrr]; exact act_needs hs1 h h'
    have HC : Hid (∀ (w' : World), (p.1.needs = 0 ∨ (headV args).kind = p.1.needs) → Hid (Calls Try.prog p.2 #[.agg #[.int .i64 v.kind, .int .i64 v.num, .string v.text], .agg #[.int .i64 (headV args).kind, .int .i64 (headV args).num, .string (headV args).text]] w' fun e w2 => e = .returned (p.1.f v (headV args)).val ∧ Below w'.heap.size w' w2)) := Lib.hid fun w' h => Lib.hid (hdo v (headV args) w' hv rfl hav h)
    clear hen hdo hs1 hs2 hrr HA2 hv hc ha hav
    obtain ⟨⟨nm, n, pf⟩, f⟩ := p
    simp only at HM HE HR HF HC
    cases args with
    | nil =>
      rw [show headV [] = nilV from rfl] at HR HF HC
      rw [show ([] : List V).length = 0 from rfl] at z hm KA ⊢
      have z0 : (m != 0) = false := z
      clear z
      go_enter Try.func8, Try.ntmps8
      go_wp2_with fail
      refine (KV _).out.mono ?_
      rintro e w1 ⟨rfl, hb1⟩
      have BX1 := Lib.hid (BX.out.step hb1)
      have VX1 := Lib.hid (VX.out.step hb1)
      clear hb1 BX KV VX
      go_wp2_with fail
      refine (KC _).out.mono ?_
      rintro e w2 ⟨rfl, hb2⟩
      have BX2 := Lib.hid (BX1.out.step hb2)
      have VX2 := Lib.hid (VX1.out.step hb2)
      clear hb2 BX1 KC VX1
      go_wp2_with fail
      refine (KA _ BX2.out.below).out.mono ?_
      rintro e w3 ⟨rfl, hb3⟩
      have BX3 := Lib.hid (BX2.out.step hb3)
      have VX3 := Lib.hid (VX2.out.step hb3)
      obtain ⟨v0, v1, v2⟩ := VX2.out.step hb3
      clear hb3 BX2 KA VX2
      go_wp2_with fail
      refine (KT _).out.mono ?_
      rintro e w4 ⟨t, rfl, hl4, hb4⟩
      have hlk := hl4 w4 (Below.refl _ _) sel
      rw [HM.out] at hlk
      simp only [Option.getD_some, Option.isSome_some] at hlk
      unfold opVal at hlk
      have BX4 := Lib.hid (BX3.out.step hb4)
      have VX4 := Lib.hid (VX3.out.step hb4)
      clear hb4 BX3 VX3 KT v0 v1 v2 hl4 HM
      obtain ⟨g, hg⟩ : ∃ g, w4.heap.size = g := ⟨_, rfl⟩
      obtain ⟨W5, hW5⟩ : ∃ W, W = w4.alloc (.cells #[.int .i64 n, .func (.func f) #[] #[]] 51) := ⟨_, rfl⟩
      have hb5 : Below w4.heap.size w4 W5 := by rw [hW5]; exact (Below.refl _ _).alloc (Nat.le_refl _) _
      have hs5 : W5.heap.size = g + 1 := by rw [hW5, ← hg]; simp
      have OX5 : OB g n f W5 := by rw [hW5, ← hg]; exact ob_new _ _ _ _
      obtain ⟨W6, hW6⟩ : ∃ W, W = W5.alloc (.cells #[.int .i64 0, .int .i64 0, .string ⟨#[]⟩] 25) := ⟨_, rfl⟩
      have hb6 : Below W5.heap.size W5 W6 := by rw [hW6]; exact (Below.refl _ _).alloc (Nat.le_refl _) _
      have QX6 : VB (g + 1) nilV W6 := by rw [hW6, ← hs5]; exact vb_new _ nilV _
      have qf : ∀ o, W6.frozen? ⟨g + 1, o, none⟩ = false := fun o => by rw [hW6, ← hs5]; go_simp
      have OX6 := Lib.hid (OX5.step hb6)
      have BX6 := Lib.hid ((BX4.out.step hb5).step hb6)
      have VX6 := Lib.hid ((VX4.out.step hb5).step hb6)
      have hgl : w.heap.size + 1 < g := by rw [← hg]; exact BX4.out.lt
      have HW : Hid (W6 = (w4.alloc (.cells #[.int .i64 n, .func (.func f) #[] #[]] 51)).alloc (.cells #[.int .i64 0, .int .i64 0, .string ⟨#[]⟩] 25)) := Lib.hid (by rw [hW6, hW5])
      have HGS := Lib.hid hg
      have HS6 := Lib.hid (HS.out.below BX6.out.below)
      clear hb5 hs5 OX5 hW5 hb6 hW6 hg BX4 VX4 HS
      have QX7 := Lib.hid QX6
      have BX7 := BX6
      have VX7 := VX6
      have OX7 := OX6
      clear QX6 BX6 VX6 OX6 qf HS6
      go_upto_region 9 with fail
      rw [HGS.out, ← HW.out]
      clear HW HGS hgl hlk
      obtain ⟨v0, v1, v2⟩ := VX7.out
      obtain ⟨o0, o1⟩ := OX7.out
      obtain ⟨q0, q1, q2⟩ := QX7.out
      obtain ⟨hB, hge, hlt, a0, a1, a2, a3, a4, fz⟩ := BX7.out
      by_cases hn : n = 0
      · have z5 := (SpecBas.eq_yes hn).2
        have hq := HR.out (.inl hn)
        have K := HC.out W6 (.inl hn)
        rw [← hq] at K
        clear HR HC hq hn
        go_wp2_with fail
        rw [HE.out, Oper.upon_enter]
        refine K.out.mono ?_
        rintro e w8 ⟨rfl, hb8⟩
        have BX8 := Lib.hid (BX7.out.step hb8)
        clear hb8 BX7 hB hge hlt a0 a1 a2 a3 a4 fz v0 v1 v2 o0 o1 q0 q1 q2 K
        obtain ⟨hB, hge, hlt, a0, a1, a2, a3, a4, fz⟩ := BX8.out
        unfold R.val
        go_wp2_with fail
        exact bodyPost_ret (v := r.val) (by simp [results, Try.results8, go_sem, *]; try rfl) rfl ⟨rfl, BX8.out.put _ _ _ _ _⟩
      have z5 := (SpecBas.eq_no hn).2
      by_cases hk : n = nilV.kind
      · have z6 := (SpecBas.eq_yes hk).2
        have hq := HR.out (.inr hk.symm)
        have K := HC.out W6 (.inr hk.symm)
        rw [← hq] at K
        clear HR HC hq hn hk
        go_wp2_with fail
        rw [HE.out, Oper.upon_enter]
        refine K.out.mono ?_
        rintro e w8 ⟨rfl, hb8⟩
        have BX8 := Lib.hid (BX7.out.step hb8)
        clear hb8 BX7 hB hge hlt a0 a1 a2 a3 a4 fz v0 v1 v2 o0 o1 q0 q1 q2 K
        obtain ⟨hB, hge, hlt, a0, a1, a2, a3, a4, fz⟩ := BX8.out
        unfold R.val
        go_wp2_with fail
        exact bodyPost_ret (v := r.val) (by simp [results, Try.results8, go_sem, *]; try rfl) rfl ⟨rfl, BX8.out.put _ _ _ _ _⟩
      · have z6 := (SpecBas.eq_no hk).2
        have hrf := HF.out hn (fun x => hk x.symm)
        have KE := fun w' => Lib.hid (error_is (missed n) w')
        rw [← hrf] at KE
        clear HR HC hn hk HE hrf HF
        go_wp2_with fail
        refine (missed_is _ _).mono ?_
        rintro e w8 ⟨rfl, rfl⟩
        go_wp2_with fail
        refine (KE _).out.mono ?_
        rintro e w8 ⟨rfl, hb8⟩
        have BX8 := Lib.hid (BX7.out.step hb8)
        clear hb8 BX7 hB hge hlt a0 a1 a2 a3 a4 fz v0 v1 v2 o0 o1 q0 q1 q2
        obtain ⟨hB, hge, hlt, a0, a1, a2, a3, a4, fz⟩ := BX8.out
        unfold R.val
        go_wp2_with fail
        exact bodyPost_ret (v := r.val) (by simp [results, Try.results8, go_sem, *]; try rfl) rfl ⟨rfl, BX8.out.put _ _ _ _ _⟩
    | cons x xs =>
      rw [show headV (x :: xs) = x from rfl] at HR HF HC
      obtain ⟨N, hN⟩ : ∃ N : Nat, (x :: xs).length = N + 1 := ⟨xs.length, rfl⟩
      rw [hN] at z hm KA HS ⊢
      have z0 : (m != (N : Int) + 1) = false := by rw [Int.natCast_add] at z; exact z
      clear z
      go_enter Try.func8, Try.ntmps8
      go_wp2_with fail
      refine (KV _).out.mono ?_
      rintro e w1 ⟨rfl, hb1⟩
      have BX1 := Lib.hid (BX.out.step hb1)
      have VX1 := Lib.hid (VX.out.step hb1)
      clear hb1 BX KV VX
      go_wp2_with fail
      refine (KC _).out.mono ?_
      rintro e w2 ⟨rfl, hb2⟩
      have BX2 := Lib.hid (BX1.out.step hb2)
      have VX2 := Lib.hid (VX1.out.step hb2)
      clear hb2 BX1 KC VX1
      go_wp2_with fail
      refine (KA _ BX2.out.below).out.mono ?_
      rintro e w3 ⟨rfl, hb3⟩
      have BX3 := Lib.hid (BX2.out.step hb3)
      have VX3 := Lib.hid (VX2.out.step hb3)
      obtain ⟨v0, v1, v2⟩ := VX2.out.step hb3
      clear hb3 BX2 KA VX2
      go_wp2_with fail
      refine (KT _).out.mono ?_
      rintro e w4 ⟨t, rfl, hl4, hb4⟩
      have hlk := hl4 w4 (Below.refl _ _) sel
      rw [HM.out] at hlk
      simp only [Option.getD_some, Option.isSome_some] at hlk
      unfold opVal at hlk
      have BX4 := Lib.hid (BX3.out.step hb4)
      have VX4 := Lib.hid (VX3.out.step hb4)
      clear hb4 BX3 VX3 KT v0 v1 v2 hl4 HM
      obtain ⟨g, hg⟩ : ∃ g, w4.heap.size = g := ⟨_, rfl⟩
      obtain ⟨W5, hW5⟩ : ∃ W, W = w4.alloc (.cells #[.int .i64 n, .func (.func f) #[] #[]] 51) := ⟨_, rfl⟩
      have hb5 : Below w4.heap.size w4 W5 := by rw [hW5]; exact (Below.refl _ _).alloc (Nat.le_refl _) _
      have hs5 : W5.heap.size = g + 1 := by rw [hW5, ← hg]; simp
      have OX5 : OB g n f W5 := by rw [hW5, ← hg]; exact ob_new _ _ _ _
      obtain ⟨W6, hW6⟩ : ∃ W, W = W5.alloc (.cells #[.int .i64 0, .int .i64 0, .string ⟨#[]⟩] 25) := ⟨_, rfl⟩
      have hb6 : Below W5.heap.size W5 W6 := by rw [hW6]; exact (Below.refl _ _).alloc (Nat.le_refl _) _
      have QX6 : VB (g + 1) nilV W6 := by rw [hW6, ← hs5]; exact vb_new _ nilV _
      have qf : ∀ o, W6.frozen? ⟨g + 1, o, none⟩ = false := fun o => by rw [hW6, ← hs5]; go_simp
      have OX6 := Lib.hid (OX5.step hb6)
      have BX6 := Lib.hid ((BX4.out.step hb5).step hb6)
      have VX6 := Lib.hid ((VX4.out.step hb5).step hb6)
      have hgl : w.heap.size + 1 < g := by rw [← hg]; exact BX4.out.lt
      have HW : Hid (W6 = (w4.alloc (.cells #[.int .i64 n, .func (.func f) #[] #[]] 51)).alloc (.cells #[.int .i64 0, .int .i64 0, .string ⟨#[]⟩] 25)) := Lib.hid (by rw [hW6, hW5])
      have HGS := Lib.hid hg
      have HS6 := Lib.hid (HS.out.below BX6.out.below)
      clear hb5 hs5 OX5 hW5 hb6 hW6 hg BX4 VX4 HS
      obtain ⟨fb, fo, rfl, -, d0, d1, d2, -⟩ := HS6.out.at (i := 0) (x := x) rfl
      rw [Nat.zero_mul, Nat.add_zero] at d0 d1 d2
      obtain ⟨z0, z1, z2⟩ := QX6
      unfold nilV at z0 z1 z2
      simp only at z0 z1 z2
      obtain ⟨W7, hW7⟩ : ∃ W, W = ((W6.setCell ⟨g + 1, 0, none⟩ (.int .i64 x.kind)).setCell ⟨g + 1, 1, none⟩ (.int .i64 x.num)).setCell ⟨g + 1, 2, none⟩ (.string x.text) := ⟨_, rfl⟩
      have hbut : But (g + 1) W6 W7 := by rw [hW7]; exact but_three _ _ _ _ _
      have QX7 : Hid (VB (g + 1) x W7) := Lib.hid (by rw [hW7]; exact ⟨by go_simp, by go_simp, by go_simp⟩)
      have BX7 := Lib.hid (rb_but BX6.out hbut (by omega) (by have := BX6.out.ge; omega))
      have VX7 := Lib.hid (vb_but VX6.out hbut (by omega))
      have OX7 := Lib.hid (ob_but OX6.out hbut (by omega))
      have HW7 := Lib.hid hW7
      clear hbut hW7 BX6 VX6 OX6
      go_upto_region 7 with fail
      rw [HGS.out, ← HW.out]
      clear HW HGS hlk
      go_upto_region 9 with fail
      rw [← HW7.out]
      clear HW7 d0 d1 d2 z0 z1 z2 qf hgl HS6
      obtain ⟨v0, v1, v2⟩ := VX7.out
      obtain ⟨o0, o1⟩ := OX7.out
      obtain ⟨q0, q1, q2⟩ := QX7.out
      obtain ⟨hB, hge, hlt, a0, a1, a2, a3, a4, fz⟩ := BX7.out
      by_cases hn : n = 0
      · have z5 := (SpecBas.eq_yes hn).2
        have hq := HR.out (.inl hn)
        have K := HC.out W7 (.inl hn)
        rw [← hq] at K
        clear HR HC hq hn
        go_wp2_with fail
        rw [HE.out, Oper.upon_enter]
        refine K.out.mono ?_
        rintro e w8 ⟨rfl, hb8⟩
        have BX8 := Lib.hid (BX7.out.step hb8)
        clear hb8 BX7 hB hge hlt a0 a1 a2 a3 a4 fz v0 v1 v2 o0 o1 q0 q1 q2 K
        obtain ⟨hB, hge, hlt, a0, a1, a2, a3, a4, fz⟩ := BX8.out
        unfold R.val
        go_wp2_with fail
        exact bodyPost_ret (v := r.val) (by simp [results, Try.results8, go_sem, *]; try rfl) rfl ⟨rfl, BX8.out.put _ _ _ _ _⟩
      have z5 := (SpecBas.eq_no hn).2
      by_cases hk : n = x.kind
      · have z6 := (SpecBas.eq_yes hk).2
        have hq := HR.out (.inr hk.symm)
        have K := HC.out W7 (.inr hk.symm)
        rw [← hq] at K
        clear HR HC hq hn hk
        go_wp2_with fail
        rw [HE.out, Oper.upon_enter]
        refine K.out.mono ?_
        rintro e w8 ⟨rfl, hb8⟩
        have BX8 := Lib.hid (BX7.out.step hb8)
        clear hb8 BX7 hB hge hlt a0 a1 a2 a3 a4 fz v0 v1 v2 o0 o1 q0 q1 q2 K
        obtain ⟨hB, hge, hlt, a0, a1, a2, a3, a4, fz⟩ := BX8.out
        unfold R.val
        go_wp2_with fail
        exact bodyPost_ret (v := r.val) (by simp [results, Try.results8, go_sem, *]; try rfl) rfl ⟨rfl, BX8.out.put _ _ _ _ _⟩
      · have z6 := (SpecBas.eq_no hk).2
        have hrf := HF.out hn (fun x => hk x.symm)
        have KE := fun w' => Lib.hid (error_is (missed n) w')
        rw [← hrf] at KE
        clear HR HC hn hk HE hrf HF
        go_wp2_with fail
        refine (missed_is _ _).mono ?_
        rintro e w8 ⟨rfl, rfl⟩
        go_wp2_with fail
        refine (KE _).out.mono ?_
        rintro e w8 ⟨rfl, hb8⟩
        have BX8 := Lib.hid (BX7.out.step hb8)
        clear hb8 BX7 hB hge hlt a0 a1 a2 a3 a4 fz v0 v1 v2 o0 o1 q0 q1 q2
        obtain ⟨hB, hge, hlt, a0, a1, a2, a3, a4, fz⟩ := BX8.out
        unfold R.val
        go_wp2_with fail
        exact bodyPost_ret (v := r.val) (by simp [results, Try.results8, go_sem, *]; try rfl) rfl ⟨rfl, BX8.out.put _ _ _ _ _⟩
end Go.Proofs.Ytkmclgofghaeoaa.ImplBas
