/-
  impl's messages to simple values: what the tables' functions do; isValueList.
-/
import Derived.Test.YtkmclgofghaeoaaBImplBasB
import Derived.Test.YtkmclgofghaeoaaBImplBasC
import Derived.Test.YtkmclgofghaeoaaBImplBasM
import Derived.Test.YtkmclgofghaeoaaBStoAll
import Derived.Test.YtkmclgofghaeoaaBVsAt
import Derived.Deep.Cut
namespace Go.Proofs.Ytkmclgofghaeoaa.ImplBas
open Go.RowKit
open Strs Sto Bas SpecBas Go.Proofs.Ytkmclgofghaeoaa.Data
set_option linter.unusedVariables false
def Does (k : Int) (p : E × FuncId) : Prop := (∀ args w', (callFunc p.2 args).run Try.prog w' = .ok (.enter p.2 args) w') ∧
  ∀ (v a : V) (w : World), valB v = true → v.kind = k → valB a = true → (p.1.needs = 0 ∨ a.kind = p.1.needs) →
    Calls Try.prog p.2 #[.agg #[.int .i64 v.kind, .int .i64 v.num, .string v.text], .agg #[.int .i64 a.kind, .int .i64 a.num, .string a.text]] w fun e w' => e = .returned (p.1.f v a).val ∧ Below w.heap.size w w'
theorem bool_do : ∀ p, p ∈ boolT → Does 1 p := by
  intro p h
  unfold boolT boolOps at h
  simp only [List.zip_cons_cons, List.zip_nil_right, List.mem_cons, List.not_mem_nil, or_false] at h
  rcases h with rfl | rfl
  · exact ⟨fun args w' => by kernel_rfl, fun v a w hv hk ha hn => op_and v a w (bool_cases hv hk) (bool_cases ha (by rcases hn with h | h; exact absurd h (by decide); exact h))⟩
  · exact ⟨fun args w' => by kernel_rfl, fun v a w hv hk ha hn => op_not v a w ⟩
theorem int_do : ∀ p, p ∈ intT → Does 2 p := by
  intro p h
  unfold intT intOps at h
  simp only [List.zip_cons_cons, List.zip_nil_right, List.mem_cons, List.not_mem_nil, or_false] at h
  rcases h with rfl | rfl | rfl | rfl | rfl | rfl | rfl | rfl | rfl | rfl | rfl | rfl | rfl
  · exact ⟨fun args w' => by kernel_rfl, fun v a w hv hk ha hn => op_abs v a w (val_num hv hk)⟩
  · exact ⟨fun args w' => by kernel_rfl, fun v a w hv hk ha hn => op_neg v a w (val_num hv hk)⟩
  · exact ⟨fun args w' => by kernel_rfl, fun v a w hv hk ha hn => op_min v a w ⟩
  · exact ⟨fun args w' => by kernel_rfl, fun v a w hv hk ha hn => op_max v a w ⟩
  · exact ⟨fun args w' => by kernel_rfl, fun v a w hv hk ha hn => op_ge v a w ⟩
  · exact ⟨fun args w' => by kernel_rfl, fun v a w hv hk ha hn => op_le v a w ⟩
  · exact ⟨fun args w' => by kernel_rfl, fun v a w hv hk ha hn => op_gt v a w ⟩
  · exact ⟨fun args w' => by kernel_rfl, fun v a w hv hk ha hn => op_lt v a w ⟩
  · exact ⟨fun args w' => by kernel_rfl, fun v a w hv hk ha hn => op_rest v a w (val_num hv hk) (val_num ha (by rcases hn with h | h; exact absurd h (by decide); exact h))⟩
  · exact ⟨fun args w' => by kernel_rfl, fun v a w hv hk ha hn => op_quot v a w (val_num hv hk) (val_num ha (by rcases hn with h | h; exact absurd h (by decide); exact h))⟩
  · exact ⟨fun args w' => by kernel_rfl, fun v a w hv hk ha hn => op_mul v a w (val_num hv hk) (val_num ha (by rcases hn with h | h; exact absurd h (by decide); exact h))⟩
  · exact ⟨fun args w' => by kernel_rfl, fun v a w hv hk ha hn => op_sub v a w (val_num hv hk) (val_num ha (by rcases hn with h | h; exact absurd h (by decide); exact h))⟩
  · exact ⟨fun args w' => by kernel_rfl, fun v a w hv hk ha hn => op_add v a w (val_num hv hk) (val_num ha (by rcases hn with h | h; exact absurd h (by decide); exact h))⟩
theorem text_do : ∀ p, p ∈ textT → Does 3 p := by
  intro p h
  unfold textT textOps at h
  simp only [List.zip_cons_cons, List.zip_nil_right, List.mem_cons, List.not_mem_nil, or_false] at h
  rcases h with rfl | rfl | rfl | rfl | rfl | rfl
  · exact ⟨fun args w' => by kernel_rfl, fun v a w hv hk ha hn => op_int v a w (text_size hv hk)⟩
  · exact ⟨fun args w' => by kernel_rfl, fun v a w hv hk ha hn => op_sym v a w (text_size hv hk)⟩
  · exact ⟨fun args w' => by kernel_rfl, fun v a w hv hk ha hn => op_at v a w (text_size hv hk)⟩
  · exact ⟨fun args w' => by kernel_rfl, fun v a w hv hk ha hn => op_tlt v a w ⟩
  · exact ⟨fun args w' => by kernel_rfl, fun v a w hv hk ha hn => op_join v a w (text_size hv hk) (text_size ha (by rcases hn with h | h; exact absurd h (by decide); exact h))⟩
  · exact ⟨fun args w' => by kernel_rfl, fun v a w hv hk ha hn => op_size v a w ⟩
theorem sym_do : ∀ p, p ∈ symT → Does 4 p := by
  intro p h
  unfold symT symOps at h
  simp only [List.zip_cons_cons, List.zip_nil_right, List.mem_cons, List.not_mem_nil, or_false] at h
  rcases h with rfl
  · exact ⟨fun args w' => by kernel_rfl, fun v a w hv hk ha hn => op_str v a w ⟩
theorem tab_do (k : Int) : ∀ p, p ∈ tabOf k → Does k p := by
  intro p h
  unfold tabOf at h
  by_cases h1 : k = 1
  · rw [if_pos h1] at h; subst h1; exact bool_do p h
  rw [if_neg h1] at h
  by_cases h2 : k = 2
  · rw [if_pos h2] at h; subst h2; exact int_do p h
  rw [if_neg h2] at h
  by_cases h3 : k = 3
  · rw [if_pos h3] at h; subst h3; exact text_do p h
  rw [if_neg h3] at h
  by_cases h4 : k = 4
  · rw [if_pos h4] at h; subst h4; exact sym_do p h
  rw [if_neg h4] at h
  cases h
set_option maxHeartbeats 4000000 in
theorem list_any (args : List V) (s : Value) (lo : Nat) (w : World) (hs : VsAt lo w s args) (hsz : ∀ x, x ∈ args → x.text.size ≤ 1048576) :
    Calls Try.prog 18 #[s] w fun e w' => e = .returned (.bool (args.all valB)) ∧ Below w.heap.size w w' := by
  have KV := fun (w' : World) (x : V) (hx : x ∈ args) => Lib.hid (ImplSto.val_any x w' (hsz x hx))
  have HS := Lib.hid hs
  obtain ⟨a, c, rfl, hm, -⟩ := hs
  unfold maxLen at hm
  clear hsz
  generalize hNf : args.length = N at *
  have HN := Lib.hid hNf
  clear hNf
  generalize hR : args.all valB = R
  have HR := Lib.hid hR
  clear hR
  go_enter Try.func18, Try.ntmps18
  go_wp2_with fail
  go_loopw [4, 7] (fun _ j wr => ∃ i : Nat, i ≤ N ∧ j = .int .i64 i ∧ Hid ((args.take i).all valB = true) ∧ Hid (Below w.heap.size w wr)) (fun _ j _ => N - (intOf j).toNat)
  case atStart => exact ⟨0, by omega, rfl, Lib.hid rfl, Lib.hid (Below.refl _ _)⟩
  case round =>
    obtain ⟨i, hi, rfl, HQ, HB⟩ := hrel
    by_cases hlt : i < N
    · have hil : i < args.length := by rw [HN.out]; exact hlt
      obtain ⟨v, hv⟩ : ∃ v, args[i]? = some v := ⟨_, List.getElem?_eq_getElem hil⟩
      obtain ⟨fb, fo, rfl, -, d0, d1, d2, -⟩ := (HS.out.below HB.out).at hv
      have HNO : Hid (valB v = false → R = false) := Lib.hid fun hh => by rw [← HR.out, all_no hv hh]
      have HYES : Hid (valB v = true → (args.take (i + 1)).all valB = true) := Lib.hid fun hh => all_take HQ.out hv hh
      obtain ⟨W, hW⟩ : ∃ W, W = wr.alloc (.cells #[.int .i64 v.kind, .int .i64 v.num, .string v.text] 25) := ⟨_, rfl⟩
      have X := vb_new wr v 25
      rw [← hW] at X
      have HBW : Hid (Below w.heap.size w W) := Lib.hid (by rw [hW]; exact HB.out.alloc HB.out.size _)
      have HX := Lib.hid X
      have K := KV W v (List.mem_of_getElem? hv)
      have HWW := Lib.hid hW
      clear hv X
      generalize valB v = B at *
      obtain ⟨vk, vm, vt⟩ := v
      simp only at d0 d1 d2 K hW HX
      have x0 := HX.out.a0; have x1 := HX.out.a1; have x2 := HX.out.a2
      simp only at x0 x1 x2
      have hiI : (i : Int) < (N : Int) := by omega
      clear hW
      cases B
      all_goals
        go_upto_region 4 with fail
        rw [← HWW.out]
        go_wp2_with fail
        refine K.out.mono ?_
        rintro e w2 ⟨rfl, hb2⟩
        have H2 := Lib.hid (HBW.out.trans (hb2.mono HBW.out.size)); clear hb2 d0 d1 d2 x0 x1 x2
        go_wp2_with fail
      · have hRf := HNO.out (by trivial)
        subst hRf
        go_ret
        exact ⟨rfl, H2.out⟩
      · have HNEW := Lib.hid (HYES.out (by trivial))
        go_roundw
        case rel => exact ⟨i + 1, by omega, by go_num, HNEW, H2⟩
        case measure => simp [intOf]; omega
    have hRt : R = true := by rw [← HR.out]; exact all_end HQ.out (by rw [HN.out]; omega)
    subst hRt
    clear HR HQ HS KV
    go_wp2_with fail
    go_ret
    exact ⟨rfl, HB.out⟩
end Go.Proofs.Ytkmclgofghaeoaa.ImplBas
