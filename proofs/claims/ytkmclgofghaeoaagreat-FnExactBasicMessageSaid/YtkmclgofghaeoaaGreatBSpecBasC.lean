/-
  The model's messages to integers.
-/
import Derived.Test.YtkmclgofghaeoaaGreatBDataVs
import Derived.Test.YtkmclgofghaeoaaGreatBSpecBasT
import Derived.Laws.OwnMore
namespace Go.Proofs.YtkmclgofghaeoaaGreat.SpecBas
open Go.RowKit
open Strs Sto Bas Go.Proofs.YtkmclgofghaeoaaGreat.Data
set_option linter.unusedVariables false
theorem bas_lit (w : World) (xs : List ByteArray) (n : Nat) (hn : xs.length = n) (hm : n ≤ 100) : At (w.alloc (.cells (xs.map Value.string).toArray 9)) (.slice (some ⟨w.heap.size, 0, none⟩) n n) xs := by
  subst hn
  have h := World.ownsRow_lit (base := w.heap.size) (e := 9) (size := 1) w (xs.map Value.string).toArray xs.length (Nat.le_refl _) (by unfold maxLen; omega) (by simp)
  exact at_own (by simpa using h)
def eleven : List ByteArray := [⟨#[43]⟩, ⟨#[45]⟩, ⟨#[42]⟩, ⟨#[47, 47]⟩, ⟨#[92, 92]⟩, ⟨#[60]⟩, ⟨#[62]⟩, ⟨#[60, 61]⟩, ⟨#[62, 61]⟩, ⟨#[109, 97, 120, 58]⟩, ⟨#[109, 105, 110, 58]⟩]
theorem two_any {sel : ByteArray} (h : Tok.has eleven sel = true) : ∃ e, seekE intOps sel = some e ∧ e.needs = 2 ∧ ∀ (v x : V) (w : World), numB v.num = true → numB x.num = true →
    Calls Tryz.prog 50 #[.int .i64 v.num, .string sel, .int .i64 x.num] w fun r w' => r = .returned (e.f v x).val ∧ Below w.heap.size w w' := by
  have hm := has_mem h
  unfold eleven at hm
  simp only [List.mem_cons, List.not_mem_nil, or_false] at hm
  rcases hm with rfl | rfl | rfl | rfl | rfl | rfl | rfl | rfl | rfl | rfl | rfl
  · exact ⟨_, rfl, rfl, fun v x w hv hx => two_add v.num x.num ⟨#[43]⟩ w hv hx  (lit_eq rfl)⟩
  · exact ⟨_, rfl, rfl, fun v x w hv hx => two_sub v.num x.num ⟨#[45]⟩ w hv hx (lit_ne (by decide)) (lit_eq rfl)⟩
  · exact ⟨_, rfl, rfl, fun v x w hv hx => two_mul v.num x.num ⟨#[42]⟩ w hv hx (lit_ne (by decide)) (lit_ne (by decide)) (lit_eq rfl)⟩
  · refine ⟨_, rfl, rfl, fun v x w hv hx => ?_⟩
    show Calls _ _ _ _ (fun r w' => r = .returned (if x.num = 0 then zeroR else doneR (intV (quotI v.num x.num))).val ∧ Below w.heap.size w w')
    by_cases hz : x.num = 0
    · rw [if_pos hz]
      exact two_zero v.num x.num ⟨#[47, 47]⟩ w hv hx (lit_ne (by decide)) (lit_ne (by decide)) (lit_ne (by decide)) (lit_ne (by decide)) (lit_ne (by decide)) (lit_ne (by decide)) (lit_ne (by decide)) (lit_ne (by decide)) (lit_ne (by decide)) (SpecSto.eq_yes hz).1
    · rw [if_neg hz]
      have k := two_quot v.num x.num ⟨#[47, 47]⟩ w hv hx (lit_ne (by decide)) (lit_ne (by decide)) (lit_ne (by decide)) (lit_ne (by decide)) (lit_ne (by decide)) (lit_ne (by decide)) (lit_ne (by decide)) (lit_ne (by decide)) (lit_ne (by decide)) hz (lit_eq rfl)
      unfold numR at k
      rw [if_pos (quot_num hv hz)] at k
      exact k
  · refine ⟨_, rfl, rfl, fun v x w hv hx => ?_⟩
    show Calls _ _ _ _ (fun r w' => r = .returned (if x.num = 0 then zeroR else doneR (intV (restI v.num x.num))).val ∧ Below w.heap.size w w')
    by_cases hz : x.num = 0
    · rw [if_pos hz]
      exact two_zero v.num x.num ⟨#[92, 92]⟩ w hv hx (lit_ne (by decide)) (lit_ne (by decide)) (lit_ne (by decide)) (lit_ne (by decide)) (lit_ne (by decide)) (lit_ne (by decide)) (lit_ne (by decide)) (lit_ne (by decide)) (lit_ne (by decide)) (SpecSto.eq_yes hz).1
    · rw [if_neg hz]
      have k := two_rest v.num x.num ⟨#[92, 92]⟩ w hv hx (lit_ne (by decide)) (lit_ne (by decide)) (lit_ne (by decide)) (lit_ne (by decide)) (lit_ne (by decide)) (lit_ne (by decide)) (lit_ne (by decide)) (lit_ne (by decide)) (lit_ne (by decide)) hz (lit_ne (by decide))
      unfold numR at k
      rw [if_pos (rest_num hx hz)] at k
      exact k
  · exact ⟨_, rfl, rfl, fun v x w hv hx => two_lt v.num x.num ⟨#[60]⟩ w hv hx (lit_ne (by decide)) (lit_ne (by decide)) (lit_ne (by decide)) (lit_eq rfl)⟩
  · exact ⟨_, rfl, rfl, fun v x w hv hx => two_gt v.num x.num ⟨#[62]⟩ w hv hx (lit_ne (by decide)) (lit_ne (by decide)) (lit_ne (by decide)) (lit_ne (by decide)) (lit_eq rfl)⟩
  · exact ⟨_, rfl, rfl, fun v x w hv hx => two_le v.num x.num ⟨#[60, 61]⟩ w hv hx (lit_ne (by decide)) (lit_ne (by decide)) (lit_ne (by decide)) (lit_ne (by decide)) (lit_ne (by decide)) (lit_eq rfl)⟩
  · exact ⟨_, rfl, rfl, fun v x w hv hx => two_ge v.num x.num ⟨#[62, 61]⟩ w hv hx (lit_ne (by decide)) (lit_ne (by decide)) (lit_ne (by decide)) (lit_ne (by decide)) (lit_ne (by decide)) (lit_ne (by decide)) (lit_eq rfl)⟩
  · exact ⟨_, rfl, rfl, fun v x w hv hx => two_max v.num x.num ⟨#[109, 97, 120, 58]⟩ w hv hx (lit_ne (by decide)) (lit_ne (by decide)) (lit_ne (by decide)) (lit_ne (by decide)) (lit_ne (by decide)) (lit_ne (by decide)) (lit_ne (by decide)) (lit_eq rfl)⟩
  · exact ⟨_, rfl, rfl, fun v x w hv hx => two_min v.num x.num ⟨#[109, 105, 110, 58]⟩ w hv hx (lit_ne (by decide)) (lit_ne (by decide)) (lit_ne (by decide)) (lit_ne (by decide)) (lit_ne (by decide)) (lit_ne (by decide)) (lit_ne (by decide)) (lit_ne (by decide)) (lit_eq rfl)⟩
set_option maxHeartbeats 4000000 in
theorem int_any (v : V) (sel : ByteArray) (args : List V) (s : Value) (lo : Nat) (w : World) (hk : v.kind = 2) (hv : valB v = true) (hs : VsAt lo w s args) (ha : args.all valB = true) (h1 : Tok.has eleven sel = true → args.length = 1) :
    Calls Tryz.prog 27 #[.int .i64 v.num, .string sel, s] w fun e w' => e = .returned (act v sel (headV args)).val ∧ Below w.heap.size w w' := by
  have BX := Lib.hid (rb_new w 29)
  have hN := val_num hv hk
  have hop : opsOf v.kind = intOps := by rw [hk]; rfl
  obtain ⟨a, c, rfl, hm, hcell⟩ := hs
  unfold maxLen at hm
  have KH := Lib.hid (SpecTok.has_any _ eleven sel _ (bas_lit (w.alloc (.cells #[.int .i64 0, .int .i64 0, .int .i64 0, .string ⟨#[]⟩, .string ⟨#[]⟩] 29)) eleven 11 rfl (by omega)))
  have BY := Lib.hid (BX.out.step ((Below.refl _ _).alloc (Nat.le_refl _) (.cells (eleven.map Value.string).toArray 9)))
  rw [show (eleven.map Value.string).toArray = #[.string ⟨#[43]⟩, .string ⟨#[45]⟩, .string ⟨#[42]⟩, .string ⟨#[47, 47]⟩, .string ⟨#[92, 92]⟩, .string ⟨#[60]⟩, .string ⟨#[62]⟩, .string ⟨#[60, 61]⟩, .string ⟨#[62, 61]⟩, .string ⟨#[109, 97, 120, 58]⟩, .string ⟨#[109, 105, 110, 58]⟩] from rfl] at KH BY
  simp only [World.size_alloc] at KH
  cases hh : Tok.has eleven sel with
  | true =>
    obtain ⟨e, he, hn, HT⟩ := two_any hh
    have hl := h1 hh
    rw [hh] at KH
    obtain ⟨x, rfl⟩ := List.length_eq_one_iff.1 hl
    obtain ⟨b, o, rfl, -, hx⟩ := hcell (by simp)
    have hx := hx 0 x rfl
    rw [Nat.zero_mul, Nat.add_zero] at hx
    obtain ⟨c0, c1, c2, -⟩ := hx.below BY.out.below
    have hvx : valB x = true := by simpa using ha
    rw [show headV [x] = x from rfl]
    simp only [List.length_singleton] at hm ⊢
    by_cases hkx : x.kind = 2
    · rw [act_does (hop ▸ he) (.inr (by rw [hn, hkx]))]
      have z := (SpecSto.eq_yes hkx).2
      have KT := fun w' => Lib.hid (HT v x w' hN (val_num hvx hkx))
      generalize e.f v x = r at *
      clear HT hkx hl h1 hcell hx ha hvx hN hv hk hop he hn hh
      go_enter Tryz.func27, Tryz.ntmps27
      go_wp2_with fail
      refine KH.out.mono ?_
      rintro e w1 ⟨rfl, rfl⟩
      go_wp2_with fail
      refine (KT _).out.mono ?_
      rintro e w2 ⟨rfl, hb2⟩
      have BX2 := Lib.hid (BY.out.step hb2)
      obtain ⟨hB, hge, hlt, a0, a1, a2, a3, a4, fz⟩ := BX2.out
      clear hb2 BX BY KH KT
      unfold R.val
      go_wp2_with fail
      exact bodyPost_ret (v := r.val) (by simp [results, Tryz.results27, go_sem, *]; try rfl) rfl ⟨rfl, BX2.out.put _ _ _ _ _⟩
    · rw [act_needs (hop ▸ he) (by rw [hn]; decide) (by rw [hn]; exact hkx), hn]
      have z := (SpecSto.eq_no hkx).2
      clear HT hkx hl h1 hcell hx ha hvx hN hv hk hop he hn hh
      go_enter Tryz.func27, Tryz.ntmps27
      go_wp2_with fail
      refine KH.out.mono ?_
      rintro e w1 ⟨rfl, rfl⟩
      go_wp2_with fail
      refine (error_is _ _).mono ?_
      rintro e w2 ⟨rfl, hb2⟩
      have BX2 := Lib.hid (BY.out.step hb2)
      obtain ⟨hB, hge, hlt, a0, a1, a2, a3, a4, fz⟩ := BX2.out
      clear hb2 BX BY KH
      unfold R.val
      go_wp2_with fail
      exact bodyPost_ret (v := (failR (missed 2)).val) (by simp [results, Tryz.results27, go_sem, *]; try rfl) rfl ⟨rfl, BX2.out.put _ _ _ _ _⟩
  | false =>
    rw [hh] at KH
    have hno := has_no hh
    have hN' := (num_iff _).1 hN
    obtain ⟨n1, n2⟩ := hN'
    by_cases hneg : sel = ⟨#[110, 101, 103, 97, 116, 101, 100]⟩
    · rw [act_does (e := ⟨⟨#[110, 101, 103, 97, 116, 101, 100]⟩, 0, fun v _ => doneR (intV (-v.num))⟩) (by rw [hop, hneg]; rfl) (.inl rfl)]
      have g := lit_eq (l := [110, 101, 103, 97, 116, 101, 100]) hneg
      clear hno hneg hop hcell ha h1 hh hN hv hk
      rw [show (E.f ⟨⟨#[110, 101, 103, 97, 116, 101, 100]⟩, 0, fun v _ => doneR (intV (-v.num))⟩ v (headV args)) = doneR (intV (-v.num)) from rfl]
      go_enter Tryz.func27, Tryz.ntmps27
      go_wp2_with fail
      refine KH.out.mono ?_
      rintro e w1 ⟨rfl, rfl⟩
      go_wp2_with fail
      refine (int_is _ _).mono ?_
      rintro e w2 ⟨rfl, hb2⟩
      have BX2 := Lib.hid (BY.out.step hb2)
      clear hb2 BX BY KH
      go_wp2_with fail
      refine (done_is _ _).mono ?_
      rintro e w3 ⟨rfl, hb3⟩
      have BX3 := Lib.hid (BX2.out.step hb3)
      obtain ⟨hB, hge, hlt, a0, a1, a2, a3, a4, fz⟩ := BX3.out
      clear hb3 BX2
      unfold R.val
      go_wp2_with fail
      exact bodyPost_ret (v := (doneR (intV (-v.num))).val) (by simp [results, Tryz.results27, go_sem, *]; try rfl) rfl ⟨rfl, BX3.out.put _ _ _ _ _⟩
    have g1 := lit_ne (l := [110, 101, 103, 97, 116, 101, 100]) hneg
    by_cases habs : sel = ⟨#[97, 98, 115]⟩
    · rw [act_does (e := ⟨⟨#[97, 98, 115]⟩, 0, fun v _ => doneR (intV (max v.num (-v.num)))⟩) (by rw [hop, habs]; rfl) (.inl rfl)]
      have g := lit_eq (l := [97, 98, 115]) habs
      clear hno hneg habs hop hcell ha h1 hh hN hv hk
      rw [show (E.f ⟨⟨#[97, 98, 115]⟩, 0, fun v _ => doneR (intV (max v.num (-v.num)))⟩ v (headV args)) = doneR (intV (max v.num (-v.num))) from rfl]
      go_enter Tryz.func27, Tryz.ntmps27
      go_wp2_with fail
      refine KH.out.mono ?_
      rintro e w1 ⟨rfl, rfl⟩
      go_wp2_with fail
      refine (max_is _ _ _).mono ?_
      rintro e w2 ⟨rfl, rfl⟩
      go_wp2_with fail
      refine (int_is _ _).mono ?_
      rintro e w2 ⟨rfl, hb2⟩
      have BX2 := Lib.hid (BY.out.step hb2)
      clear hb2 BX BY KH
      go_wp2_with fail
      refine (done_is _ _).mono ?_
      rintro e w3 ⟨rfl, hb3⟩
      have BX3 := Lib.hid (BX2.out.step hb3)
      obtain ⟨hB, hge, hlt, a0, a1, a2, a3, a4, fz⟩ := BX3.out
      clear hb3 BX2
      unfold R.val
      go_wp2_with fail
      exact bodyPost_ret (v := (doneR (intV (max v.num (-v.num)))).val) (by simp [results, Tryz.results27, go_sem, *]; try rfl) rfl ⟨rfl, BX3.out.put _ _ _ _ _⟩
    have g2 := lit_ne (l := [97, 98, 115]) habs
    rw [act_none (hop ▸ seek_no fun e he => by
      unfold intOps at he
      simp only [List.mem_cons, List.not_mem_nil, or_false] at he
      unfold eleven at hno
      rcases he with rfl | rfl | rfl | rfl | rfl | rfl | rfl | rfl | rfl | rfl | rfl | rfl | rfl <;> first | exact hneg | exact habs | exact hno _ (by simp))]
    clear hno hneg habs hop hcell ha h1 hh hN hv hk
    go_enter Tryz.func27, Tryz.ntmps27
    go_wp2_with fail
    refine KH.out.mono ?_
    rintro e w1 ⟨rfl, rfl⟩
    go_wp2_with fail
    refine (miss_is _).mono ?_
    rintro e w2 ⟨rfl, hb2⟩
    have BX2 := Lib.hid (BY.out.step hb2)
    obtain ⟨hB, hge, hlt, a0, a1, a2, a3, a4, fz⟩ := BX2.out
    clear hb2 BX BY KH
    unfold R.val
    go_wp2_with fail
    exact bodyPost_ret (v := missR.val) (by simp [results, Tryz.results27, go_sem, *]; try rfl) rfl ⟨rfl, BX2.out.put _ _ _ _ _⟩
end Go.Proofs.YtkmclgofghaeoaaGreat.SpecBas
