/-
  impl's keepsLimits of a node and of a routine: what they answer.
  impl's keepsLimits, isRight, isOfClass, isMain and clashesWith of a routine: what they answer, given what isRight says of the body.
-/
import Derived.Test.YtekeondbbikkpaaGreatBDataCore
import Derived.Test.YtekeondbbikkpaaGreatBImplCoreS
import Derived.Deep.DeepCutAuto
import Derived.Deep.CutRange
import Derived.Deep.RegionLaw
namespace Go.Proofs.YtekeondbbikkpaaGreat.ImplCore
open Go.RowKit
open Strs Tree Core Go.Proofs.YtekeondbbikkpaaGreat.Data
set_option linter.unusedVariables false
structure ButL (X : Nat) (w w' : World) : Prop where
  os : w'.os = w.os
  tape : w'.tape = w.tape
  output : w'.output = w.output
  size : w.heap.size ≤ w'.heap.size
  block : ∀ k, k < w.heap.size → k ≠ X → w'.heap[k]? = w.heap[k]?
theorem ButL.refl (X : Nat) (w : World) : ButL X w w := ⟨rfl, rfl, rfl, Nat.le_refl _, fun _ _ _ => rfl⟩
theorem ButL.trans {X : Nat} {a b c : World} (h : ButL X a b) (k : ButL X b c) : ButL X a c :=
  ⟨k.os.trans h.os, k.tape.trans h.tape, k.output.trans h.output, Nat.le_trans h.size k.size, fun i hi hx => (k.block i (Nat.lt_of_lt_of_le hi h.size) hx).trans (h.block i hi hx)⟩
theorem butl_set (w : World) (X o : Nat) (v : Value) : ButL X w (w.setCell ⟨X, o, none⟩ v) :=
  ⟨rfl, rfl, rfl, by simp [World.setCell], fun k _ hx => Below.heap_setCell w ⟨X, o, none⟩ v k hx⟩
theorem ButL.below {X : Nat} {w w' : World} (h : ButL X w w') {B : Nat} (hB : B ≤ X) (hw : B ≤ w.heap.size) : Below B w w' := ⟨h.os, h.tape, h.output, h.size, fun k hk => h.block k (by omega) (by omega)⟩
theorem ButL.cell {X : Nat} {w w' : World} (h : ButL X w w') {b o : Nat} {v : Value} (hb : b ≠ X) (hc : w.cell? ⟨b, o, none⟩ = some v) : w'.cell? ⟨b, o, none⟩ = some v := by
  have hlt := cell_lt hc
  have he := h.block b hlt hb
  unfold World.cell? at hc ⊢
  simp only at hc ⊢
  rw [he]
  exact hc
structure Lone (w : World) (X : Nat) (l : Int) : Prop where
  at0 : w.cell? ⟨X, 0, none⟩ = some (.int .i64 l)
  one : ∀ o v, 1 ≤ o → w.cell? ⟨X, o, none⟩ ≠ some v
  free : w.frozen? ⟨X, 0, none⟩ = false
theorem Lone.set {w : World} {X : Nat} {l : Int} (h : Lone w X l) (m : Int) : Lone (w.setCell ⟨X, 0, none⟩ (.int .i64 m)) X m := by
  have h0 := h.at0
  have hf := h.free
  refine ⟨by go_simp, fun o v ho e => h.one o v ho ?_, by go_simp⟩
  rw [← e]
  exact (World.cell?_setCell_other _ _ _ _ (by intro e2; cases e2; omega)).symm
theorem spot_far {lo b o X : Nat} {w : World} {e : K} {l : Int} (h : KSpot lo w b o e) (hX : Lone w X l) : b ≠ X := by
  rintro rfl
  obtain ⟨vk, -, -, -, -, c4, -⟩ := h
  exact hX.one (o + 4) vk (by omega) c4
theorem kat_far {lo X : Nat} {w w' : World} {l : Int} (hX : Lone w X l) (hb : ButL X w w') : ∀ e vk, KAt lo w e vk → KAt lo w' e vk := by
  refine indK fun k t n d ks ih => ?_
  intro vk h
  rw [kat_iff] at h ⊢
  obtain ⟨h1, h2, h3, h4, a, cap, rfl, hm, hc⟩ := h
  refine ⟨h1, h2, h3, h4, a, cap, rfl, hm, fun hp => ?_⟩
  obtain ⟨b, off, rfl, hbl, hr⟩ := hc hp
  refine ⟨b, off, rfl, hbl, ?_⟩
  rw [krow_iff] at hr ⊢
  intro i hi
  have hne : b ≠ X := spot_far (hr i hi) hX
  obtain ⟨wk, c0, c1, c2, c3, c4, hn⟩ := hr i hi
  exact ⟨wk, hb.cell hne c0, hb.cell hne c1, hb.cell hne c2, hb.cell hne c3, hb.cell hne c4, ih _ (List.getElem_mem _) _ hn⟩
theorem spot_but {lo b o X : Nat} {w w' : World} {e : K} {l : Int} (h : KSpot lo w b o e) (hX : Lone w X l) (hb : ButL X w w') : KSpot lo w' b o e := by
  have hne := spot_far h hX
  obtain ⟨wk, c0, c1, c2, c3, c4, hn⟩ := h
  exact ⟨wk, hb.cell hne c0, hb.cell hne c1, hb.cell hne c2, hb.cell hne c3, hb.cell hne c4, kat_far hX hb _ _ hn⟩
def Lim (w : World) (X : Nat) (e : K) (l p : Nat) (r : Ending) (w' : World) : Prop :=
  r = .returned (.bool (fits e l p)) ∧ ButL X w w' ∧ ∃ l' : Nat, l' ≤ l ∧ Lone w' X l' ∧ (fits e l p = true → l' = l - ksize e)
set_option maxRecDepth 10000 in
set_option maxHeartbeats 8000000 in
theorem lim_node : ∀ e, ∀ (lo b o X : Nat) (w : World) (l p : Nat), l ≤ 1048576 → p < 1000 → KSpot lo w b o e → Lone w X l →
    Calls Tryz.prog 96 #[.pointer (some ⟨b, o, none⟩), .pointer (some ⟨X, 0, none⟩), .int .i64 p] w (Lim w X e l p) := by
  refine indK fun k t n d ks ih => ?_
  intro lo b o X w l p hl hp hs hX
  have HS := Lib.hid hs
  have HF : Hid (fits (.mk k t n d ks) l p = (decide (l ≠ 0) && (decide (p ≠ 0) && (!(decide (k = 16) && decide (30 < d)) && fitsAll ks (l - 1) (p - 1))))) := Lib.hid (fits_mk k t n d ks l p hp)
  have HSZ : Hid (ksize (.mk k t n d ks) = ksizes ks + 1) := Lib.hid (by rw [ksize])
  have hA : ∀ r w', Lim w X (.mk k t n d ks) l p r w' = (r = .returned (.bool (fits (.mk k t n d ks) l p)) ∧ ButL X w w' ∧ ∃ l' : Nat, l' ≤ l ∧ Lone w' X l' ∧ (fits (.mk k t n d ks) l p = true → l' = l - ksize (.mk k t n d ks))) := fun _ _ => rfl
  have HA := Lib.hid hA; clear hA
  generalize Lim w X (.mk k t n d ks) l p = Post at *
  generalize fits (.mk k t n d ks) l p = R at *
  generalize ksize (.mk k t n d ks) = Z at *
  obtain ⟨vk, c0, c1, c2, c3, c4, hn⟩ := hs
  obtain ⟨-, -, -, -, hks⟩ := kat_iff.1 hn
  simp only [K.kind, K.text, K.num, K.dep, K.kids] at *
  have HKS := Lib.hid hks
  obtain ⟨a, cap, rfl, hm, -⟩ := hks
  unfold maxLen at hm
  have x0 := hX.at0
  have xf := hX.free
  have HX := Lib.hid hX
  have IH := Lib.hid ih
  have c40 := Lib.hid c4
  clear hn hX ih c1 c2
  generalize hN : ks.length = N at *
  have HN := Lib.hid hN; clear hN
  by_cases hl0 : l = 0
  · have hR : R = false := by rw [HF.out, decide_eq_false (fun h => h hl0)]; rfl
    have b1 : ((l : Int) == 0) = true := by rw [beq_iff_eq]; omega
    clear hl0 HF HSZ
    go_enter Tryz.func96, Tryz.ntmps96
    go_wp2_with fail
    try go_ret
    rw [HA.out]
    exact ⟨by first | (rw [hR]; rfl) | rw [hR], ButL.refl _ _, l, Nat.le_refl _, HX.out, fun h => by rw [hR] at h; cases h⟩
  have b1 : ((l : Int) == 0) = false := by rw [beq_eq_false_iff_ne]; omega
  by_cases hp0 : p = 0
  · have hR : R = false := by rw [HF.out, decide_eq_false (show ¬ p ≠ 0 from fun h => h hp0)]; simp
    have b2 : ((p : Int) == 0) = true := by rw [beq_iff_eq]; omega
    clear hp0 HF HSZ
    go_enter Tryz.func96, Tryz.ntmps96
    go_wp2_with fail
    try go_ret
    rw [HA.out]
    exact ⟨by first | (rw [hR]; rfl) | rw [hR], ButL.refl _ _, l, Nat.le_refl _, HX.out, fun h => by rw [hR] at h; cases h⟩
  have b2 : ((p : Int) == 0) = false := by rw [beq_eq_false_iff_ne]; omega
  by_cases hbad : k = 16 ∧ 30 < d
  · have hR : R = false := by rw [HF.out, decide_eq_true hbad.1, decide_eq_true hbad.2]; simp
    obtain ⟨rfl, hd⟩ := hbad
    go_enter Tryz.func96, Tryz.ntmps96
    go_wp2_with fail
    try go_ret
    rw [HA.out]
    exact ⟨by first | (rw [hR]; rfl) | rw [hR], ButL.refl _ _, l, Nat.le_refl _, HX.out, fun h => by rw [hR] at h; cases h⟩
  have hR : R = fitsAll ks (l - 1) (p - 1) := by
    rw [HF.out, decide_eq_true hl0, decide_eq_true hp0]
    have : (decide (k = 16) && decide (30 < d)) = false := by
      rw [← Bool.not_eq_true, Bool.and_eq_true, decide_eq_true_eq, decide_eq_true_eq]; exact hbad
    rw [this]; simp
  have HR := Lib.hid hR
  have HTEST : Hid ((k == 16) = false ∨ (k = 16 ∧ ¬ 30 < d)) := Lib.hid (by
    by_cases h : k = 16
    · exact .inr ⟨h, fun h2 => hbad ⟨h, h2⟩⟩
    · exact .inl (by rw [beq_eq_false_iff_ne]; exact h))
  obtain ⟨l1, hl1⟩ : ∃ l1 : Nat, (l : Int) - 1 = (l1 : Int) := ⟨l - 1, by omega⟩
  obtain ⟨p1, hp1⟩ : ∃ p1 : Nat, (p : Int) - 1 = (p1 : Int) := ⟨p - 1, by omega⟩
  rw [show l - 1 = l1 by omega, show p - 1 = p1 by omega] at HR
  have HLP : Hid (l = l1 + 1 ∧ p = p1 + 1) := Lib.hid (by omega)
  clear hbad hR hl0 hp0 HF
  obtain ⟨W, hW⟩ : ∃ W, W = w.setCell ⟨X, 0, none⟩ (.int .i64 l1) := ⟨_, rfl⟩
  have HW := Lib.hid hW
  have HB0 : Hid (ButL X w W) := Lib.hid (by rw [hW]; exact butl_set _ _ _ _)
  have HL0 : Hid (Lone W X l1) := Lib.hid (by rw [hW]; exact HX.out.set l1)
  clear hW
  rcases HTEST.out with h16 | ⟨rfl, h30⟩
  all_goals
    clear HTEST
    go_enter Tryz.func96, Tryz.ntmps96
    go_upto_region 4 with fail
    rw [← HW.out]
    have c4 := HB0.out.cell (spot_far HS.out HX.out) c4
    go_wp2_with fail
    go_loopw [40] (fun j wr => ∃ i : Nat, i ≤ N ∧ j = .int .i64 i ∧ fitsAll (ks.take i) l1 p1 = true ∧ ButL X w wr ∧ Lone wr X ((l1 - ksizes (ks.take i) : Nat) : Int)) (fun j _ => N - (intOf j).toNat)
    case atStart => exact ⟨0, by omega, rfl, by simp [fitsAll, ksizes, kdeeps], HB0.out, by simpa [ksizes] using HL0.out⟩
    case round =>
      obtain ⟨i, hi, rfl, hq, hbw, hlw⟩ := hrel
      have HQ := Lib.hid hq; clear hq
      have HBW := Lib.hid hbw; clear hbw
      have HLW := Lib.hid hlw; clear hlw
      have d4 := HBW.out.cell (spot_far HS.out HX.out) c40.out
      by_cases hlt : i < N
      · have hil : i < ks.length := by rw [HN.out]; exact hlt
        obtain ⟨kb, off, rfl, hb, hr⟩ := HKS.out.at hil
        have hr1 := spot_but hr HX.out HBW.out
        have KI := Lib.hid (IH.out _ (List.getElem_mem hil) lo kb (off + i * 5) X wr (l1 - ksizes (ks.take i)) p1 (by omega) (by omega) hr1 HLW.out)
        have HYES : Hid (fits ks[i] (l1 - ksizes (ks.take i)) p1 = true → fitsAll (ks.take (i + 1)) l1 p1 = true) := Lib.hid (fun h => fitsAll_take ks l1 p1 i hil HQ.out h)
        have HNO : Hid (fits ks[i] (l1 - ksizes (ks.take i)) p1 = false → R = false) := Lib.hid (fun h => by rw [HR.out]; exact fitsAll_no ks l1 p1 i hil h)
        have HTK : Hid (ksizes (ks.take (i + 1)) = ksizes (ks.take i) + ksize ks[i]) := Lib.hid (ksizes_take ks i hil)
        clear hr hr1
        unfold Lim at KI
        generalize ks[i] = e at *
        generalize hq' : ksizes (ks.take i) = q at *
        generalize fits e (l1 - q) p1 = B at *
        cases B with
        | true =>
          go_wp2_with fail
          refine KI.out.mono ?_
          rintro r w1 ⟨rfl, hb1, l', hl', hL1, hl2⟩
          have HB1 := Lib.hid (HBW.out.trans hb1)
          have HL1 := Lib.hid hL1
          have HE2 : Hid (l' = l1 - q - ksize e) := Lib.hid (by first | exact hl2 rfl | exact hl2 trivial)
          have HY := Lib.hid (by first | exact HYES.out rfl | exact HYES.out trivial)
          clear hb1 hL1 hl2 d4 hl'
          go_wp2_with fail
          go_roundw
          case rel => exact ⟨i + 1, by omega, by go_num, HY.out, HB1.out, by rw [HTK.out, show l1 - (q + ksize e) = l' by have := HE2.out; omega]; exact HL1.out⟩
          case measure => simp [intOf]; omega
        | false =>
          have HRF : Hid (R = false) := Lib.hid (by first | exact HNO.out rfl | exact HNO.out trivial)
          go_wp2_with fail
          refine KI.out.mono ?_
          rintro r w1 ⟨rfl, hb1, l', hl', hL1, -⟩
          have HB1 := Lib.hid (HBW.out.trans hb1)
          have HL1 := Lib.hid hL1
          clear hb1 hL1 d4
          go_wp2_with fail
          try go_ret
          rw [HA.out]
          exact ⟨by rw [HRF.out]; rfl, HB1.out, l', by have := HLP.out.1; omega, HL1.out, fun h => by rw [HRF.out] at h; cases h⟩
      · have hT : ks.take i = ks := List.take_of_length_le (by rw [HN.out]; omega)
        have HRT : Hid (R = true) := Lib.hid (by rw [HR.out]; have := HQ.out; rwa [hT] at this)
        rw [hT] at HLW
        clear hT
        go_wp2_with fail
        try go_ret
        rw [HA.out]
        exact ⟨by rw [HRT.out]; rfl, HBW.out, l1 - ksizes ks, by have := HLP.out.1; omega, HLW.out, fun _ => by rw [HSZ.out]; have := HLP.out.1; omega⟩
end Go.Proofs.YtekeondbbikkpaaGreat.ImplCore

namespace Go.Proofs.YtekeondbbikkpaaGreat.ImplCore
open Go.RowKit
open Strs Tree Core Go.Proofs.YtekeondbbikkpaaGreat.Data
open SpecCore (draws_low text0 nat0 args_ge args_le LOk regrown_below)
set_option linter.unusedVariables false
theorem lone_new (w : World) (n : Int) (T : TypeId) : Lone (w.alloc (.cells #[.int .i64 n] T)) w.heap.size n := by
  refine ⟨by go_simp, fun o v ho e => ?_, by go_simp⟩
  rw [World.cell?_alloc_new] at e
  have := (Array.getElem?_eq_some_iff.1 e).1
  simp at this
  omega
theorem ck_pair {w : World} {g lb C : Nat} {p s : Int} (h0 : w.cell? ⟨g, 0, none⟩ = some (.int .i64 C)) (h1 : w.cell? ⟨g, 1, none⟩ = some (.slice (some ⟨lb, 0, none⟩) 1 1)) (h2 : w.cell? ⟨lb, 0, none⟩ = some (.int .i64 p)) (h3 : w.cell? ⟨lb, 1, none⟩ = some (.int .i64 s)) : Ck w g C [(p, s)] :=
  ⟨h0, _, 1, h1, ⟨Nat.le_refl _, by unfold maxLen; omega⟩, fun _ => ⟨lb, 0, rfl, fun j q hj => by
    match j, hj with
    | 0, hj => cases hj; exact ⟨h2, h3⟩⟩⟩
theorem butl_new {w w' : World} {o : Obj} (h : ButL w.heap.size (w.alloc o) w') : Below w.heap.size w w' :=
  ((Below.refl _ _).alloc (Nat.le_refl _) o).trans (h.below (Nat.le_refl _) (by simp))
set_option maxRecDepth 10000 in
set_option maxHeartbeats 8000000 in
theorem limits_any {lo b o : Nat} {w : World} {r : R} (h : RAt lo w b o r) :
    Calls Tryz.prog 76 #[.pointer (some ⟨b, o, none⟩)] w fun e w' => e = .returned (.bool (limitsB r)) ∧ Below w.heap.size w w' := by
  obtain ⟨-, -, -, -, c4, hs, -⟩ := h
  have hb0 : Below w.heap.size w (w.alloc (.cells #[.int .i64 500] 3)) := (Below.refl _ _).alloc (Nat.le_refl _) _
  have KL := Lib.hid (lim_node r.body lo b (o + 5) w.heap.size _ 500 40 (by omega) (by omega) (hs.below hb0) (lone_new w 500 3))
  unfold Lim at KL
  rw [show ((40 : Nat) : Int) = 40 from rfl] at KL
  have HV : Hid (limitsB r = (decide (r.slots ≤ 30) && fits r.body 500 40)) := Lib.hid rfl
  generalize limitsB r = R at *
  generalize fits r.body 500 40 = F at *
  have HB0 := Lib.hid hb0
  have d4 := cell_keep hb0 c4
  clear hs hb0
  generalize r.slots = sl at *
  by_cases h1 : sl ≤ 30
  case neg =>
    have hR : R = false := by rw [HV.out, decide_eq_false h1]; rfl
    subst hR
    go_enter Tryz.func76, Tryz.ntmps76
    go_wp2_with fail
    go_ret
    exact ⟨rfl, HB0.out⟩
  rw [decide_eq_true h1] at HV
  go_enter Tryz.func76, Tryz.ntmps76
  go_wp2_with fail
  refine KL.out.mono ?_
  rintro e w1 ⟨rfl, hbl, -⟩
  have H1 := Lib.hid (butl_new hbl)
  clear hbl
  go_wp2_with fail
  go_ret
  exact ⟨by rw [HV.out]; rfl, H1.out⟩
set_option maxRecDepth 10000 in
set_option maxHeartbeats 8000000 in
theorem rright_any {lo b o C : Nat} {w : World} {r : R} (hr : OkI C r.body) (h : RAt lo w b o r) (hz : kweight r.body ≤ 1048576) (hp : 0 ≤ r.params) :
    Calls Tryz.prog 49 #[.pointer (some ⟨b, o, none⟩), .int .i64 C] w fun e w' => e = .returned (.bool (bodyB C r)) ∧ Below w.heap.size w w' := by
  have KL := fun (w' : World) (hb : Below w.heap.size w w') => Lib.hid (limits_any (h.below hb))
  have HV : Hid (bodyB C r = (decide (r.params ≤ r.slots) && (limitsB r && kright C [(r.params, r.slots)] r.body))) := Lib.hid (by
    unfold bodyB
    rw [decide_eq_true hp, Bool.true_and]
    cases limitsB r <;> cases decide (r.params ≤ r.slots) <;> rfl)
  have KR := fun (w' : World) (g : Nat) (hb : Below w.heap.size w w') (hg : Ck w' g C [(r.params, r.slots)]) (hl : limitsB r = true) (hps : r.params ≤ r.slots) => Lib.hid (hr lo b (o + 5) g w' [(r.params, r.slots)] hz (by
    unfold limitsB fits at hl
    simp only [Bool.and_eq_true, decide_eq_true_eq] at hl
    omega) (h.2.2.2.2.2.1.below hb) hg ⟨by simp, fun x hx => by
      simp only [List.mem_singleton] at hx
      subst hx
      unfold limitsB at hl
      simp only [Bool.and_eq_true, decide_eq_true_eq] at hl
      exact ⟨hp, hps, hl.1⟩⟩ (by have := ksize_weight r.body; simp; omega))
  obtain ⟨c0, c1, c2, c3, c4, -⟩ := id h
  generalize bodyB C r = R at *
  generalize limitsB r = Lm at *
  generalize kright C [(r.params, r.slots)] r.body = Q at *
  clear hr h hz hp c0 c1 c2
  generalize r.params = rp at *
  generalize r.slots = rs at *
  go_enter Tryz.func49, Tryz.ntmps49
  go_upto_region 1 with fail
  go_cut [5] from 6 to 17 (fun v wx => ∃ g, v = .pointer (some ⟨g, 0, none⟩) ∧ Ck wx g C [(rp, rs)] ∧ Below w.heap.size w wx)
  case first =>
    have hbZ : Below w.heap.size w (w.alloc (.cells #[.int .i64 0, .slice none 0 0] 113)).drew := ((Below.refl _ _).alloc (Nat.le_refl _) _).drew
    have q3 := cell_keep hbZ c3; have q4 := cell_keep hbZ c4
    clear hbZ
    go_region
    all_goals
      go_wp2_with fail
      go_meet
      first
        | (refine ⟨w.heap.size + 1, rfl, ck_pair (lb := w.heap.size) ?_ ?_ ?_ ?_, (((Below.refl _ _).alloc (Nat.le_refl _) _).alloc (by simp) _).drew⟩ <;> (go_simp; done))
        | (refine ⟨w.heap.size, rfl, ck_pair (lb := w.heap.size + 1) ?_ ?_ ?_ ?_, (((Below.refl _ _).alloc (Nat.le_refl _) _).alloc (by simp) _).drew⟩ <;> (go_simp; done))
  case rest =>
    obtain ⟨g, rfl, hck, hb⟩ := hcut
    have HB := Lib.hid hb
    have d3 := cell_keep hb c3
    have d4 := cell_keep hb c4
    have k3 := cell_regrown d3; have k4 := cell_regrown d4
    have KLr := fun d os => Lib.hid (Calls.regrown_of (w := wc) (d := d) (os := os) (KL _ (hb.trans ((below_regrown wc d os).mono hb.size))).out)
    by_cases h1 : rp ≤ rs
    case neg =>
      rw [decide_eq_false h1] at HV
      have h1' : decide (rp ≤ rs) = false := decide_eq_false h1
      clear hck hb d3 d4 c3 c4
      go_upto_region 2 with fail
      refine wp_region_quiet_below (by kernel_rfl) (by kernel_rfl) ?_
      repeat (go_big_quiet_step (fail))
      refine wpQuiet_nil ?_
      intro w2 hw2
      have HB2 := Lib.hid (HB.out.trans ((regrown_below hw2).mono HB.out.size)); clear hw2 k3 k4
      go_wp2_with fail
      go_ret
      exact ⟨by rw [HV.out]; rfl, HB2.out⟩
    rw [decide_eq_true h1] at HV
    cases Lm with
    | false =>
      clear hck hb d3 d4 c3 c4
      go_upto_region 2 with fail
      refine wp_region_quiet_below (by kernel_rfl) (by kernel_rfl) ?_
      repeat (go_big_quiet_step ((go_at_call 76; exact (KLr _ _).out)))
      refine wpQuiet_nil ?_
      intro w2 hw2
      have HB2 := Lib.hid (HB.out.trans ((regrown_below hw2).mono HB.out.size)); clear hw2 k3 k4
      go_wp2_with fail
      go_ret
      exact ⟨by rw [HV.out]; rfl, HB2.out⟩
    | true =>
      have KRr := fun d os => Lib.hid (Calls.regrown_of (w := wc) (d := d) (os := os) (KR _ g (hb.trans ((below_regrown wc d os).mono hb.size)) (hck.below (below_regrown wc d os)) (by trivial) h1).out)
      clear hck hb d3 d4 c3 c4
      go_upto_region 2 with fail
      refine wp_region_quiet_below (by kernel_rfl) (by kernel_rfl) ?_
      repeat (go_big_quiet_step (first
        | (go_at_call 76; exact (KLr _ _).out)
        | (go_at_call 77; exact (KRr _ _).out)))
      refine wpQuiet_nil ?_
      intro w2 hw2
      have HB2 := Lib.hid (HB.out.trans ((regrown_below hw2).mono HB.out.size)); clear hw2 k3 k4
      go_wp2_with fail
      go_ret
      exact ⟨by rw [HV.out]; rfl, HB2.out⟩
def ofB (C : Nat) (r : R) : Bool := (Tok.sel r.sel && (decide (Tok.countArgs r.sel = r.params) && (decide (16 ≤ r.owner) && decide (r.owner < C)))) && bodyB C r
set_option maxRecDepth 10000 in
set_option maxHeartbeats 8000000 in
theorem of_any {lo b o C : Nat} {w : World} {r : R} (hr : OkI C r.body) (h : RAt lo w b o r) (hz : kweight r.body ≤ 1048576) (hs : r.sel.size ≤ 1048576) :
    Calls Tryz.prog 23 #[.pointer (some ⟨b, o, none⟩), .int .i64 C] w fun e w' => e = .returned (.bool (methB C r)) ∧ Below w.heap.size w w' := by
  have hm : methB C r = ((Tok.sel r.sel && (decide (Tok.countArgs r.sel = r.params) && (decide (16 ≤ r.owner) && decide (r.owner < C)))) && bodyB C r) := rfl
  have hge := args_ge r.sel
  have hsl := SpecCore.sel_args r.sel
  have KS := fun d os => Lib.hid (Calls.regrown_of (w := w) (d := d) (os := os) (ImplCount.sel_any r.sel _ hs))
  have KC := fun d os => Lib.hid (Calls.regrown_of (w := w) (d := d) (os := os) (ImplCount.count_any r.sel _ hs))
  have KB := fun d os (hp : 0 ≤ r.params) => Lib.hid (Calls.regrown_of (w := w) (d := d) (os := os) (rright_any hr (h.below (below_regrown w d os)) hz hp))
  obtain ⟨c0, c1, c2, c3, c4, -⟩ := id h
  have k0 := cell_regrown c0; have k1 := cell_regrown c1; have k3 := cell_regrown c3
  have HM := Lib.hid hm
  clear hm hr h hz hs c0 c1 c2 c3 c4
  generalize methB C r = M at *
  generalize Tok.sel r.sel = S at *
  generalize Tok.countArgs r.sel = c at *
  generalize bodyB C r = B at *
  generalize r.params = rp at *
  generalize r.owner = ro at *
  have h5 : (S = false ∧ M = false) ∨ (S = true ∧ (c == rp) = false ∧ M = false) ∨ (S = true ∧ (c == rp) = true ∧ decide (16 ≤ ro) = false ∧ M = false) ∨ (S = true ∧ (c == rp) = true ∧ decide (16 ≤ ro) = true ∧ decide (ro < (C : Int)) = false ∧ M = false) ∨ (S = true ∧ (c == rp) = true ∧ decide (16 ≤ ro) = true ∧ decide (ro < (C : Int)) = true ∧ M = B ∧ 0 ≤ rp) := by
    cases hS : S with
    | false => exact .inl ⟨rfl, by rw [HM.out, hS]; rfl⟩
    | true =>
      rw [hS] at hsl
      have hc0 := of_decide_eq_true hsl.symm
      by_cases h1 : c = rp
      case neg => exact .inr (.inl ⟨rfl, by rw [beq_eq_false_iff_ne]; exact h1, by rw [HM.out, hS, decide_eq_false h1]; rfl⟩)
      by_cases h2 : 16 ≤ ro
      case neg => exact .inr (.inr (.inl ⟨rfl, by rw [beq_iff_eq]; exact h1, decide_eq_false h2, by rw [HM.out, hS, decide_eq_true h1, decide_eq_false h2]; rfl⟩))
      by_cases h3 : ro < (C : Int)
      case neg => exact .inr (.inr (.inr (.inl ⟨rfl, by rw [beq_iff_eq]; exact h1, decide_eq_true h2, decide_eq_false h3, by rw [HM.out, hS, decide_eq_true h1, decide_eq_true h2, decide_eq_false h3]; rfl⟩)))
      exact .inr (.inr (.inr (.inr ⟨rfl, by rw [beq_iff_eq]; exact h1, decide_eq_true h2, decide_eq_true h3, by rw [HM.out, hS, decide_eq_true h1, decide_eq_true h2, decide_eq_true h3]; rfl, by omega⟩)))
  clear HM hsl hge
  rcases h5 with ⟨rfl, rfl⟩ | ⟨rfl, g1, rfl⟩ | ⟨rfl, g1, g2, rfl⟩ | ⟨rfl, g1, g2, g3, rfl⟩ | ⟨rfl, g1, g2, g3, rfl, hp⟩
  all_goals
    try have KB2 := fun d os => KB d os hp
    clear KB
    go_enter Tryz.func23, Tryz.ntmps23
    go_upto_region 1 with fail
    refine wp_region_quiet_below (by kernel_rfl) (by kernel_rfl) ?_
    repeat (go_big_quiet_step (first
      | (go_at_call 47; exact (KS _ _).out)
      | (go_at_call 48; exact (KC _ _).out)
      | (go_at_call 49; exact (KB2 _ _).out)))
    refine wpQuiet_nil ?_
    intro w2 hw2
    have HB2 := Lib.hid (regrown_below hw2); clear hw2 k0 k1 k3
    go_wp2_with fail
    go_ret
    exact ⟨rfl, HB2.out⟩
set_option maxRecDepth 10000 in
set_option maxHeartbeats 8000000 in
theorem main_any {lo b o C : Nat} {w : World} {r : R} (hr : OkI C r.body) (h : RAt lo w b o r) (hz : kweight r.body ≤ 1048576) :
    Calls Tryz.prog 24 #[.pointer (some ⟨b, o, none⟩), .int .i64 C] w fun e w' => e = .returned (.bool (mainB C r)) ∧ Below w.heap.size w w' := by
  have hm : mainB C r = ((decide (r.sel = ⟨#[109, 97, 105, 110]⟩) && (decide (r.owner = -1) && (!r.cls && decide (r.params = 0)))) && bodyB C r) := rfl
  have KB := fun (hp : 0 ≤ r.params) => Lib.hid (rright_any hr h hz hp)
  obtain ⟨c0, c1, c2, c3, c4, -⟩ := id h
  have HM := Lib.hid hm
  clear hm hr h hz c4
  generalize mainB C r = M at *
  generalize bodyB C r = B at *
  generalize r.params = rp at *
  generalize r.owner = ro at *
  generalize r.cls = rc at *
  generalize r.sel = rs at *
  have hse : ∀ h : rs = ⟨#[109, 97, 105, 110]⟩, (rs.toList == [109, 97, 105, 110]) = true := fun h => by rw [h, ByteArray.toList_eq]; rfl
  have hsn : ∀ h : ¬ rs = ⟨#[109, 97, 105, 110]⟩, (rs.toList == [109, 97, 105, 110]) = false := fun h => by
    rw [beq_eq_false_iff_ne]
    intro e
    apply h
    apply ByteArray.ext
    apply Array.ext'
    rw [← ByteArray.toList_eq, e]
  have h5 : ((rs.toList == [109, 97, 105, 110]) = false ∧ M = false) ∨ ((rs.toList == [109, 97, 105, 110]) = true ∧ (ro == -1) = false ∧ M = false) ∨ ((rs.toList == [109, 97, 105, 110]) = true ∧ (ro == -1) = true ∧ rc = true ∧ M = false) ∨ ((rs.toList == [109, 97, 105, 110]) = true ∧ (ro == -1) = true ∧ rc = false ∧ (rp == 0) = false ∧ M = false) ∨ ((rs.toList == [109, 97, 105, 110]) = true ∧ (ro == -1) = true ∧ rc = false ∧ (rp == 0) = true ∧ M = B ∧ 0 ≤ rp) := by
    by_cases h1 : rs = ⟨#[109, 97, 105, 110]⟩
    case neg => exact .inl ⟨hsn h1, by rw [HM.out, decide_eq_false h1]; rfl⟩
    by_cases h2 : ro = -1
    case neg => exact .inr (.inl ⟨hse h1, by rw [beq_eq_false_iff_ne]; exact h2, by rw [HM.out, decide_eq_true h1, decide_eq_false h2]; rfl⟩)
    cases rc with
    | true => exact .inr (.inr (.inl ⟨hse h1, by rw [beq_iff_eq]; exact h2, rfl, by rw [HM.out, decide_eq_true h1, decide_eq_true h2]; rfl⟩))
    | false =>
      by_cases h3 : rp = 0
      case neg => exact .inr (.inr (.inr (.inl ⟨hse h1, by rw [beq_iff_eq]; exact h2, rfl, by rw [beq_eq_false_iff_ne]; exact h3, by rw [HM.out, decide_eq_true h1, decide_eq_true h2, decide_eq_false h3]; rfl⟩)))
      exact .inr (.inr (.inr (.inr ⟨hse h1, by rw [beq_iff_eq]; exact h2, rfl, by rw [beq_iff_eq]; exact h3, by rw [HM.out, decide_eq_true h1, decide_eq_true h2, decide_eq_true h3]; rfl, by omega⟩)))
  clear HM hse hsn
  rcases h5 with ⟨g0, rfl⟩ | ⟨g0, g1, rfl⟩ | ⟨g0, g1, rfl, rfl⟩ | ⟨g0, g1, rfl, g3, rfl⟩ | ⟨g0, g1, rfl, g3, rfl, hp⟩
  case inr.inr.inr.inr =>
    have KB2 := KB hp
    clear KB
    go_enter Tryz.func24, Tryz.ntmps24
    go_wp2_with fail
    refine KB2.out.mono ?_
    rintro e w1 ⟨rfl, hb1⟩
    have H1 := Lib.hid hb1
    clear hb1 c0 c1 c2 c3
    go_wp2_with fail
    go_ret
    exact ⟨rfl, H1.out⟩
  all_goals
    clear KB
    go_enter Tryz.func24, Tryz.ntmps24
    go_wp2_with fail
    go_ret
    exact ⟨rfl, Below.refl _ _⟩
end Go.Proofs.YtekeondbbikkpaaGreat.ImplCore
