/-
  impl's areNames, areValues and isSend: what they answer, given what isValue answers of the trees below.
-/
import Derived.Test.YtdohpppkdecbdaaGreatDoorBImplCount
import Derived.Test.YtdohpppkdecbdaaGreatDoorBImplQuot
import Derived.Test.YtdohpppkdecbdaaGreatDoorBRights
import Derived.Lib.QuietBelow
namespace Go.Proofs.YtdohpppkdecbdaaGreatDoor.ImplVals
open Go.RowKit
open Strs Tree Soft ImplLike ImplPlain Rights
open ImplTok (Part)
theorem regrown_below {w w' : World} (h : ∃ p : Regrown, w' = Sort.grow (redrawn w p.d) p.os) : Below w.heap.size w w' := by
  obtain ⟨p, rfl⟩ := h
  exact below_regrown _ _ _
def OkV (e : E) : Prop := ∀ (w : World) (a : Addr), weight e ≤ 1048576 → Nd w a e → Calls Tryz.prog 80 #[.pointer (some a)] w (Part (right e false) w)
def OkS (e : E) : Prop := ∀ (w : World) (a : Addr), weight e ≤ 1048576 → Nd w a e → Calls Tryz.prog 69 #[.pointer (some a)] w (Part (right e true) w)
def KidsNd (w : World) (x : Option Addr) (ks : List E) : Prop := ∀ i (h : i < ks.length), ∃ kb ko, x = some ⟨kb, ko, none⟩ ∧ Nd w ⟨kb, ko + i * 5, none⟩ ks[i]
theorem KidsNd.keep {w w' : World} {x : Option Addr} {ks : List E} (h : KidsNd w x ks) (hb : Below w.heap.size w w') : KidsNd w' x ks := fun i hi => by
  obtain ⟨kb, ko, e, hn⟩ := h i hi
  exact ⟨kb, ko, e, hn.keep hb⟩
set_option maxHeartbeats 1000000 in
theorem names_any {lo : Nat} {w : World} {v : Value} {ns : List ByteArray} (h : Texts lo w ns v) : Calls Tryz.prog 53 #[v] w (Part (ns.all Tok.isName) w) := by
  obtain ⟨a, cap, rfl, hm, -, hc⟩ := h
  unfold maxLen at hm
  have KN := fun s w => Lib.hid (ImplTok.is_name s w)
  have HC := Lib.hid hc; clear hc
  generalize hD : ns.all Tok.isName = D
  have HD := Lib.hid hD; clear hD
  obtain ⟨n, hn⟩ : ∃ n, ns.length = n := ⟨_, rfl⟩
  rw [hn] at hm ⊢
  have HN := Lib.hid hn; clear hn
  go_enter Tryz.func53, Tryz.ntmps53
  go_wp2_with fail
  go_loopw [7] (fun j wr => ∃ i : Nat, i ≤ n ∧ j = .int .i64 i ∧ Below w.heap.size w wr ∧ Hid (∀ j (h : j < ns.length), j < i → Tok.isName ns[j] = true)) (fun j _ => n - (intOf j).toNat)
  case atStart => exact ⟨0, by omega, rfl, Below.refl _ _, fun j _ h => by omega⟩
  case round =>
    obtain ⟨i, hi, rfl, hbw, HI⟩ := hrel
    by_cases hlt : i < n
    · have hil : i < ns.length := by rw [HN.out]; exact hlt
      obtain ⟨b, off, rfl, _, hd⟩ := HC.out (by have := HN.out; omega)
      have c0 : wr.cell? ⟨b, off + i, none⟩ = some (.string ns[i]) := cell_keep hbw (hd i hil)
      have HB := Lib.hid hbw
      clear hd hbw
      generalize hs : ns[i] = s at *
      have HS := Lib.hid hs; clear hs
      cases hv : Tok.isName s with
      | true =>
        have KS := Lib.hid (KN s wr).out
        rw [hv] at KS
        have HV := Lib.hid hv; clear hv
        go_wp2_with fail
        refine KS.out.mono ?_
        rintro r w1 ⟨rfl, hb1⟩
        have HB1 := Lib.hid (HB.out.trans (hb1.mono HB.out.size))
        clear hb1 c0
        go_wp2_with fail
        go_roundw
        case rel =>
          refine ⟨i + 1, by omega, by go_num, HB1.out, fun j hj hji => ?_⟩
          by_cases e : j = i
          · subst e; rw [HS.out]; exact HV.out
          · exact HI.out j hj (by omega)
        case measure => simp [intOf]; omega
      | false =>
        have KS := Lib.hid (KN s wr).out
        rw [hv] at KS
        have hD : D = false := by
          rw [← HD.out, List.all_eq_false]
          exact ⟨ns[i], List.getElem_mem hil, by rw [HS.out, hv]; simp⟩
        subst hD
        clear hv
        go_wp2_with fail
        refine KS.out.mono ?_
        rintro r w1 ⟨rfl, hb1⟩
        have HB1 := Lib.hid (HB.out.trans (hb1.mono HB.out.size))
        clear hb1 c0
        go_wp2_with fail
        go_ret
        exact ⟨rfl, HB1.out⟩
    · have hD : D = true := by
        rw [← HD.out, List.all_eq_true]
        intro x hx
        obtain ⟨j, hj, rfl⟩ := List.getElem_of_mem hx
        exact HI.out j hj (by have := HN.out; omega)
      subst hD
      go_wp2_with fail
      go_ret
      exact ⟨rfl, hbw⟩
set_option maxHeartbeats 1000000 in
theorem vals_any {w : World} {x : Option Addr} {ks : List E} {cap : Nat} (ih : ∀ e, e ∈ ks → OkV e) (hw : weights ks ≤ 1048576) (h : KidsNd w x ks) (hm : ks.length ≤ cap ∧ cap ≤ maxLen) :
    Calls Tryz.prog 79 #[.slice x ks.length cap] w (Part (rights false ks) w) := by
  unfold maxLen at hm
  have IH := Lib.hid ih
  have HC := Lib.hid h
  have HW := Lib.hid hw
  clear ih h hw
  rw [rights_false]
  generalize hD : ks.all (fun e => right e false) = D
  have HD := Lib.hid hD; clear hD
  generalize hn : ks.length = n at *
  have HN := Lib.hid hn; clear hn
  go_enter Tryz.func79, Tryz.ntmps79
  go_wp2_with fail
  go_loopw [6] (fun j wr => ∃ i : Nat, i ≤ n ∧ j = .int .i64 i ∧ Below w.heap.size w wr ∧ Hid (∀ j (h : j < ks.length), j < i → right ks[j] false = true)) (fun j _ => n - (intOf j).toNat)
  case atStart => exact ⟨0, by omega, rfl, Below.refl _ _, fun j _ h => by omega⟩
  case round =>
    obtain ⟨i, hi, rfl, hbw, HI⟩ := hrel
    by_cases hlt : i < n
    · have hil : i < ks.length := by rw [HN.out]; exact hlt
      obtain ⟨b, off, rfl, hnd⟩ := HC.out i hil
      have hwk : weight ks[i] ≤ 1048576 := by have := weight_kid ks i hil; have := HW.out; omega
      have KS := Lib.hid (IH.out _ (List.getElem_mem hil) wr _ hwk (hnd.keep hbw))
      have HB := Lib.hid hbw
      clear hnd hbw hwk
      generalize hs : ks[i] = s at *
      have HS := Lib.hid hs; clear hs
      cases hv : right s false with
      | true =>
        rw [hv] at KS
        have HV := Lib.hid hv; clear hv
        go_wp2_with fail
        refine KS.out.mono ?_
        rintro r w1 ⟨rfl, hb1⟩
        have HB1 := Lib.hid (HB.out.trans (hb1.mono HB.out.size))
        clear hb1
        go_wp2_with fail
        go_roundw
        case rel =>
          refine ⟨i + 1, by omega, by go_num, HB1.out, fun j hj hji => ?_⟩
          by_cases e : j = i
          · subst e; rw [HS.out]; exact HV.out
          · exact HI.out j hj (by omega)
        case measure => simp [intOf]; omega
      | false =>
        rw [hv] at KS
        have hD : D = false := by
          rw [← HD.out, List.all_eq_false]
          exact ⟨ks[i], List.getElem_mem hil, by rw [HS.out, hv]; simp⟩
        subst hD
        clear hv
        go_wp2_with fail
        refine KS.out.mono ?_
        rintro r w1 ⟨rfl, hb1⟩
        have HB1 := Lib.hid (HB.out.trans (hb1.mono HB.out.size))
        clear hb1
        go_wp2_with fail
        go_ret
        exact ⟨rfl, HB1.out⟩
    · have hD : D = true := by
        rw [← HD.out, List.all_eq_true]
        intro x hx
        obtain ⟨j, hj, rfl⟩ := List.getElem_of_mem hx
        exact HI.out j hj (by have := HN.out; omega)
      subst hD
      go_wp2_with fail
      go_ret
      exact ⟨rfl, hbw⟩
theorem see2 {w : World} {a : Addr} {e : E} (h : Nd w a e) : ∃ b o vn x cap, a = ⟨b, o, none⟩ ∧ w.cell? ⟨b, o, none⟩ = some (.int .i64 e.kind) ∧ w.cell? ⟨b, o + 1, none⟩ = some (.string e.text) ∧ w.cell? ⟨b, o + 2, none⟩ = some (.int .i64 e.num) ∧
    w.cell? ⟨b, o + 3, none⟩ = some vn ∧ w.cell? ⟨b, o + 4, none⟩ = some (.slice x e.kids.length cap) ∧ (e.kids.length ≤ cap ∧ cap ≤ maxLen) ∧ Texts 0 w e.names vn ∧ KidsNd w x e.kids := by
  have h' := fun i (hi : i < e.kids.length) => h.kid_is hi
  obtain ⟨b, o, vn, x, cap, rfl, c0, c1, c2, c3, c4, hm1, hm2, hx, -, -, -, hk⟩ := h.see
  refine ⟨b, o, vn, x, cap, rfl, c0, c1, c2, c3, c4, ⟨hm1, hm2⟩, hx, fun i hi => ?_⟩
  obtain ⟨kb, ko, e1, e2⟩ := hk i hi
  exact ⟨kb, ko, e1, by rw [← e2]; exact h' i hi⟩
set_option maxRecDepth 10000 in
set_option maxHeartbeats 4000000 in
theorem send_any {w : World} {a : Addr} {k : Int} {t : ByteArray} {n : Int} {ns : List ByteArray} {ks : List E} (r : Int) (hr : r = 0 ∨ r = 1) (ih : ∀ e, e ∈ ks → OkV e) (hw : weight (.mk k t n ns ks) ≤ 1048576) (h : Nd w a (.mk k t n ns ks)) :
    Calls Tryz.prog 92 #[.pointer (some a), .int .i64 r] w (Part (sendB k t n ns ks r) w) := by
  have KP := fun d os => Lib.hid (Calls.regrown_of (w := w) (d := d) (os := os) ((plain_any (h.keep (below_regrown w d os))).mono fun _ _ ⟨h1, h2⟩ => ⟨h1, h2.below⟩))
  obtain ⟨b, o, vn, x, cap, rfl, c0, c1, c2, c3, c4, hm, hx, hk⟩ := see2 h
  clear h
  simp only [E.kind, E.text, E.num, E.names, E.kids] at *
  rw [weight] at hw
  have ht : t.size ≤ 1048576 := by omega
  have KS := fun d os => Lib.hid (Calls.regrown_of (w := w) (d := d) (os := os) (ImplCount.sel_any t _ ht))
  have KC := fun d os => Lib.hid (Calls.regrown_of (w := w) (d := d) (os := os) (ImplCount.count_any t _ ht))
  have KV := fun d os => Lib.hid (Calls.regrown_of (w := w) (d := d) (os := os) (vals_any ih (by omega) (hk.keep (below_regrown w d os)) hm))
  have hcr := SpecNode.count_range t
  obtain ⟨x3, p3, rfl, hm3, -⟩ := hx
  unfold maxLen at hm hm3
  have k0 := cell_regrown c0
  have k1 := cell_regrown c1
  have k4 := cell_regrown c4
  have HS : Hid (sendB k t n ns ks r = (decide (k = 6) && plain k t n ns && Tok.sel t && decide ((ks.length : Int) = r + Tok.countArgs t) && rights false ks)) := rfl
  have HIH := Lib.hid ih
  clear hk ih hw c0 c1 c2 c3 c4 HIH
  generalize sendB k t n ns ks r = D at *
  generalize hrt : rights false ks = R at *
  generalize hpl : plain k t n ns = P at *
  generalize hsl : Tok.sel t = S at *
  generalize hca : Tok.countArgs t = c at *
  generalize hnn : ks.length = N at *
  clear hrt hpl hsl hca hnn
  have hc1 := hcr.1
  have hc2 := hcr.2
  clear hcr
  by_cases h6 : k = 6
  case neg =>
    have hD : D = false := by rw [HS.out, decide_eq_false h6]; rfl
    subst hD
    have b6 : (k == 6) = false := by rw [beq_eq_false_iff_ne]; exact h6
    clear HS h6
    go_enter Tryz.func92, Tryz.ntmps92
    go_wp2_with fail
    refine wp_region_quiet_below (by kernel_rfl) (by kernel_rfl) ?_
    repeat (go_big_quiet_step (fail))
    refine wpQuiet_nil ?_
    intro w2 hw2
    have hb2 := Lib.hid (regrown_below hw2); clear hw2
    go_wp2_with fail
    go_ret
    exact ⟨rfl, hb2.out⟩
  subst h6
  rw [decide_eq_true rfl] at HS
  by_cases hlen : (N : Int) = r + c
  case neg =>
    have hD : D = false := by rw [HS.out, decide_eq_false hlen]; cases P <;> cases S <;> rfl
    subst hD
    have bl : ((N : Int) == r + c) = false := by rw [beq_eq_false_iff_ne]; exact hlen
    have wr1 : IntKind.i64.wrap (r + c) = r + c := IntWalk.i64_in _ (by omega)
    clear HS hlen
    cases P <;> cases S
    all_goals
      go_enter Tryz.func92, Tryz.ntmps92
      go_wp2_with fail
      refine wp_region_quiet_below (by kernel_rfl) (by kernel_rfl) ?_
      repeat (go_big_quiet_step (first
        | (go_at_call 78; exact (KP _ _).out)
        | (go_at_call 91; exact (KS _ _).out)
        | (go_at_call 67; exact (KC _ _).out)))
      refine wpQuiet_nil ?_
      intro w2 hw2
      have hb2 := Lib.hid (regrown_below hw2); clear hw2
      go_wp2_with fail
      go_ret
      exact ⟨rfl, hb2.out⟩
  have bl : ((N : Int) == r + c) = true := by rw [beq_iff_eq]; exact hlen
  have wr1 : IntKind.i64.wrap (r + c) = r + c := IntWalk.i64_in _ (by omega)
  rw [decide_eq_true hlen] at HS
  have HSS := Lib.hid HS.out
  clear HS hlen
  cases P <;> cases S <;> cases R
  all_goals
    have hD := HSS.out
    simp only [Bool.and_true, Bool.and_false] at hD
    subst hD
    clear HSS
    go_enter Tryz.func92, Tryz.ntmps92
    go_wp2_with fail
    refine wp_region_quiet_below (by kernel_rfl) (by kernel_rfl) ?_
    repeat (go_big_quiet_step (first
      | (go_at_call 78; exact (KP _ _).out)
      | (go_at_call 91; exact (KS _ _).out)
      | (go_at_call 67; exact (KC _ _).out)
      | (go_at_call 79; exact (KV _ _).out)))
    refine wpQuiet_nil ?_
    intro w2 hw2
    have hb2 := Lib.hid (regrown_below hw2); clear hw2
    go_wp2_with fail
    go_ret
    exact ⟨rfl, hb2.out⟩
end Go.Proofs.YtdohpppkdecbdaaGreatDoor.ImplVals
