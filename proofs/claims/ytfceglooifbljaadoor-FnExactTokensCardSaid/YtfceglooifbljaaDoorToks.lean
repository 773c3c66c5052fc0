/-
  laws.eqToken, eqTokenS, markTokenS and heldTokenS over slices of tokens: what they answer, and that they write nothing that was there but the marked row.
-/
import Derived.Test.YtfceglooifbljaaDoorSpecTokens
import Derived.Test.YtfceglooifbljaaDoorMark
import Derived.Deep.RegionHeld3
namespace Go.Proofs.YtfceglooifbljaaDoor.Toks
open Go.RowKit
open Strs SpecTokens

theorem row_len (ts : _root_.List Tok.T) : (row ts).length = 3 * ts.length := by
  induction ts with
  | nil => rfl
  | cons t ts ih => rw [row, _root_.List.flatMap_cons, _root_.List.length_append, show (ts.flatMap cells).length = (row ts).length from rfl, ih, _root_.List.length_cons]; simp [cells]; omega
theorem row_at (ts : _root_.List Tok.T) (i : Nat) (h : i < ts.length) : (row ts)[3 * i]? = some (.int .i64 ts[i].kind) ∧ (row ts)[3 * i + 1]? = some (.string ts[i].text) ∧ (row ts)[3 * i + 2]? = some (.int .i64 ts[i].num) := by
  induction ts generalizing i with
  | nil => simp at h
  | cons t ts ih =>
    have e : row (t :: ts) = .int .i64 t.kind :: .string t.text :: .int .i64 t.num :: row ts := rfl
    rw [e]
    cases i with
    | zero => exact ⟨rfl, rfl, rfl⟩
    | succ i =>
      have := ih i (by simpa using h)
      rw [show 3 * (i + 1) = 3 * i + 1 + 1 + 1 by omega]
      simpa using this
/-- The slice value v reads as the tokens ts. -/
def AtT (w : World) (v : Value) (ts : _root_.List Tok.T) : Prop :=
  ∃ a cap, v = .slice a ts.length cap ∧ (0 < ts.length → ∃ b, a = some ⟨b, 0, none⟩ ∧ ∀ i (h : i < ts.length), w.cell? ⟨b, i * 3, none⟩ = some (.int .i64 ts[i].kind) ∧ w.cell? ⟨b, i * 3 + 1, none⟩ = some (.string ts[i].text) ∧ w.cell? ⟨b, i * 3 + 2, none⟩ = some (.int .i64 ts[i].num))
theorem at_own {w : World} {base : Nat} {v : Value} {ts : _root_.List Tok.T} (h : w.ownsRow base 29 3 v ts.length (row ts)) : AtT w v ts := by
  have h' := h
  obtain ⟨_, ⟨rfl, hn⟩ | ⟨g, cap, cur, rfl, _⟩⟩ := h
  · exact ⟨none, 0, by rw [hn], fun hp => by omega⟩
  · refine ⟨_, cap, rfl, fun hp => ⟨g, rfl, fun i hi => ?_⟩⟩
    have hr := row_at ts i hi
    refine ⟨?_, ?_, ?_⟩
    · rw [h'.cellAt _ (by omega), ← hr.1, Nat.mul_comm]
    · rw [h'.cellAt _ (by omega), ← hr.2.1, Nat.mul_comm]
    · rw [h'.cellAt _ (by omega), ← hr.2.2, Nat.mul_comm]
theorem AtT.keep {w w' : World} {v : Value} {ts : _root_.List Tok.T} (h : AtT w v ts) (hb : Below w.heap.size w w') : AtT w' v ts := by
  obtain ⟨a, cap, rfl, hc⟩ := h
  refine ⟨a, cap, rfl, fun hp => ?_⟩
  obtain ⟨b, rfl, hd⟩ := hc hp
  exact ⟨b, rfl, fun i hi => ⟨cell_keep hb (hd i hi).1, cell_keep hb (hd i hi).2.1, cell_keep hb (hd i hi).2.2⟩⟩

theorem eq_tok (k : Int) (t : ByteArray) (n : Int) (w : World) :
    Calls Tryd.prog 12 #[.agg #[.int .i64 k, .string t, .int .i64 n], .agg #[.int .i64 k, .string t, .int .i64 n]] w fun e w' => e = .returned (.bool true) ∧ Below w.heap.size w w' := by
  go_enter Tryd.func12, Tryd.ntmps12
  go_wp2_with fail
  go_ret
  exact ⟨rfl, ((Below.refl _ _).alloc (Nat.le_refl _) _).alloc (by simp) _⟩

set_option maxHeartbeats 1000000 in
theorem eq_nil (a1 a2 : Option Addr) (c1 c2 : Nat) (w : World) :
    Calls Tryd.prog 6 #[.slice a1 0 c1, .slice a2 0 c2] w fun e w' => e = .returned (.bool true) ∧ Below w.heap.size w w' := by
  go_enter Tryd.func6, Tryd.ntmps6
  go_wp2_with fail
  refine wp_loop_rounds 1 ?_
  rw [rounds_succ]
  go_wp2_with fail
  go_ret
  exact ⟨rfl, Below.refl _ _⟩

set_option maxHeartbeats 1000000 in
theorem eq_cons (b1 c1 b2 c2 n : Nat) (ts : _root_.List Tok.T) (w : World) (hn : ts.length = n) (hm : n ≤ 1048576)
    (h1 : ∀ i (h : i < ts.length), w.cell? ⟨b1, i * 3, none⟩ = some (.int .i64 ts[i].kind) ∧ w.cell? ⟨b1, i * 3 + 1, none⟩ = some (.string ts[i].text) ∧ w.cell? ⟨b1, i * 3 + 2, none⟩ = some (.int .i64 ts[i].num))
    (h2 : ∀ i (h : i < ts.length), w.cell? ⟨b2, i * 3, none⟩ = some (.int .i64 ts[i].kind) ∧ w.cell? ⟨b2, i * 3 + 1, none⟩ = some (.string ts[i].text) ∧ w.cell? ⟨b2, i * 3 + 2, none⟩ = some (.int .i64 ts[i].num)) :
    Calls Tryd.prog 6 #[.slice (some ⟨b1, 0, none⟩) n c1, .slice (some ⟨b2, 0, none⟩) n c2] w fun e w' => e = .returned (.bool true) ∧ Below w.heap.size w w' := by
  have H1 := Lib.hid h1; clear h1
  have H2 := Lib.hid h2; clear h2
  have HN := Lib.hid hn; clear hn
  go_enter Tryd.func6, Tryd.ntmps6
  go_wp2_with fail
  go_loopw [5] (fun j wr => ∃ i : Nat, i ≤ n ∧ j = .int .i64 i ∧ Below w.heap.size w wr) (fun j _ => n - (intOf j).toNat)
  case atStart => exact ⟨0, by omega, rfl, Below.refl _ _⟩
  case round =>
    obtain ⟨i, hi, rfl, hbw⟩ := hrel
    by_cases hlt : i < n
    · have hil : i < ts.length := by rw [HN.out]; exact hlt
      obtain ⟨hA0, hA1, hA2⟩ := H1.out i hil
      obtain ⟨hB0, hB1, hB2⟩ := H2.out i hil
      generalize ts[i] = t at *
      have a0 := cell_keep hbw hA0
      have a1 := cell_keep hbw hA1
      have a2 := cell_keep hbw hA2
      have b0 := cell_keep hbw hB0
      have b1' := cell_keep hbw hB1
      have b2' := cell_keep hbw hB2
      clear hA0 hA1 hA2 hB0 hB1 hB2
      go_wp2_with fail
      go_region_held3 (fun w' => w'.cell? ⟨b1, i * 3, none⟩ = some (.int .i64 t.kind) ∧ w'.cell? ⟨b1, i * 3 + 1, none⟩ = some (.string t.text) ∧ w'.cell? ⟨b1, i * 3 + 2, none⟩ = some (.int .i64 t.num) ∧ w'.cell? ⟨b2, i * 3, none⟩ = some (.int .i64 t.kind) ∧ w'.cell? ⟨b2, i * 3 + 1, none⟩ = some (.string t.text) ∧ w'.cell? ⟨b2, i * 3 + 2, none⟩ = some (.int .i64 t.num))
        (first | exact ⟨a0, a1, a2, b0, b1', b2'⟩ | exact ⟨cell_keep hb1 (show wr.drew.cell? _ = _ from a0), cell_keep hb1 (show wr.drew.cell? _ = _ from a1), cell_keep hb1 (show wr.drew.cell? _ = _ from a2), cell_keep hb1 (show wr.drew.cell? _ = _ from b0), cell_keep hb1 (show wr.drew.cell? _ = _ from b1'), cell_keep hb1 (show wr.drew.cell? _ = _ from b2')⟩ | go_keep)
        (first | (go_at_call 12; refine (eq_tok t.kind t.text t.num _).mono ?_; rintro e w1 ⟨rfl, hb1⟩))
      all_goals go_wp2_with fail
      go_roundw
      case rel => exact ⟨i + 1, by omega, by go_num, hbw.drew.trans (hb1.mono hbw.size)⟩
      case measure => simp [intOf]; omega
    · go_wp2_with fail
      go_ret
      exact ⟨rfl, hbw⟩

/-- Both slices read as the same tokens: eqTokenS says so. -/
theorem eq_same {w : World} {v1 v2 : Value} {ts : _root_.List Tok.T} (hm : ts.length ≤ 1048576) (h1 : AtT w v1 ts) (h2 : AtT w v2 ts) :
    Calls Tryd.prog 6 #[v1, v2] w fun e w' => e = .returned (.bool true) ∧ Below w.heap.size w w' := by
  obtain ⟨a1, c1, rfl, hc1⟩ := h1
  obtain ⟨a2, c2, rfl, hc2⟩ := h2
  by_cases hp : 0 < ts.length
  · obtain ⟨b1, rfl, hd1⟩ := hc1 hp
    obtain ⟨b2, rfl, hd2⟩ := hc2 hp
    exact eq_cons b1 c1 b2 c2 ts.length ts w rfl hm hd1 hd2
  · rw [show ts.length = 0 by omega]
    exact eq_nil a1 a2 c1 c2 w

/-- The marks from k on, three a token. -/
def marks (k : Nat) : Nat → _root_.List Value
  | 0 => []
  | n + 1 => marks k n ++ [.int .i64 ((k + 3 * n : Nat) : Int), .string (Mark.mark ((k + 3 * n + 1 : Nat) : Int)), .int .i64 ((k + 3 * n + 2 : Nat) : Int)]
theorem marks_len (k n : Nat) : (marks k n).length = 3 * n := by
  induction n with
  | zero => rfl
  | succ n ih => simp [marks, ih]; omega
theorem marks_at (k n i : Nat) (h : i < n) : (marks k n)[i * 3]? = some (.int .i64 ((k + 3 * i : Nat) : Int)) ∧ (marks k n)[i * 3 + 1]? = some (.string (Mark.mark ((k + 3 * i + 1 : Nat) : Int))) ∧ (marks k n)[i * 3 + 2]? = some (.int .i64 ((k + 3 * i + 2 : Nat) : Int)) := by
  induction n with
  | zero => omega
  | succ n ih =>
    have hl := marks_len k n
    by_cases hi : i < n
    · obtain ⟨h1, h2, h3⟩ := ih hi
      rw [marks, _root_.List.getElem?_append_left (by omega), _root_.List.getElem?_append_left (by omega), _root_.List.getElem?_append_left (by omega)]
      exact ⟨h1, h2, h3⟩
    · obtain rfl : i = n := by omega
      rw [marks, _root_.List.getElem?_append_right (by omega), _root_.List.getElem?_append_right (by omega), _root_.List.getElem?_append_right (by omega), hl, show i * 3 - 3 * i = 0 by omega, show i * 3 + 1 - 3 * i = 1 by omega, show i * 3 + 2 - 3 * i = 2 by omega]
      exact ⟨rfl, rfl, rfl⟩
theorem mark_nil (a : Option Addr) (c k : Nat) (w : World) :
    Calls Tryd.prog 7 #[.slice a 0 c, .int .i64 k] w fun e w' => e = .returned (.int .i64 k) ∧ w = w' := by
  go_enter Tryd.func7, Tryd.ntmps7
  go_wp2_with fail
  refine wp_loop_rounds 1 ?_
  rw [rounds_succ]
  go_wp2_with fail
  go_ret
  exact ⟨rfl, rfl⟩
theorem held_nil (a : Option Addr) (c k : Nat) (w : World) :
    Calls Tryd.prog 8 #[.slice a 0 c, .int .i64 k] w fun e w' => e = .returned (.int .i64 k) ∧ w = w' := by
  go_enter Tryd.func8, Tryd.ntmps8
  go_wp2_with fail
  refine wp_loop_rounds 1 ?_
  rw [rounds_succ]
  go_wp2_with fail
  go_ret
  exact ⟨rfl, rfl⟩
theorem marks_set (k i : Nat) (xs : _root_.List Value) (h : 3 * i + 2 < xs.length) (a b c : Value) (ha : a = .int .i64 ((k + 3 * i : Nat) : Int)) (hb : b = .string (Mark.mark ((k + 3 * i + 1 : Nat) : Int))) (hc : c = .int .i64 ((k + 3 * i + 2 : Nat) : Int)) :
    (((marks k i ++ xs.drop (3 * i)).set (i * 3) a).set (i * 3 + 1) b).set (i * 3 + 2) c = marks k (i + 1) ++ xs.drop (3 * (i + 1)) := by
  have hl := marks_len k i
  subst ha hb hc
  rw [_root_.List.drop_eq_getElem_cons (by omega : 3 * i < xs.length), _root_.List.drop_eq_getElem_cons (by omega : 3 * i + 1 < xs.length), _root_.List.drop_eq_getElem_cons (by omega : 3 * i + 1 + 1 < xs.length)]
  rw [_root_.List.set_append_right _ _ (by omega), _root_.List.set_append_right _ _ (by omega), _root_.List.set_append_right _ _ (by omega), hl, show i * 3 - 3 * i = 0 by omega, show i * 3 + 1 - 3 * i = 1 by omega, show i * 3 + 2 - 3 * i = 2 by omega]
  rw [marks, _root_.List.append_assoc, show 3 * (i + 1) = 3 * i + 1 + 1 + 1 by omega]
  rfl

set_option maxHeartbeats 2000000 in
theorem mark_cons (g cap n base k : Nat) (K : Int) (xs : _root_.List Value) (w : World) (hn : xs.length = 3 * n) (hK : K = k) (hk : 0 < k) (hkn : k + 3 * n ≤ 4611686018427387904)
    (hown : w.ownsRow base 29 3 (.slice (some ⟨g, 0, none⟩) n cap) n xs) :
    Calls Tryd.prog 7 #[.slice (some ⟨g, 0, none⟩) n cap, .int .i64 K] w fun e w' =>
      e = .returned (.int .i64 ((k + 3 * n : Nat) : Int)) ∧ w'.ownsRow base 29 3 (.slice (some ⟨g, 0, none⟩) n cap) n (marks k n) ∧ Below base w w' := by
  obtain ⟨hbg, hgl⟩ := hown.lt g rfl
  subst hK
  have HN := Lib.hid hn; clear hn
  go_enter Tryd.func7, Tryd.ntmps7
  go_wp2_with fail
  go_loopw [1, 5] (fun q j wr => ∃ i : Nat, i ≤ n ∧ j = .int .i64 i ∧ q = .int .i64 ((k + 3 * i : Nat) : Int) ∧ wr.ownsRow base 29 3 (.slice (some ⟨g, 0, none⟩) n cap) n (marks k i ++ xs.drop (3 * i)) ∧ Below base w wr) (fun _ j _ => n - (intOf j).toNat)
  case atStart => exact ⟨0, by omega, rfl, rfl, by simpa [marks] using hown, Below.refl _ _⟩
  case round =>
    obtain ⟨i, hi, rfl, rfl, ho, hbw⟩ := hrel
    by_cases hlt : i < n
    · have HO := Lib.hid ho; clear ho
      have hlen : (marks k i ++ xs.drop (3 * i)).length = 3 * n := by have := HN.out; have := marks_len k i; simp; omega
      have hcl : ∀ r, r < 3 → ∃ v, wr.cell? ⟨g, i * 3 + r, none⟩ = some v := fun r hr => by
        rw [HO.out.cellAt _ (by omega)]
        exact ⟨_, _root_.List.getElem?_eq_getElem (by rw [hlen]; omega)⟩
      obtain ⟨v0, hc0⟩ := hcl 0 (by omega)
      rw [Nat.add_zero] at hc0
      have hfr : ∀ o, wr.frozen? ⟨g, o, none⟩ = false := fun o => HO.out.frozenAt o
      have hpos : (0 : Int) < ((k + 3 * i : Nat) : Int) + 1 := by omega
      have hsm : ((k + 3 * i : Nat) : Int) + 3 ≤ 4611686018427387904 := by omega
      have HM : Hid ((((marks k i ++ xs.drop (3 * i)).set (i * 3) (.int .i64 ((k + 3 * i : Nat) : Int))).set (i * 3 + 1) (.string (Mark.mark (((k + 3 * i : Nat) : Int) + 1)))).set (i * 3 + 2) (.int .i64 (((k + 3 * i : Nat) : Int) + 1 + 1)) = marks k (i + 1) ++ xs.drop (3 * (i + 1))) :=
        marks_set k i xs (by rw [HN.out]; omega) _ _ _ rfl (by congr 2) (by congr 1)
      have HS := Lib.hid (HO.out.stored (i * 3) (.int .i64 ((k + 3 * i : Nat) : Int))).1
      clear hcl HO
      have hl1 : ((marks k i ++ xs.drop (3 * i)).set (i * 3) (.int .i64 ((k + 3 * i : Nat) : Int))).length = 3 * n := by rw [_root_.List.length_set]; exact hlen
      generalize (marks k i ++ xs.drop (3 * i)).set (i * 3) (.int .i64 ((k + 3 * i : Nat) : Int)) = ys at *
      generalize hq : k + 3 * i = q at *
      have HQ := Lib.hid hq; clear hq
      go_wp2_with fail
      refine (Mark.mark_any ((q : Int) + 1) _ hpos (by omega)).mono ?_
      rintro e w1 ⟨rfl, hb1⟩
      have HO1 := Lib.hid (own_keep HS.out hb1)
      have hcl : ∀ r, r < 3 → ∃ v, w1.cell? ⟨g, i * 3 + r, none⟩ = some v := fun r hr => by
        rw [HO1.out.cellAt _ (by omega)]
        exact ⟨_, _root_.List.getElem?_eq_getElem (by rw [hl1]; omega)⟩
      obtain ⟨v1, hc1⟩ := hcl 1 (by omega)
      obtain ⟨v2, hc2⟩ := hcl 2 (by omega)
      have hfr1 : ∀ o, w1.frozen? ⟨g, o, none⟩ = false := fun o => HO1.out.frozenAt o
      have hbw1 : Below base w (wr.setCell ⟨g, i * 3, none⟩ (.int .i64 (q : Int))) := hbw.setCell hbg _
      have HB : Hid (Below base w w1) := hbw1.trans (hb1.mono (by have h1 := hbw1.size; omega))
      clear hcl hc0 hfr HS hb1 hbw hbw1 v0 hl1 hlen
      generalize Mark.mark ((q : Int) + 1) = mk at *
      go_wp2_with fail
      go_roundw
      case rel =>
        have HO2 := ((HO1.out.stored (i * 3 + 1) (.string mk)).1.stored (i * 3 + 2) (.int .i64 ((q : Int) + 1 + 1))).1
        rw [HM.out] at HO2
        refine ⟨i + 1, by omega, by go_num, ?_, HO2, (HB.out.setCell hbg _).setCell hbg _⟩
        have := HQ.out
        congr 1; omega
      case measure => simp [intOf]; omega
    · have hin : i = n := by omega
      subst hin
      go_wp2_with fail
      go_ret
      exact ⟨rfl, by rw [_root_.List.drop_of_length_le (by rw [HN.out]; exact Nat.le_refl _), _root_.List.append_nil] at ho; exact ho, hbw⟩

set_option maxHeartbeats 2000000 in
theorem held_cons (g cap n k : Nat) (K : Int) (w : World) (hK : K = k) (hk : 0 < k) (hkn : k + 3 * n ≤ 4611686018427387904)
    (hc : ∀ i, i < n → w.cell? ⟨g, i * 3, none⟩ = some (.int .i64 ((k + 3 * i : Nat) : Int)) ∧ w.cell? ⟨g, i * 3 + 1, none⟩ = some (.string (Mark.mark ((k + 3 * i + 1 : Nat) : Int))) ∧ w.cell? ⟨g, i * 3 + 2, none⟩ = some (.int .i64 ((k + 3 * i + 2 : Nat) : Int))) :
    Calls Tryd.prog 8 #[.slice (some ⟨g, 0, none⟩) n cap, .int .i64 K] w fun e w' =>
      e = .returned (.int .i64 ((k + 3 * n : Nat) : Int)) ∧ Below w.heap.size w w' := by
  subst hK
  have HC := Lib.hid hc; clear hc
  go_enter Tryd.func8, Tryd.ntmps8
  go_wp2_with fail
  go_loopw [1, 5] (fun q j wr => ∃ i : Nat, i ≤ n ∧ j = .int .i64 i ∧ q = .int .i64 ((k + 3 * i : Nat) : Int) ∧ Below w.heap.size w wr) (fun _ j _ => n - (intOf j).toNat)
  case atStart => exact ⟨0, by omega, rfl, rfl, Below.refl _ _⟩
  case round =>
    obtain ⟨i, hi, rfl, rfl, hbw⟩ := hrel
    by_cases hlt : i < n
    · obtain ⟨hA0, hA1, hA2⟩ := HC.out i hlt
      have a0 := cell_keep hbw hA0
      have a1 := cell_keep hbw hA1
      have a2 := cell_keep hbw hA2
      have e1 : ((k + 3 * i + 1 : Nat) : Int) = ((k + 3 * i : Nat) : Int) + 1 := by omega
      have e2 : ((k + 3 * i + 2 : Nat) : Int) = ((k + 3 * i : Nat) : Int) + 1 + 1 := by omega
      rw [e1] at a1
      rw [e2] at a2
      have hpos : (0 : Int) < ((k + 3 * i : Nat) : Int) + 1 := by omega
      have hsm : ((k + 3 * i : Nat) : Int) + 3 ≤ 4611686018427387904 := by omega
      clear hA0 hA1 hA2 e1 e2
      generalize hq : k + 3 * i = q at *
      have HQ := Lib.hid hq; clear hq
      generalize hmk : Mark.mark ((q : Int) + 1) = mk at *
      have HMK := Lib.hid hmk; clear hmk
      go_wp2_with fail
      go_region_held3 (fun w' => w'.cell? ⟨g, i * 3 + 1, none⟩ = some (.string mk) ∧ w'.cell? ⟨g, i * 3 + 2, none⟩ = some (.int .i64 ((q : Int) + 1 + 1)) ∧ Below w.heap.size w w')
        (first | exact ⟨a1, a2, hbw.drew⟩ | exact ⟨cell_keep hb1 (show wr.drew.cell? _ = _ from a1), cell_keep hb1 (show wr.drew.cell? _ = _ from a2), hbw.drew.trans (hb1.mono hbw.size)⟩ | go_keep)
        (first | (go_at_call 13; refine (Mark.mark_any ((q : Int) + 1) _ hpos (by omega)).mono ?_; rintro e w1 ⟨rfl, hb1⟩; rw [HMK.out]))
      all_goals have a3 := cell_keep hb1 (show wr.drew.cell? ⟨g, i * 3 + 2, none⟩ = _ from a2)
      all_goals go_wp2_with fail
      go_roundw
      case rel => exact ⟨i + 1, by omega, by go_num, by have := HQ.out; congr 1; omega, hbw.drew.trans (hb1.mono hbw.size)⟩
      case measure => simp [intOf]; omega
    · have hin : i = n := by omega
      subst hin
      go_wp2_with fail
      go_ret
      exact ⟨rfl, hbw⟩

/-- markTokenS marks a row of the call's own, and writes nothing else that was there. -/
theorem mark_any {base : Nat} {v : Value} {n : Nat} {xs : _root_.List Value} {w : World} (k : Nat) (hn : xs.length = 3 * n) (hk : 0 < k) (hkn : k + 3 * n ≤ 4611686018427387904) (h : w.ownsRow base 29 3 v n xs) :
    Calls Tryd.prog 7 #[v, .int .i64 k] w fun e w' =>
      e = .returned (.int .i64 ((k + 3 * n : Nat) : Int)) ∧ w'.ownsRow base 29 3 v n (marks k n) ∧ Below base w w' := by
  have h' := h
  obtain ⟨_, ⟨rfl, rfl⟩ | ⟨g, cap, cur, rfl, _⟩⟩ := h
  · refine (mark_nil none 0 k w).mono ?_
    rintro e w' ⟨rfl, rfl⟩
    refine ⟨rfl, ?_, Below.refl _ _⟩
    have : xs = [] := _root_.List.eq_nil_of_length_eq_zero hn
    subst this
    exact h'
  · exact mark_cons g cap n base k k xs w hn rfl hk hkn h'
theorem held_any {base : Nat} {v : Value} {n : Nat} {w : World} (k : Nat) (hk : 0 < k) (hkn : k + 3 * n ≤ 4611686018427387904) (h : w.ownsRow base 29 3 v n (marks k n)) :
    Calls Tryd.prog 8 #[v, .int .i64 k] w fun e w' => e = .returned (.int .i64 ((k + 3 * n : Nat) : Int)) ∧ Below w.heap.size w w' := by
  have h' := h
  obtain ⟨_, ⟨rfl, rfl⟩ | ⟨g, cap, cur, rfl, _⟩⟩ := h
  · refine (held_nil none 0 k w).mono ?_
    rintro e w' ⟨rfl, rfl⟩
    exact ⟨rfl, Below.refl _ _⟩
  · refine held_cons g cap n k k w rfl hk hkn (fun i hi => ?_)
    have := marks_at k n i hi
    exact ⟨(h'.cellAt _ (by omega)).trans this.1, (h'.cellAt _ (by omega)).trans this.2.1, (h'.cellAt _ (by omega)).trans this.2.2⟩

theorem toks_len (s : ByteArray) : ∀ (f p : Nat) (acc r : _root_.List Tok.T), acc.length ≤ 800 → Tok.toks s f p acc = some r → r.length ≤ 800 := by
  intro f
  induction f with
  | zero => intro p acc r h hr; cases hr
  | succ f ih =>
    intro p acc r h hr
    rw [Tok.toks] at hr
    split at hr
    · cases hr; exact h
    · split at hr
      · exact ih _ _ _ h hr
      · split at hr
        · split at hr
          · exact ih _ _ _ h hr
          · cases hr
        · split at hr
          · cases hr
          · split at hr
            · cases hr
            · next h8 => exact ih _ _ _ (by simp; omega) hr
theorem tokens_len (s : ByteArray) : ((Tok.tokens s).getD []).length ≤ 800 := by
  cases h : Tok.tokens s with
  | none => exact Nat.zero_le _
  | some r =>
    unfold Tok.tokens at h
    split at h
    · cases h
    · exact toks_len s _ _ [] r (Nat.zero_le _) h
/-- What Tokens hands back, in one form. -/
theorem read_form {r : Option (_root_.List Tok.T)} {w w' : World} {e : Ending} (h : SpecTokens.Read r w e w') : ∃ v, e = .returned (.tuple #[v, .bool r.isSome]) ∧ w'.ownsRow w.heap.size 29 3 v (r.getD []).length (row (r.getD [])) ∧ Below w.heap.size w w' := by
  cases r with
  | none =>
    obtain ⟨rfl, hb⟩ := h
    exact ⟨_, rfl, World.ownsRow_nil _ _ _ _, hb⟩
  | some ts => exact h
end Go.Proofs.YtfceglooifbljaaDoor.Toks
