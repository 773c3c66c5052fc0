/-
  spec.l3Right and IsExpr: what they answer of every tree.
-/
import Derived.Test.YtdohpppkdecbdaaGreatDoorBSpecNodes
import Derived.Lib.QuietBelow
namespace Go.Proofs.YtdohpppkdecbdaaGreatDoor.SpecRight
open Go.RowKit
open Strs Tree Texts TreeBox SpecNode
theorem regrown_below {w w' : World} (h : ∃ p : Regrown, w' = Sort.grow (redrawn w p.d) p.os) : Below w.heap.size w w' := by
  obtain ⟨p, rfl⟩ := h
  exact below_regrown _ _ _
set_option maxRecDepth 10000 in
set_option maxHeartbeats 4000000 in
theorem right_9 (t : ByteArray) (n : Int) (ks : List E) (N cap lo : Nat) (a : Option Addr) (w : World) (vn : Value) (D : Bool) (hm : N ≤ cap ∧ cap ≤ 9223372036854775807) (hn : ks.length = N)
    (hk : Calls Tryz.prog 45 #[.agg #[.int .i64 9, .string t, .int .i64 n, vn, .slice a N cap]] (w.alloc (Obj.cells #[Value.int IntKind.i64 9, Value.string t, Value.int IntKind.i64 n, vn, .slice a N cap] 44)) fun r w' => r = .returned (.bool true) ∧ Below (w.alloc (Obj.cells #[Value.int IntKind.i64 9, Value.string t, Value.int IntKind.i64 n, vn, .slice a N cap] 44)).heap.size (w.alloc (Obj.cells #[Value.int IntKind.i64 9, Value.string t, Value.int IntKind.i64 n, vn, .slice a N cap] 44)) w')
    (hc : 0 < N → ∃ b off, a = some ⟨b, off, none⟩ ∧ lo ≤ b ∧ Row lo w b ks off) (ih : ∀ m, m ∈ ks → Ok m) (hw : weights ks ≤ 1048576)
    (hd : (∀ i (h : i < ks.length), right ks[i] false = true ∧ ¬ (false = true ∧ ks[i].kind = 9 ∧ i + 1 < ks.length)) ↔ D = true) :
    Calls Tryz.prog 26 #[.agg #[.int .i64 9, .string t, .int .i64 n, vn, .slice a N cap], .bool true] w fun r w' => r = .returned (.bool D) ∧ Below w.heap.size w w' := by
  have KN := Lib.hid hk
  have HC := Lib.hid hc
  have IH := Lib.hid ih
  have HW := Lib.hid hw
  have HN := Lib.hid hn
  have HDD := Lib.hid hd
  have HB0 : Hid (Below w.heap.size w (w.alloc (Obj.cells #[Value.int IntKind.i64 9, Value.string t, Value.int IntKind.i64 n, vn, .slice a N cap] 44))) := (Below.refl _ _).alloc (Nat.le_refl _) _
  have G0 := Lib.hid (cells_new w 9 t n vn (.slice a N cap) 44)
  clear hk hc ih hw hn hd
  go_enter Tryz.func26, Tryz.ntmps26
  go_wp2_with fail
  refine KN.out.mono ?_
  rintro r w1 ⟨rfl, hb1⟩
  have B1 := Lib.hid (HB0.out.trans (hb1.mono HB0.out.size))
  have G1 := Lib.hid (G0.out.step hb1)
  obtain ⟨-, g0, g1, g2, g3, g4⟩ := G1.out
  clear hb1 KN HB0 G0
  go_wp2_with fail
  clear g0 g1 g2 g3 g4
  go_loopw [6] (fun j wr => ∃ i : Nat, i ≤ N ∧ j = .int .i64 i ∧ Below w1.heap.size w1 wr ∧ Hid (∀ j (h : j < ks.length), j < i → right ks[j] false = true ∧ ¬ (false = true ∧ ks[j].kind = 9 ∧ j + 1 < ks.length))) (fun j _ => N - (intOf j).toNat)
  case atStart => exact ⟨0, by omega, rfl, Below.refl _ _, fun j _ h => by omega⟩
  case round =>
    obtain ⟨i, hi, rfl, hbw, HI⟩ := hrel
    obtain ⟨-, g0, g1, g2, g3, g4⟩ := G1.out.step hbw
    have B2 := Lib.hid (B1.out.trans (hbw.mono B1.out.size))
    have HBW := Lib.hid hbw; clear hbw
    by_cases hlt : i < N
    · have hil : i < ks.length := by rw [HN.out]; exact hlt
      obtain ⟨b, o, rfl, _, hr⟩ := HC.out (by omega)
      obtain ⟨xn, xk, d0, d1, d2, d3, d4, hx⟩ := (row_iff ks o).1 hr i hil
      have hwk : weight ks[i] ≤ 1048576 := by have := weight_kid ks i hil; have := HW.out; omega
      have KI := fun w2 (hb : Below w.heap.size w w2) => Lib.hid (IH.out _ (List.getElem_mem hil) lo w2 xn xk false hwk (hx.below hb))
      have ke0 := cell_regrown (cell_keep B2.out d0)
      have ke1 := cell_regrown (cell_keep B2.out d1)
      have ke2 := cell_regrown (cell_keep B2.out d2)
      have ke3 := cell_regrown (cell_keep B2.out d3)
      have ke4 := cell_regrown (cell_keep B2.out d4)
      have kg0 := cell_regrown g0
      have kg4 := cell_regrown g4
      clear d0 d1 d2 d3 d4 g0 g1 g2 g3 g4 hx hr hwk
      generalize hs : ks[i] = e at *
      have HE := Lib.hid hs; clear hs
      have KR := fun d os => Lib.hid (Calls.regrown_of (KI _ (B2.out.trans ((below_regrown wr d os).mono B2.out.size))).out)
      clear KI
      cases hr8 : right e false with
      | false =>
        have hD : D = false := by
          cases D with
          | false => rfl
          | true =>
            have := (HDD.out.2 rfl i hil).1
            rw [HE.out, hr8] at this
            cases this
        subst hD
        rw [hr8] at KR
        clear hr8
        go_wp2_with fail
        refine wp_region_quiet_below (by kernel_rfl) (by kernel_rfl) ?_
        repeat (go_big_quiet_step ((go_at_call 26; exact (KR _ _).out)))
        refine wpQuiet_nil ?_
        intro w2 hw2
        have hb2 := Lib.hid (B2.out.trans ((regrown_below hw2).mono B2.out.size))
        clear hw2 ke0 ke1 ke2 ke3 ke4 kg0 kg4 KR
        go_wp2_with fail
        go_ret
        exact ⟨rfl, hb2.out⟩
      | true =>
        rw [hr8] at KR
        have HR8 := Lib.hid hr8; clear hr8
        go_wp2_with fail
        refine wp_region_quiet_below (by kernel_rfl) (by kernel_rfl) ?_
        repeat (go_big_quiet_step ((go_at_call 26; exact (KR _ _).out)))
        refine wpQuiet_nil ?_
        intro w2 hw2
        have hb2 := Lib.hid (HBW.out.trans ((regrown_below hw2).mono HBW.out.size))
        clear hw2 ke0 ke1 ke2 ke3 ke4 kg0 kg4 KR
        go_wp2_with fail
        go_roundw
        case rel =>
          refine ⟨i + 1, by omega, by go_num, hb2.out, fun j hj hji => ?_⟩
          by_cases ej : j = i
          · subst ej; rw [HE.out]; exact ⟨HR8.out, fun h => by cases h.1⟩
          · first | exact HI.out j hj (by omega) | simpa using HI.out j hj (by omega)
        case measure => simp [intOf]; omega
    · have hD : D = true := HDD.out.1 (fun j hj => by first | exact HI.out j hj (by have := HN.out; omega) | simpa using HI.out j hj (by have := HN.out; omega))
      subst hD
      clear g0 g1 g2 g3 g4
      go_wp2_with fail
      go_ret
      exact ⟨rfl, B2.out⟩
set_option maxRecDepth 10000 in
set_option maxHeartbeats 4000000 in
theorem right_8 (t : ByteArray) (n : Int) (ks : List E) (N cap lo : Nat) (a : Option Addr) (w : World) (vn : Value) (st : Bool) (D : Bool) (hm : N ≤ cap ∧ cap ≤ 9223372036854775807) (hn : ks.length = N)
    (hk : Calls Tryz.prog 45 #[.agg #[.int .i64 8, .string t, .int .i64 n, vn, .slice a N cap]] (w.alloc (Obj.cells #[Value.int IntKind.i64 8, Value.string t, Value.int IntKind.i64 n, vn, .slice a N cap] 44)) fun r w' => r = .returned (.bool true) ∧ Below (w.alloc (Obj.cells #[Value.int IntKind.i64 8, Value.string t, Value.int IntKind.i64 n, vn, .slice a N cap] 44)).heap.size (w.alloc (Obj.cells #[Value.int IntKind.i64 8, Value.string t, Value.int IntKind.i64 n, vn, .slice a N cap] 44)) w')
    (hc : 0 < N → ∃ b off, a = some ⟨b, off, none⟩ ∧ lo ≤ b ∧ Row lo w b ks off) (ih : ∀ m, m ∈ ks → Ok m) (hw : weights ks ≤ 1048576)
    (hd : (∀ i (h : i < ks.length), right ks[i] true = true ∧ ¬ (true = true ∧ ks[i].kind = 9 ∧ i + 1 < ks.length)) ↔ D = true) :
    Calls Tryz.prog 26 #[.agg #[.int .i64 8, .string t, .int .i64 n, vn, .slice a N cap], .bool st] w fun r w' => r = .returned (.bool D) ∧ Below w.heap.size w w' := by
  have KN := Lib.hid hk
  have HC := Lib.hid hc
  have IH := Lib.hid ih
  have HW := Lib.hid hw
  have HN := Lib.hid hn
  have HDD := Lib.hid hd
  have HB0 : Hid (Below w.heap.size w (w.alloc (Obj.cells #[Value.int IntKind.i64 8, Value.string t, Value.int IntKind.i64 n, vn, .slice a N cap] 44))) := (Below.refl _ _).alloc (Nat.le_refl _) _
  have G0 := Lib.hid (cells_new w 8 t n vn (.slice a N cap) 44)
  clear hk hc ih hw hn hd
  go_enter Tryz.func26, Tryz.ntmps26
  go_wp2_with fail
  refine KN.out.mono ?_
  rintro r w1 ⟨rfl, hb1⟩
  have B1 := Lib.hid (HB0.out.trans (hb1.mono HB0.out.size))
  have G1 := Lib.hid (G0.out.step hb1)
  obtain ⟨-, g0, g1, g2, g3, g4⟩ := G1.out
  clear hb1 KN HB0 G0
  go_wp2_with fail
  clear g0 g1 g2 g3 g4
  go_loopw [6] (fun j wr => ∃ i : Nat, i ≤ N ∧ j = .int .i64 i ∧ Below w1.heap.size w1 wr ∧ Hid (∀ j (h : j < ks.length), j < i → right ks[j] true = true ∧ ¬ (true = true ∧ ks[j].kind = 9 ∧ j + 1 < ks.length))) (fun j _ => N - (intOf j).toNat)
  case atStart => exact ⟨0, by omega, rfl, Below.refl _ _, fun j _ h => by omega⟩
  case round =>
    obtain ⟨i, hi, rfl, hbw, HI⟩ := hrel
    obtain ⟨-, g0, g1, g2, g3, g4⟩ := G1.out.step hbw
    have B2 := Lib.hid (B1.out.trans (hbw.mono B1.out.size))
    have HBW := Lib.hid hbw; clear hbw
    by_cases hlt : i < N
    · have hil : i < ks.length := by rw [HN.out]; exact hlt
      obtain ⟨b, o, rfl, _, hr⟩ := HC.out (by omega)
      obtain ⟨xn, xk, d0, d1, d2, d3, d4, hx⟩ := (row_iff ks o).1 hr i hil
      have hwk : weight ks[i] ≤ 1048576 := by have := weight_kid ks i hil; have := HW.out; omega
      have KI := fun w2 (hb : Below w.heap.size w w2) => Lib.hid (IH.out _ (List.getElem_mem hil) lo w2 xn xk true hwk (hx.below hb))
      have ke0 := cell_regrown (cell_keep B2.out d0)
      have ke1 := cell_regrown (cell_keep B2.out d1)
      have ke2 := cell_regrown (cell_keep B2.out d2)
      have ke3 := cell_regrown (cell_keep B2.out d3)
      have ke4 := cell_regrown (cell_keep B2.out d4)
      have kg0 := cell_regrown g0
      have kg4 := cell_regrown g4
      clear d0 d1 d2 d3 d4 g0 g1 g2 g3 g4 hx hr hwk
      generalize hs : ks[i] = e at *
      have HE := Lib.hid hs; clear hs
      have KR := fun d os => Lib.hid (Calls.regrown_of (KI _ (B2.out.trans ((below_regrown wr d os).mono B2.out.size))).out)
      clear KI
      cases hr8 : right e true with
      | false =>
        have hD : D = false := by
          cases D with
          | false => rfl
          | true =>
            have := (HDD.out.2 rfl i hil).1
            rw [HE.out, hr8] at this
            cases this
        subst hD
        rw [hr8] at KR
        clear hr8
        go_wp2_with fail
        refine wp_region_quiet_below (by kernel_rfl) (by kernel_rfl) ?_
        repeat (go_big_quiet_step ((go_at_call 26; exact (KR _ _).out)))
        refine wpQuiet_nil ?_
        intro w2 hw2
        have hb2 := Lib.hid (B2.out.trans ((regrown_below hw2).mono B2.out.size))
        clear hw2 ke0 ke1 ke2 ke3 ke4 kg0 kg4 KR
        go_wp2_with fail
        go_ret
        exact ⟨rfl, hb2.out⟩
      | true =>
        rw [hr8] at KR
        have HR8 := Lib.hid hr8; clear hr8
        by_cases he9 : e.kind = 9
        case neg =>
          have heb : (e.kind == 9) = false := by rw [beq_eq_false_iff_ne]; exact he9
          have HE9 := Lib.hid he9; clear he9
          go_wp2_with fail
          refine wp_region_quiet_below (by kernel_rfl) (by kernel_rfl) ?_
          repeat (go_big_quiet_step ((go_at_call 26; exact (KR _ _).out)))
          refine wpQuiet_nil ?_
          intro w2 hw2
          have hb2 := Lib.hid (HBW.out.trans ((regrown_below hw2).mono HBW.out.size))
          clear hw2 ke0 ke1 ke2 ke3 ke4 kg0 kg4 KR
          go_wp2_with fail
          go_roundw
          case rel =>
            refine ⟨i + 1, by omega, by go_num, hb2.out, fun j hj hji => ?_⟩
            by_cases ej : j = i
            · subst ej; rw [HE.out]; exact ⟨HR8.out, fun h => HE9.out h.2.1⟩
            · first | exact HI.out j hj (by omega) | simpa using HI.out j hj (by omega)
          case measure => simp [intOf]; omega
        case pos =>
          have heb : (e.kind == 9) = true := by rw [beq_iff_eq]; exact he9
          have HE9 := Lib.hid he9; clear he9
          by_cases hli : i + 1 < N
          · have hD : D = false := by
              cases D with
              | false => rfl
              | true => exact absurd ⟨by trivial, by rw [HE.out]; exact HE9.out, by rw [HN.out]; exact hli⟩ (HDD.out.2 rfl i hil).2
            subst hD
            have hlb : decide ((i : Int) < (N : Int) - 1) = true := decide_eq_true (by omega)
            go_wp2_with fail
            refine wp_region_quiet_below (by kernel_rfl) (by kernel_rfl) ?_
            repeat (go_big_quiet_step ((go_at_call 26; exact (KR _ _).out)))
            refine wpQuiet_nil ?_
            intro w2 hw2
            have hb2 := Lib.hid (HBW.out.trans ((regrown_below hw2).mono HBW.out.size))
            clear hw2 ke0 ke1 ke2 ke3 ke4 kg0 kg4 KR
            go_wp2_with fail
            go_ret
            exact ⟨rfl, B1.out.trans (hb2.out.mono B1.out.size)⟩
          · have hlb : decide ((i : Int) < (N : Int) - 1) = false := decide_eq_false (by omega)
            go_wp2_with fail
            refine wp_region_quiet_below (by kernel_rfl) (by kernel_rfl) ?_
            repeat (go_big_quiet_step ((go_at_call 26; exact (KR _ _).out)))
            refine wpQuiet_nil ?_
            intro w2 hw2
            have hb2 := Lib.hid (HBW.out.trans ((regrown_below hw2).mono HBW.out.size))
            clear hw2 ke0 ke1 ke2 ke3 ke4 kg0 kg4 KR
            go_wp2_with fail
            go_roundw
            case rel =>
              refine ⟨i + 1, by omega, by go_num, hb2.out, fun j hj hji => ?_⟩
              by_cases ej : j = i
              · subst ej; rw [HE.out]; exact ⟨HR8.out, fun h => hli (by have := h.2.2; rw [HN.out] at this; exact this)⟩
              · first | exact HI.out j hj (by omega) | simpa using HI.out j hj (by omega)
            case measure => simp [intOf]; omega
    · have hD : D = true := HDD.out.1 (fun j hj => by first | exact HI.out j hj (by have := HN.out; omega) | simpa using HI.out j hj (by have := HN.out; omega))
      subst hD
      clear g0 g1 g2 g3 g4
      go_wp2_with fail
      go_ret
      exact ⟨rfl, B2.out⟩
set_option maxRecDepth 10000 in
set_option maxHeartbeats 4000000 in
theorem right_k (k : Int) (t : ByteArray) (n : Int) (ks : List E) (N cap lo : Nat) (a : Option Addr) (w : World) (vn : Value) (st : Bool) (D : Bool) (h7 : (k == 7) = false) (h8 : (k == 8) = false) (h9 : (k == 9) = false) (hm : N ≤ cap ∧ cap ≤ 9223372036854775807) (hn : ks.length = N)
    (hk : Calls Tryz.prog 45 #[.agg #[.int .i64 k, .string t, .int .i64 n, vn, .slice a N cap]] (w.alloc (Obj.cells #[Value.int IntKind.i64 k, Value.string t, Value.int IntKind.i64 n, vn, .slice a N cap] 44)) fun r w' => r = .returned (.bool true) ∧ Below (w.alloc (Obj.cells #[Value.int IntKind.i64 k, Value.string t, Value.int IntKind.i64 n, vn, .slice a N cap] 44)).heap.size (w.alloc (Obj.cells #[Value.int IntKind.i64 k, Value.string t, Value.int IntKind.i64 n, vn, .slice a N cap] 44)) w')
    (hc : 0 < N → ∃ b off, a = some ⟨b, off, none⟩ ∧ lo ≤ b ∧ Row lo w b ks off) (ih : ∀ m, m ∈ ks → Ok m) (hw : weights ks ≤ 1048576)
    (hd : (∀ i (h : i < ks.length), right ks[i] false = true ∧ ¬ (false = true ∧ ks[i].kind = 9 ∧ i + 1 < ks.length)) ↔ D = true) :
    Calls Tryz.prog 26 #[.agg #[.int .i64 k, .string t, .int .i64 n, vn, .slice a N cap], .bool st] w fun r w' => r = .returned (.bool D) ∧ Below w.heap.size w w' := by
  have KN := Lib.hid hk
  have HC := Lib.hid hc
  have IH := Lib.hid ih
  have HW := Lib.hid hw
  have HN := Lib.hid hn
  have HDD := Lib.hid hd
  have HB0 : Hid (Below w.heap.size w (w.alloc (Obj.cells #[Value.int IntKind.i64 k, Value.string t, Value.int IntKind.i64 n, vn, .slice a N cap] 44))) := (Below.refl _ _).alloc (Nat.le_refl _) _
  have G0 := Lib.hid (cells_new w k t n vn (.slice a N cap) 44)
  clear hk hc ih hw hn hd
  go_enter Tryz.func26, Tryz.ntmps26
  go_wp2_with fail
  refine KN.out.mono ?_
  rintro r w1 ⟨rfl, hb1⟩
  have B1 := Lib.hid (HB0.out.trans (hb1.mono HB0.out.size))
  have G1 := Lib.hid (G0.out.step hb1)
  obtain ⟨-, g0, g1, g2, g3, g4⟩ := G1.out
  clear hb1 KN HB0 G0
  go_wp2_with fail
  clear g0 g1 g2 g3 g4
  go_loopw [6] (fun j wr => ∃ i : Nat, i ≤ N ∧ j = .int .i64 i ∧ Below w1.heap.size w1 wr ∧ Hid (∀ j (h : j < ks.length), j < i → right ks[j] false = true ∧ ¬ (false = true ∧ ks[j].kind = 9 ∧ j + 1 < ks.length))) (fun j _ => N - (intOf j).toNat)
  case atStart => exact ⟨0, by omega, rfl, Below.refl _ _, fun j _ h => by omega⟩
  case round =>
    obtain ⟨i, hi, rfl, hbw, HI⟩ := hrel
    obtain ⟨-, g0, g1, g2, g3, g4⟩ := G1.out.step hbw
    have B2 := Lib.hid (B1.out.trans (hbw.mono B1.out.size))
    have HBW := Lib.hid hbw; clear hbw
    by_cases hlt : i < N
    · have hil : i < ks.length := by rw [HN.out]; exact hlt
      obtain ⟨b, o, rfl, _, hr⟩ := HC.out (by omega)
      obtain ⟨xn, xk, d0, d1, d2, d3, d4, hx⟩ := (row_iff ks o).1 hr i hil
      have hwk : weight ks[i] ≤ 1048576 := by have := weight_kid ks i hil; have := HW.out; omega
      have KI := fun w2 (hb : Below w.heap.size w w2) => Lib.hid (IH.out _ (List.getElem_mem hil) lo w2 xn xk false hwk (hx.below hb))
      have ke0 := cell_regrown (cell_keep B2.out d0)
      have ke1 := cell_regrown (cell_keep B2.out d1)
      have ke2 := cell_regrown (cell_keep B2.out d2)
      have ke3 := cell_regrown (cell_keep B2.out d3)
      have ke4 := cell_regrown (cell_keep B2.out d4)
      have kg0 := cell_regrown g0
      have kg4 := cell_regrown g4
      clear d0 d1 d2 d3 d4 g0 g1 g2 g3 g4 hx hr hwk
      generalize hs : ks[i] = e at *
      have HE := Lib.hid hs; clear hs
      have KR := fun d os => Lib.hid (Calls.regrown_of (KI _ (B2.out.trans ((below_regrown wr d os).mono B2.out.size))).out)
      clear KI
      cases hr8 : right e false with
      | false =>
        have hD : D = false := by
          cases D with
          | false => rfl
          | true =>
            have := (HDD.out.2 rfl i hil).1
            rw [HE.out, hr8] at this
            cases this
        subst hD
        rw [hr8] at KR
        clear hr8
        go_wp2_with fail
        refine wp_region_quiet_below (by kernel_rfl) (by kernel_rfl) ?_
        repeat (go_big_quiet_step ((go_at_call 26; exact (KR _ _).out)))
        refine wpQuiet_nil ?_
        intro w2 hw2
        have hb2 := Lib.hid (B2.out.trans ((regrown_below hw2).mono B2.out.size))
        clear hw2 ke0 ke1 ke2 ke3 ke4 kg0 kg4 KR
        go_wp2_with fail
        go_ret
        exact ⟨rfl, hb2.out⟩
      | true =>
        rw [hr8] at KR
        have HR8 := Lib.hid hr8; clear hr8
        go_wp2_with fail
        refine wp_region_quiet_below (by kernel_rfl) (by kernel_rfl) ?_
        repeat (go_big_quiet_step ((go_at_call 26; exact (KR _ _).out)))
        refine wpQuiet_nil ?_
        intro w2 hw2
        have hb2 := Lib.hid (HBW.out.trans ((regrown_below hw2).mono HBW.out.size))
        clear hw2 ke0 ke1 ke2 ke3 ke4 kg0 kg4 KR
        go_wp2_with fail
        go_roundw
        case rel =>
          refine ⟨i + 1, by omega, by go_num, hb2.out, fun j hj hji => ?_⟩
          by_cases ej : j = i
          · subst ej; rw [HE.out]; exact ⟨HR8.out, fun h => by cases h.1⟩
          · first | exact HI.out j hj (by omega) | simpa using HI.out j hj (by omega)
        case measure => simp [intOf]; omega
    · have hD : D = true := HDD.out.1 (fun j hj => by first | exact HI.out j hj (by have := HN.out; omega) | simpa using HI.out j hj (by have := HN.out; omega))
      subst hD
      clear g0 g1 g2 g3 g4
      go_wp2_with fail
      go_ret
      exact ⟨rfl, B2.out⟩
set_option maxRecDepth 10000 in
set_option maxHeartbeats 4000000 in
theorem right_mk (k : Int) (t : ByteArray) (n : Int) (ns : List ByteArray) (ks : List E) (ih : ∀ m, m ∈ ks → Ok m) (ih2 : ∀ m, m ∈ ks → ∀ g, g ∈ m.kids → Ok g) : Ok (.mk k t n ns ks) := by
  intro lo w vn vk st hw hnode
  have KN := fun w1 (hb : Below w.heap.size w w1) => Lib.hid (node_any lo k t n ns ks w1 vn vk ih2 hw (hnode.below hb))
  obtain ⟨-, -, -, -, hks⟩ := node_iff.1 hnode
  simp only [E.kind, E.text, E.num, E.kids] at *
  obtain ⟨a, cap, rfl, hm, hc⟩ := hks
  rw [weight] at hw
  unfold maxLen at hm
  have HR : Hid (right (.mk k t n ns ks) st = (node k t n ns ks.length (tailOk ks) && (decide (k ≠ 9) || st) && (if k = 7 then headOk ks else rights (decide (k = 8)) ks))) := by show _ = _; rw [right]
  generalize right (.mk k t n ns ks) st = D at *
  have A0 : Below w.heap.size w (w.alloc (Obj.cells #[Value.int IntKind.i64 k, Value.string t, Value.int IntKind.i64 n, vn, .slice a ks.length cap] 44)) := (Below.refl _ _).alloc (Nat.le_refl _) _
  have G0 := Lib.hid (cells_new w k t n vn (.slice a ks.length cap) 44)
  have KN := Lib.hid (KN _ A0).out
  have HB0 := Lib.hid A0
  have HC := Lib.hid hc
  have IH := Lib.hid ih
  have HW : Hid (weights ks ≤ 1048576) := by show _ ≤ _; omega
  have h37 : node k t n ns ks.length (tailOk ks) = true → k = 7 → 3 ≤ ks.length := by
    intro h e
    subst e
    simp [node] at h
    exact h.2.2.1
  have H37 := Lib.hid h37
  clear ih ih2 hnode hw hc A0 h37
  generalize hnd : node k t n ns ks.length (tailOk ks) = nd at *
  clear hnd
  generalize hN : ks.length = N at *
  have HN := Lib.hid hN; clear hN
  cases nd
  case false =>
    have hD : D = false := by rw [HR.out]; simp
    subst hD
    clear H37 HR
    go_enter Tryz.func26, Tryz.ntmps26
    go_wp2_with fail
    refine KN.out.mono ?_
    rintro r w1 ⟨rfl, hb1⟩
    have B1 := Lib.hid (HB0.out.trans (hb1.mono HB0.out.size))
    clear hb1
    go_wp2_with fail
    go_ret
    exact ⟨rfl, B1.out⟩
  by_cases h9 : k = 9 ∧ st = false
  case pos =>
    obtain ⟨rfl, rfl⟩ := h9
    have hD : D = false := by rw [HR.out]; simp
    subst hD
    clear H37 HR
    go_enter Tryz.func26, Tryz.ntmps26
    go_wp2_with fail
    refine KN.out.mono ?_
    rintro r w1 ⟨rfl, hb1⟩
    have B1 := Lib.hid (HB0.out.trans (hb1.mono HB0.out.size))
    have g0 := (G0.out.step hb1).a0
    clear hb1
    go_wp2_with fail
    go_ret
    exact ⟨rfl, B1.out⟩
  by_cases h7 : k = 7
  case pos =>
    subst h7
    have h3 := H37.out rfl rfl
    obtain ⟨b, o, rfl, _, hr⟩ := HC.out (by omega)
    have hl0 : 0 < ks.length := by have := HN.out; omega
    obtain ⟨xn, xk, d0, d1, d2, d3, d4, hx⟩ := (row_iff ks o).1 hr 0 hl0
    have hwk : weight ks[0] ≤ 1048576 := by have := weight_kid ks 0 hl0; have := HW.out; omega
    have hd : right ks[0] false = D := by
      rw [HR.out]
      obtain ⟨e, es, rfl⟩ : ∃ e es, ks = e :: es := by
        cases ks with
        | nil => simp at hl0
        | cons e es => exact ⟨e, es, rfl⟩
      simp [headOk]
    have KI := fun w1 (hb : Below w.heap.size w w1) => Lib.hid (IH.out _ (List.getElem_mem hl0) lo w1 xn xk false hwk (hx.below hb))
    rw [hd] at KI
    rw [show o + 0 * 5 = o by omega] at d0 d1 d2 d3 d4
    clear hwk hx hr hd HR H37 h9 HW IH
    generalize ks[0] = e at *
    go_enter Tryz.func26, Tryz.ntmps26
    go_wp2_with fail
    refine KN.out.mono ?_
    rintro r w1 ⟨rfl, hb1⟩
    have B1 := Lib.hid (HB0.out.trans (hb1.mono HB0.out.size))
    have G1 := Lib.hid (G0.out.step hb1)
    obtain ⟨-, g0, g1, g2, g3, g4⟩ := G1.out
    have e0 := cell_keep B1.out d0
    have e1 := cell_keep B1.out d1
    have e2 := cell_keep B1.out d2
    have e3 := cell_keep B1.out d3
    have e4 := cell_keep B1.out d4
    clear hb1 d0 d1 d2 d3 d4
    go_wp2_with fail
    refine wp_loop_rounds 2 ?_
    rw [rounds_succ]
    go_wp2_with fail
    have kg0 := cell_regrown g0
    have kg4 := cell_regrown g4
    have ke0 := cell_regrown e0
    have ke1 := cell_regrown e1
    have ke2 := cell_regrown e2
    have ke3 := cell_regrown e3
    have ke4 := cell_regrown e4
    have KR := fun d os => Lib.hid (Calls.regrown_of (KI _ (B1.out.trans ((below_regrown w1 d os).mono B1.out.size))).out)
    cases D
    all_goals
      refine wp_region_quiet_below (by kernel_rfl) (by kernel_rfl) ?_
      repeat (go_big_quiet_step ((go_at_call 26; exact (KR _ _).out)))
      refine wpQuiet_nil ?_
      intro w2 hw2
      have hb2 := Lib.hid (B1.out.trans ((regrown_below hw2).mono B1.out.size))
      clear hw2 kg0 kg4 ke0 ke1 ke2 ke3 ke4 g0 g1 g2 g3 g4 e0 e1 e2 e3 e4
    · go_wp2_with fail
      go_ret
      exact ⟨rfl, hb2.out⟩
    · go_wp2_with fail
      rw [rounds_succ]
      go_wp2_with fail
      go_ret
      exact ⟨rfl, hb2.out⟩
  have hd : ∀ b, decide (k = 8) = b → ((∀ i (h : i < ks.length), right ks[i] b = true ∧ ¬ (b = true ∧ ks[i].kind = 9 ∧ i + 1 < ks.length)) ↔ D = true) := by
    rintro b rfl
    rw [← rights_iff, HR.out, if_neg h7]
    have : (decide (k ≠ 9) || st) = true := by
      cases st
      · by_cases e : k = 9
        · exact absurd ⟨e, rfl⟩ h9
        · simp [e]
      · simp
    rw [this]
    simp
  by_cases e9 : k = 9
  · have hst : st = true := by
      cases st
      · exact absurd ⟨e9, rfl⟩ h9
      · rfl
    subst e9 hst
    exact right_9 t n ks N cap lo a w vn D hm HN.out KN.out HC.out IH.out HW.out (hd false (by decide))
  by_cases e8 : k = 8
  · subst e8
    exact right_8 t n ks N cap lo a w vn st D hm HN.out KN.out HC.out IH.out HW.out (hd true (by decide))
  exact right_k k t n ks N cap lo a w vn st D (by rw [beq_eq_false_iff_ne]; exact h7) (by rw [beq_eq_false_iff_ne]; exact e8) (by rw [beq_eq_false_iff_ne]; exact e9) hm HN.out KN.out HC.out IH.out HW.out (hd false (decide_eq_false e8))
theorem right_any : ∀ e, Ok e ∧ ∀ g, g ∈ e.kids → Ok g := by
  refine ind fun k t n ns ks ih => ?_
  exact ⟨right_mk k t n ns ks (fun m hm => (ih m hm).1) (fun m hm => (ih m hm).2), fun g hg => (ih g hg).1⟩
set_option maxHeartbeats 1000000 in
theorem is_expr {lo : Nat} {e : E} {v : Value} {w : World} (h : Reads lo w e v) (hw : weight e ≤ 1048576) :
    Calls Tryz.prog 11 #[v] w fun r w' => r = .returned (.bool (isExpr e)) ∧ Below w.heap.size w w' := by
  obtain ⟨vn, vk, rfl, hn⟩ := h
  have hz : depth e ≤ 4611686018427387904 := by have := size_weight e; have := depth_size e; omega
  have KL := fun w' (hb : Below w.heap.size w w') => Lib.hid (SpecTree.left_node e lo w' vn vk 300 (by omega) (hn.below hb))
  have KD := fun w' (hb : Below w.heap.size w w') => Lib.hid (SpecTree.depth_node e lo w' vn vk hz (hn.below hb))
  have KR := fun w' (hb : Below w.heap.size w w') => Lib.hid ((right_any e).1 lo w' vn vk true hw (hn.below hb))
  have HE : Hid (isExpr e = (decide (size e ≤ 300) && decide (depth e ≤ 25) && right e true)) := rfl
  have B0 : Hid (Below w.heap.size w (w.alloc (Obj.cells #[Value.int IntKind.i64 e.kind, Value.string e.text, Value.int IntKind.i64 e.num, vn, vk] 44))) := (Below.refl _ _).alloc (Nat.le_refl _) _
  have C0 := Lib.hid (cells_new w e.kind e.text e.num vn vk 44)
  obtain ⟨-, -, -, ⟨x1, p1, rfl, -⟩, ⟨x2, p2, rfl, -⟩⟩ := node_iff.1 hn
  clear hn hw
  generalize e.names.length = n1 at *
  generalize e.kids.length = n2 at *
  generalize isExpr e = D at *
  generalize right e true = R at *
  generalize hdp : depth e = dp at *
  generalize hsz : size e = sz at *
  clear hdp hsz
  go_enter Tryz.func11, Tryz.ntmps11
  go_wp2_with fail
  obtain ⟨-, c0, c1, c2, c3, c4⟩ := C0.out
  refine (KL _ B0.out).out.mono ?_
  rintro r w1 ⟨rfl, hb1⟩
  have B1 := Lib.hid (B0.out.trans (hb1.mono B0.out.size))
  have C1 := Lib.hid (C0.out.step hb1)
  clear hb1 c0 c1 c2 c3 c4 KL
  obtain ⟨-, c0, c1, c2, c3, c4⟩ := C1.out
  by_cases hsz : sz ≤ 300
  case neg =>
    have hD : D = false := by rw [HE.out, decide_eq_false hsz]; simp
    subst hD
    rw [after_no (by omega)]
    clear HE
    go_wp2_with fail
    go_ret
    exact ⟨rfl, B1.out⟩
  rw [after_yes hsz]
  have hpos : (0 : Int) ≤ ((300 - sz : Nat) : Int) := by omega
  generalize ((300 - sz : Nat) : Int) = q at *
  rw [decide_eq_true hsz] at HE
  clear hsz
  go_wp2_with fail
  refine (KD _ B1.out).out.mono ?_
  rintro r w2 ⟨rfl, hb2⟩
  have B2 := Lib.hid (B1.out.trans (hb2.mono B1.out.size))
  have C2 := Lib.hid (C1.out.step hb2)
  clear hb2 c0 c1 c2 c3 c4 KD
  obtain ⟨-, c0, c1, c2, c3, c4⟩ := C2.out
  by_cases hdp : dp ≤ 25
  case neg =>
    have hD : D = false := by rw [HE.out, decide_eq_false hdp]; simp
    subst hD
    have hq : ¬ ((dp : Int) ≤ 25) := by omega
    clear HE hdp
    go_wp2_with fail
    go_ret
    exact ⟨rfl, B2.out⟩
  have hq : (dp : Int) ≤ 25 := by omega
  rw [decide_eq_true hdp] at HE
  have hD : D = R := by rw [HE.out]; simp
  subst hD
  clear HE hdp
  go_wp2_with fail
  refine (KR _ B2.out).out.mono ?_
  rintro r w3 ⟨rfl, hb3⟩
  have B3 := Lib.hid (B2.out.trans (hb3.mono B2.out.size))
  clear hb3 c0 c1 c2 c3 c4 KR
  go_wp2_with fail
  go_ret
  exact ⟨rfl, B3.out⟩
end Go.Proofs.YtdohpppkdecbdaaGreatDoor.SpecRight
