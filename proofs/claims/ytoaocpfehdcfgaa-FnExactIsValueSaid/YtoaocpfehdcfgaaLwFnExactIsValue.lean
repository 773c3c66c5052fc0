/-
  The walk of laws.FnExactIsValue: it returns true at every input, given what the model's function and impl's answer.
-/
import Derived.Test.YtoaocpfehdcfgaaSzValue
import Derived.Test.YtoaocpfehdcfgaaToValue
import Derived.Test.YtoaocpfehdcfgaaEqValue
import Derived.Test.YtoaocpfehdcfgaaDataStrict
namespace Go.Proofs.Ytoaocpfehdcfgaa.fnExactIsValueW
open Go.RowKit
open Strs Tree Texts Go.Proofs.Ytoaocpfehdcfgaa.Data

set_option maxRecDepth 10000 in
set_option maxHeartbeats 16000000 in
theorem walk_of (z : Bool) (w : World) (das : List D) (hfa : FitL (env 10) (erases das)) (hha : Holdss 0 w das)
    (KSP : ∀ (w' : World) (eas : List D), erases eas = erases das → (∃ lo, Holdss lo w' eas) → Stricts eas → weights (erases eas) ≤ 1048576 → Calls Try.prog 6 #[agg eas] w' fun r w'' => r = .returned (.bool z) ∧ Below w'.heap.size w' w'')
    (KIM : ∀ (w' : World) (eas : List D), erases eas = erases das → Own 0 w' (eas) → weights (erases eas) ≤ 1048576 → Calls Try.prog 8 #[agg eas] w' fun r w'' => r = .returned (.bool z) ∧ Below w'.heap.size w' w'') :
    Calls Try.prog 3 #[agg das] w fun e w' => e = .returned (.bool true) ∧ Below w.heap.size w w' := by
  have HFa := Lib.hid hfa
  obtain ⟨an0, ae0, rfl, hfa_0⟩ := fitL_int hfa
  clear hfa
  obtain ⟨an1, ae1, rfl, hfa_1⟩ := fitL_int hfa_0
  clear hfa_0
  obtain ⟨as2, ae2, rfl, hfa_2⟩ := fitL_str hfa_1
  clear hfa_1
  obtain rfl := fitL_nil hfa_2
  clear hfa_2
  have HB0 : Hid (Below w.heap.size w (w.alloc (Obj.cells #[Value.int .i64 an0, Value.int .i64 an1, Value.string as2] 23))) := Lib.hid ((Below.refl _ _).alloc (Nat.le_refl _) _)
  have c0_0 : Cells (w.heap.size) [D.int an0, D.int an1, D.str as2] (w.alloc (Obj.cells #[Value.int .i64 an0, Value.int .i64 an1, Value.string as2] 23)) := by
    have h := cells_new w [D.int an0, D.int an1, D.str as2] 23
    exact h
  have HC0_0 := Lib.hid c0_0
  clear c0_0
  rw [show agg [D.int an0, D.int an1, D.str as2] = Value.agg #[Value.int .i64 an0, Value.int .i64 an1, Value.string as2] from rfl]
  by_cases hz0 : weights (erases [D.int an0, D.int an1, D.str as2]) ≤ 1048576
  rotate_left
  · skip
    clear KSP KIM
    go_enter Try.func3, Try.ntmps3
    have KZ := Lib.hid (sz_Value 0 1048576 (w.alloc (Obj.cells #[Value.int .i64 an0, Value.int .i64 an1, Value.string as2] 23)) [D.int an0, D.int an1, D.str as2] (by omega) HFa.out (hha.below HB0.out))
    rw [after_no (by omega)] at KZ
    rw [show agg [D.int an0, D.int an1, D.str as2] = Value.agg #[Value.int .i64 an0, Value.int .i64 an1, Value.string as2] from rfl] at KZ
    go_wp2_with fail
    refine KZ.out.mono ?_
    rintro e y0 ⟨rfl, hb⟩
    clear KZ 
    have HB1 := Lib.hid ((HB0.out).trans (hb.mono HB0.out.size))
    have HC1_0 := Lib.hid (HC0_0.out.step hb)
    clear HB0 HC0_0 hb
    go_wp2_with fail
    go_ret
    exact ⟨rfl, HB1.out⟩
  obtain ⟨l0, hl0⟩ : ∃ l, 1048576 - weights (erases [D.int an0, D.int an1, D.str as2]) = l := ⟨_, rfl⟩
  go_enter Try.func3, Try.ntmps3
  have KZ := Lib.hid (sz_Value 0 1048576 (w.alloc (Obj.cells #[Value.int .i64 an0, Value.int .i64 an1, Value.string as2] 23)) [D.int an0, D.int an1, D.str as2] (by omega) HFa.out (hha.below HB0.out))
  rw [after_yes (by assumption)] at KZ
  rw [hl0] at KZ
  rw [show agg [D.int an0, D.int an1, D.str as2] = Value.agg #[Value.int .i64 an0, Value.int .i64 an1, Value.string as2] from rfl] at KZ
  go_wp2_with fail
  refine KZ.out.mono ?_
  rintro e y0 ⟨rfl, hb⟩
  clear KZ 
  have HB1 := Lib.hid ((HB0.out).trans (hb.mono HB0.out.size))
  have HC1_0 := Lib.hid (HC0_0.out.step hb)
  clear HB0 HC0_0 hb
  have hw0 : weights (erases [D.int an0, D.int an1, D.str as2]) ≤ 1048576 := by omega
  have HW0 := Lib.hid hw0
  clear hz0 hl0 hw0
  have KT0 := fun (w' : World) (hb : Below w.heap.size w w') => Lib.hid (to_Value 0 w' [D.int an0, D.int an1, D.str as2] HW0.out HFa.out (hha.below hb))
  rw [show agg [D.int an0, D.int an1, D.str as2] = Value.agg #[Value.int .i64 an0, Value.int .i64 an1, Value.string as2] from rfl] at KT0
  have c0_0 := HC1_0.out.at 0 (D.int an0) rfl
  simp only [val] at c0_0
  have c0_1 := HC1_0.out.at 1 (D.int an1) rfl
  simp only [val] at c0_1
  have c0_2 := HC1_0.out.at 2 (D.str as2) rfl
  simp only [val] at c0_2
  go_wp2_with fail
  refine (KT0 _ HB1.out).out.mono ?_
  rintro e y10 ⟨es, rfl, he, ho, hb⟩
  clear c0_0 c0_1 c0_2
  have KS := Lib.hid (KSP y10 es he ⟨_, ho.holds⟩ ho.strict (by rw [he]; exact HW0.out))
  have HB2 := Lib.hid ((HB1.out).trans (hb.mono HB1.out.size))
  have HC2_0 := Lib.hid (HC1_0.out.step hb)
  clear HB1 HC1_0 hb
  clear ho he
  generalize agg es = sv at *
  go_wp2_with fail
  refine KS.out.mono ?_
  rintro e y11 ⟨rfl, hb⟩
  clear KS
  have HB3 := Lib.hid ((HB2.out).trans (hb.mono HB2.out.size))
  have HC3_0 := Lib.hid (HC2_0.out.step hb)
  clear HB2 HC2_0 hb
  clear KSP
  have c0_0 := HC3_0.out.at 0 (D.int an0) rfl
  simp only [val] at c0_0
  have c0_1 := HC3_0.out.at 1 (D.int an1) rfl
  simp only [val] at c0_1
  have c0_2 := HC3_0.out.at 2 (D.str as2) rfl
  simp only [val] at c0_2
  go_wp2_with fail
  refine (KT0 _ HB3.out).out.mono ?_
  rintro e y40 ⟨es, rfl, he, ho, hb⟩
  clear c0_0 c0_1 c0_2
  have KI := Lib.hid (KIM y40 es he (ho.mono (Nat.zero_le _)) (by rw [he]; exact HW0.out))
  have HB4 := Lib.hid ((HB3.out).trans (hb.mono HB3.out.size))
  have HC4_0 := Lib.hid (HC3_0.out.step hb)
  clear HB3 HC3_0 hb
  clear ho he
  generalize agg es = sv at *
  go_wp2_with fail
  refine KI.out.mono ?_
  rintro e y41 ⟨rfl, hb⟩
  clear KI
  have HB5 := Lib.hid ((HB4.out).trans (hb.mono HB4.out.size))
  have HC5_0 := Lib.hid (HC4_0.out.step hb)
  clear HB4 HC4_0 hb
  go_wp2_with fail
  go_ret
  exact ⟨rfl, HB5.out⟩
end Go.Proofs.Ytoaocpfehdcfgaa.fnExactIsValueW
