/-
  The walk of laws.FnExactSameValue: it returns true at every input, given what the model's function and impl's answer.
-/
import Derived.Test.YtoaocpfehdcfgaaSzValue
import Derived.Test.YtoaocpfehdcfgaaToValue
import Derived.Test.YtoaocpfehdcfgaaEqValue
import Derived.Test.YtoaocpfehdcfgaaDataStrict
namespace Go.Proofs.Ytoaocpfehdcfgaa.fnExactSameValueW
open Go.RowKit
open Strs Tree Texts Go.Proofs.Ytoaocpfehdcfgaa.Data

set_option maxRecDepth 10000 in
set_option maxHeartbeats 16000000 in
theorem walk_of (z : Bool) (w : World) (das : List D) (hfa : FitL (env 10) (erases das)) (hha : Holdss 0 w das) (dbs : List D) (hfb : FitL (env 10) (erases dbs)) (hhb : Holdss 0 w dbs)
    (KSP : ∀ (w' : World) (eas : List D) (ebs : List D), erases eas = erases das → erases ebs = erases dbs → (∃ lo, Holdss lo w' eas) → Stricts eas → weights (erases eas) ≤ 1048576 → (∃ lo, Holdss lo w' ebs) → Stricts ebs → weights (erases ebs) ≤ 1048576 → Calls Try.prog 9 #[agg eas, agg ebs] w' fun r w'' => r = .returned (.bool z) ∧ Below w'.heap.size w' w'')
    (KIM : ∀ (w' : World) (eas : List D) (ebs : List D), erases eas = erases das → erases ebs = erases dbs → Own 0 w' (eas ++ ebs) → weights (erases eas) ≤ 1048576 → weights (erases ebs) ≤ 1048576 → Calls Try.prog 10 #[agg eas, agg ebs] w' fun r w'' => r = .returned (.bool z) ∧ Below w'.heap.size w' w'') :
    Calls Try.prog 4 #[agg das, agg dbs] w fun e w' => e = .returned (.bool true) ∧ Below w.heap.size w w' := by
  have HFa := Lib.hid hfa
  obtain ⟨an0, ae0, rfl, hfa_0⟩ := fitL_int hfa
  clear hfa
  obtain ⟨an1, ae1, rfl, hfa_1⟩ := fitL_int hfa_0
  clear hfa_0
  obtain ⟨as2, ae2, rfl, hfa_2⟩ := fitL_str hfa_1
  clear hfa_1
  obtain rfl := fitL_nil hfa_2
  clear hfa_2
  have HFb := Lib.hid hfb
  obtain ⟨bn0, be0, rfl, hfb_0⟩ := fitL_int hfb
  clear hfb
  obtain ⟨bn1, be1, rfl, hfb_1⟩ := fitL_int hfb_0
  clear hfb_0
  obtain ⟨bs2, be2, rfl, hfb_2⟩ := fitL_str hfb_1
  clear hfb_1
  obtain rfl := fitL_nil hfb_2
  clear hfb_2
  have HB0 : Hid (Below w.heap.size w ((w.alloc (Obj.cells #[Value.int .i64 an0, Value.int .i64 an1, Value.string as2] 23)).alloc (Obj.cells #[Value.int .i64 bn0, Value.int .i64 bn1, Value.string bs2] 23))) := Lib.hid (((Below.refl _ _).alloc (Nat.le_refl _) _).alloc (by simp) _)
  have c0_0 : Cells (w.heap.size) [D.int an0, D.int an1, D.str as2] ((w.alloc (Obj.cells #[Value.int .i64 an0, Value.int .i64 an1, Value.string as2] 23)).alloc (Obj.cells #[Value.int .i64 bn0, Value.int .i64 bn1, Value.string bs2] 23)) := by
    have h := cells_new w [D.int an0, D.int an1, D.str as2] 23
    exact h.step ((Below.refl _ _).alloc (Nat.le_refl _) _)
  have HC0_0 := Lib.hid c0_0
  clear c0_0
  have c0_1 : Cells (w.heap.size + 1) [D.int bn0, D.int bn1, D.str bs2] ((w.alloc (Obj.cells #[Value.int .i64 an0, Value.int .i64 an1, Value.string as2] 23)).alloc (Obj.cells #[Value.int .i64 bn0, Value.int .i64 bn1, Value.string bs2] 23)) := by
    have h := cells_new (w.alloc (Obj.cells #[Value.int .i64 an0, Value.int .i64 an1, Value.string as2] 23)) [D.int bn0, D.int bn1, D.str bs2] 23
    rw [show (w.alloc (Obj.cells #[Value.int .i64 an0, Value.int .i64 an1, Value.string as2] 23)).heap.size = w.heap.size + 1 by simp] at h
    exact h
  have HC0_1 := Lib.hid c0_1
  clear c0_1
  rw [show agg [D.int an0, D.int an1, D.str as2] = Value.agg #[Value.int .i64 an0, Value.int .i64 an1, Value.string as2] from rfl, show agg [D.int bn0, D.int bn1, D.str bs2] = Value.agg #[Value.int .i64 bn0, Value.int .i64 bn1, Value.string bs2] from rfl]
  by_cases hz0 : weights (erases [D.int an0, D.int an1, D.str as2]) ≤ 1048576
  rotate_left
  · skip
    clear KSP KIM
    go_enter Try.func4, Try.ntmps4
    have KZ := Lib.hid (sz_Value 0 1048576 ((w.alloc (Obj.cells #[Value.int .i64 an0, Value.int .i64 an1, Value.string as2] 23)).alloc (Obj.cells #[Value.int .i64 bn0, Value.int .i64 bn1, Value.string bs2] 23)) [D.int an0, D.int an1, D.str as2] (by omega) HFa.out (hha.below HB0.out))
    rw [after_no (by omega)] at KZ
    rw [show agg [D.int an0, D.int an1, D.str as2] = Value.agg #[Value.int .i64 an0, Value.int .i64 an1, Value.string as2] from rfl] at KZ
    go_wp2_with fail
    refine KZ.out.mono ?_
    rintro e y0 ⟨rfl, hb⟩
    clear KZ 
    have HB1 := Lib.hid ((HB0.out).trans (hb.mono HB0.out.size))
    have HC1_0 := Lib.hid (HC0_0.out.step hb)
    have HC1_1 := Lib.hid (HC0_1.out.step hb)
    clear HB0 HC0_0 HC0_1 hb
    go_wp2_with fail
    go_ret
    exact ⟨rfl, HB1.out⟩
  obtain ⟨l0, hl0⟩ : ∃ l, 1048576 - weights (erases [D.int an0, D.int an1, D.str as2]) = l := ⟨_, rfl⟩
  by_cases hz1 : weights (erases [D.int bn0, D.int bn1, D.str bs2]) ≤ l0
  rotate_left
  · skip
    clear KSP KIM
    go_enter Try.func4, Try.ntmps4
    have KZ := Lib.hid (sz_Value 0 1048576 ((w.alloc (Obj.cells #[Value.int .i64 an0, Value.int .i64 an1, Value.string as2] 23)).alloc (Obj.cells #[Value.int .i64 bn0, Value.int .i64 bn1, Value.string bs2] 23)) [D.int an0, D.int an1, D.str as2] (by omega) HFa.out (hha.below HB0.out))
    rw [after_yes (by assumption)] at KZ
    rw [hl0] at KZ
    rw [show agg [D.int an0, D.int an1, D.str as2] = Value.agg #[Value.int .i64 an0, Value.int .i64 an1, Value.string as2] from rfl] at KZ
    go_wp2_with fail
    refine KZ.out.mono ?_
    rintro e y0 ⟨rfl, hb⟩
    clear KZ 
    have HB1 := Lib.hid ((HB0.out).trans (hb.mono HB0.out.size))
    have HC1_0 := Lib.hid (HC0_0.out.step hb)
    have HC1_1 := Lib.hid (HC0_1.out.step hb)
    clear HB0 HC0_0 HC0_1 hb
    have c1_0 := HC1_1.out.at 0 (D.int bn0) rfl
    simp only [val] at c1_0
    have c1_1 := HC1_1.out.at 1 (D.int bn1) rfl
    simp only [val] at c1_1
    have c1_2 := HC1_1.out.at 2 (D.str bs2) rfl
    simp only [val] at c1_2
    have KZ := Lib.hid (sz_Value 0 l0 _ [D.int bn0, D.int bn1, D.str bs2] (by omega) HFb.out (hhb.below HB1.out))
    rw [after_no (by omega)] at KZ
    rw [show agg [D.int bn0, D.int bn1, D.str bs2] = Value.agg #[Value.int .i64 bn0, Value.int .i64 bn1, Value.string bs2] from rfl] at KZ
    go_wp2_with fail
    refine KZ.out.mono ?_
    rintro e y1 ⟨rfl, hb⟩
    clear KZ c1_0 c1_1 c1_2
    have HB2 := Lib.hid ((HB1.out).trans (hb.mono HB1.out.size))
    have HC2_0 := Lib.hid (HC1_0.out.step hb)
    have HC2_1 := Lib.hid (HC1_1.out.step hb)
    clear HB1 HC1_0 HC1_1 hb
    go_wp2_with fail
    go_ret
    exact ⟨rfl, HB2.out⟩
  obtain ⟨l1, hl1⟩ : ∃ l, l0 - weights (erases [D.int bn0, D.int bn1, D.str bs2]) = l := ⟨_, rfl⟩
  go_enter Try.func4, Try.ntmps4
  have KZ := Lib.hid (sz_Value 0 1048576 ((w.alloc (Obj.cells #[Value.int .i64 an0, Value.int .i64 an1, Value.string as2] 23)).alloc (Obj.cells #[Value.int .i64 bn0, Value.int .i64 bn1, Value.string bs2] 23)) [D.int an0, D.int an1, D.str as2] (by omega) HFa.out (hha.below HB0.out))
  rw [after_yes (by assumption)] at KZ
  rw [hl0] at KZ
  rw [show agg [D.int an0, D.int an1, D.str as2] = Value.agg #[Value.int .i64 an0, Value.int .i64 an1, Value.string as2] from rfl] at KZ
  go_wp2_with fail
  refine KZ.out.mono ?_
  rintro e y0 ⟨rfl, hb⟩
  clear KZ 
  have HB1 := Lib.hid ((HB0.out).trans (hb.mono HB0.out.size))
  have HC1_0 := Lib.hid (HC0_0.out.step hb)
  have HC1_1 := Lib.hid (HC0_1.out.step hb)
  clear HB0 HC0_0 HC0_1 hb
  have c1_0 := HC1_1.out.at 0 (D.int bn0) rfl
  simp only [val] at c1_0
  have c1_1 := HC1_1.out.at 1 (D.int bn1) rfl
  simp only [val] at c1_1
  have c1_2 := HC1_1.out.at 2 (D.str bs2) rfl
  simp only [val] at c1_2
  have KZ := Lib.hid (sz_Value 0 l0 _ [D.int bn0, D.int bn1, D.str bs2] (by omega) HFb.out (hhb.below HB1.out))
  rw [after_yes (by assumption)] at KZ
  rw [hl1] at KZ
  rw [show agg [D.int bn0, D.int bn1, D.str bs2] = Value.agg #[Value.int .i64 bn0, Value.int .i64 bn1, Value.string bs2] from rfl] at KZ
  go_wp2_with fail
  refine KZ.out.mono ?_
  rintro e y1 ⟨rfl, hb⟩
  clear KZ c1_0 c1_1 c1_2
  have HB2 := Lib.hid ((HB1.out).trans (hb.mono HB1.out.size))
  have HC2_0 := Lib.hid (HC1_0.out.step hb)
  have HC2_1 := Lib.hid (HC1_1.out.step hb)
  clear HB1 HC1_0 HC1_1 hb
  have hw0 : weights (erases [D.int an0, D.int an1, D.str as2]) ≤ 1048576 := by omega
  have HW0 := Lib.hid hw0
  have hw1 : weights (erases [D.int bn0, D.int bn1, D.str bs2]) ≤ 1048576 := by omega
  have HW1 := Lib.hid hw1
  clear hz0 hl0 hw0 hz1 hl1 hw1
  have KT0 := fun (w' : World) (hb : Below w.heap.size w w') => Lib.hid (to_Value 0 w' [D.int an0, D.int an1, D.str as2] HW0.out HFa.out (hha.below hb))
  rw [show agg [D.int an0, D.int an1, D.str as2] = Value.agg #[Value.int .i64 an0, Value.int .i64 an1, Value.string as2] from rfl] at KT0
  have KT1 := fun (w' : World) (hb : Below w.heap.size w w') => Lib.hid (to_Value 0 w' [D.int bn0, D.int bn1, D.str bs2] HW1.out HFb.out (hhb.below hb))
  rw [show agg [D.int bn0, D.int bn1, D.str bs2] = Value.agg #[Value.int .i64 bn0, Value.int .i64 bn1, Value.string bs2] from rfl] at KT1
  have c0_0 := HC2_0.out.at 0 (D.int an0) rfl
  simp only [val] at c0_0
  have c0_1 := HC2_0.out.at 1 (D.int an1) rfl
  simp only [val] at c0_1
  have c0_2 := HC2_0.out.at 2 (D.str as2) rfl
  simp only [val] at c0_2
  have c1_0 := HC2_1.out.at 0 (D.int bn0) rfl
  simp only [val] at c1_0
  have c1_1 := HC2_1.out.at 1 (D.int bn1) rfl
  simp only [val] at c1_1
  have c1_2 := HC2_1.out.at 2 (D.str bs2) rfl
  simp only [val] at c1_2
  go_wp2_with fail
  go_region_held3 (fun w' => w'.cell? ⟨w.heap.size, 0, none⟩ = some (Value.int .i64 an0) ∧ w'.cell? ⟨w.heap.size, 1, none⟩ = some (Value.int .i64 an1) ∧ w'.cell? ⟨w.heap.size, 2, none⟩ = some (Value.string as2) ∧ w'.cell? ⟨w.heap.size + 1, 0, none⟩ = some (Value.int .i64 bn0) ∧ w'.cell? ⟨w.heap.size + 1, 1, none⟩ = some (Value.int .i64 bn1) ∧ w'.cell? ⟨w.heap.size + 1, 2, none⟩ = some (Value.string bs2))
    (first | exact ⟨(cell_keep hb2 (cell_keep hb1 (cell_keep hb0 (show y1.drew.cell? _ = _ from c0_0)))), (cell_keep hb2 (cell_keep hb1 (cell_keep hb0 (show y1.drew.cell? _ = _ from c0_1)))), (cell_keep hb2 (cell_keep hb1 (cell_keep hb0 (show y1.drew.cell? _ = _ from c0_2)))), (cell_keep hb2 (cell_keep hb1 (cell_keep hb0 (show y1.drew.cell? _ = _ from c1_0)))), (cell_keep hb2 (cell_keep hb1 (cell_keep hb0 (show y1.drew.cell? _ = _ from c1_1)))), (cell_keep hb2 (cell_keep hb1 (cell_keep hb0 (show y1.drew.cell? _ = _ from c1_2))))⟩ | exact ⟨(cell_keep hb1 (cell_keep hb0 (show y1.drew.cell? _ = _ from c0_0))), (cell_keep hb1 (cell_keep hb0 (show y1.drew.cell? _ = _ from c0_1))), (cell_keep hb1 (cell_keep hb0 (show y1.drew.cell? _ = _ from c0_2))), (cell_keep hb1 (cell_keep hb0 (show y1.drew.cell? _ = _ from c1_0))), (cell_keep hb1 (cell_keep hb0 (show y1.drew.cell? _ = _ from c1_1))), (cell_keep hb1 (cell_keep hb0 (show y1.drew.cell? _ = _ from c1_2)))⟩ | exact ⟨(cell_keep hb0 (show y1.drew.cell? _ = _ from c0_0)), (cell_keep hb0 (show y1.drew.cell? _ = _ from c0_1)), (cell_keep hb0 (show y1.drew.cell? _ = _ from c0_2)), (cell_keep hb0 (show y1.drew.cell? _ = _ from c1_0)), (cell_keep hb0 (show y1.drew.cell? _ = _ from c1_1)), (cell_keep hb0 (show y1.drew.cell? _ = _ from c1_2))⟩ | exact ⟨c0_0, c0_1, c0_2, c1_0, c1_1, c1_2⟩ | go_keep)
    (first
      | (go_at_call_of 7 (Value.string as2); refine (KT0 _ (HB2.out.drew)).out.mono ?_; rintro e y10 ⟨es0, rfl, he0, ho0, hb0⟩)
      | (go_at_call_of 7 (Value.string bs2); refine (KT1 _ ((HB2.out.drew).trans (hb0.mono (HB2.out.drew).size))).out.mono ?_; rintro e y11 ⟨es1, rfl, he1, ho1, hb1⟩)
      | (go_at_call 9; refine (KSP _ es0 es1 he0 he1 ⟨_, (ho0.below hb1).holds⟩ (ho0.below hb1).strict (by rw [he0]; exact HW0.out) ⟨_, ho1.holds⟩ ho1.strict (by rw [he1]; exact HW1.out)).mono ?_; rintro e y19 ⟨rfl, hb2⟩))
  have hbb : Below y1.heap.size y1 y19 := by
    have h := (Below.refl y1.heap.size y1).drew
    have h := h.trans (hb0.mono h.size)
    have h := h.trans (hb1.mono h.size)
    have h := h.trans (hb2.mono h.size)
    exact h
  clear c0_0 c0_1 c0_2 c1_0 c1_1 c1_2 hb0 hb1 hb2 ho0 he0 ho1 he1
  have HB3 := Lib.hid ((HB2.out).trans (hbb.mono HB2.out.size))
  have HC3_0 := Lib.hid (HC2_0.out.step hbb)
  have HC3_1 := Lib.hid (HC2_1.out.step hbb)
  clear HB2 HC2_0 HC2_1 hbb
  clear KSP
  go_wp2_with fail
  have c0_0 := HC3_0.out.at 0 (D.int an0) rfl
  simp only [val] at c0_0
  have c0_1 := HC3_0.out.at 1 (D.int an1) rfl
  simp only [val] at c0_1
  have c0_2 := HC3_0.out.at 2 (D.str as2) rfl
  simp only [val] at c0_2
  have c1_0 := HC3_1.out.at 0 (D.int bn0) rfl
  simp only [val] at c1_0
  have c1_1 := HC3_1.out.at 1 (D.int bn1) rfl
  simp only [val] at c1_1
  have c1_2 := HC3_1.out.at 2 (D.str bs2) rfl
  simp only [val] at c1_2
  go_region_held3 (fun w' => w'.cell? ⟨w.heap.size, 0, none⟩ = some (Value.int .i64 an0) ∧ w'.cell? ⟨w.heap.size, 1, none⟩ = some (Value.int .i64 an1) ∧ w'.cell? ⟨w.heap.size, 2, none⟩ = some (Value.string as2) ∧ w'.cell? ⟨w.heap.size + 1, 0, none⟩ = some (Value.int .i64 bn0) ∧ w'.cell? ⟨w.heap.size + 1, 1, none⟩ = some (Value.int .i64 bn1) ∧ w'.cell? ⟨w.heap.size + 1, 2, none⟩ = some (Value.string bs2))
    (first | exact ⟨(cell_keep hq2 (cell_keep hq1 (cell_keep hq0 (show y19.drew.cell? _ = _ from c0_0)))), (cell_keep hq2 (cell_keep hq1 (cell_keep hq0 (show y19.drew.cell? _ = _ from c0_1)))), (cell_keep hq2 (cell_keep hq1 (cell_keep hq0 (show y19.drew.cell? _ = _ from c0_2)))), (cell_keep hq2 (cell_keep hq1 (cell_keep hq0 (show y19.drew.cell? _ = _ from c1_0)))), (cell_keep hq2 (cell_keep hq1 (cell_keep hq0 (show y19.drew.cell? _ = _ from c1_1)))), (cell_keep hq2 (cell_keep hq1 (cell_keep hq0 (show y19.drew.cell? _ = _ from c1_2))))⟩ | exact ⟨(cell_keep hq1 (cell_keep hq0 (show y19.drew.cell? _ = _ from c0_0))), (cell_keep hq1 (cell_keep hq0 (show y19.drew.cell? _ = _ from c0_1))), (cell_keep hq1 (cell_keep hq0 (show y19.drew.cell? _ = _ from c0_2))), (cell_keep hq1 (cell_keep hq0 (show y19.drew.cell? _ = _ from c1_0))), (cell_keep hq1 (cell_keep hq0 (show y19.drew.cell? _ = _ from c1_1))), (cell_keep hq1 (cell_keep hq0 (show y19.drew.cell? _ = _ from c1_2)))⟩ | exact ⟨(cell_keep hq0 (show y19.drew.cell? _ = _ from c0_0)), (cell_keep hq0 (show y19.drew.cell? _ = _ from c0_1)), (cell_keep hq0 (show y19.drew.cell? _ = _ from c0_2)), (cell_keep hq0 (show y19.drew.cell? _ = _ from c1_0)), (cell_keep hq0 (show y19.drew.cell? _ = _ from c1_1)), (cell_keep hq0 (show y19.drew.cell? _ = _ from c1_2))⟩ | exact ⟨c0_0, c0_1, c0_2, c1_0, c1_1, c1_2⟩ | go_keep)
    (first
      | (go_at_call_of 7 (Value.string as2); refine (KT0 _ (HB3.out.drew)).out.mono ?_; rintro e y40 ⟨fs0, rfl, hf0, hp0, hq0⟩)
      | (go_at_call_of 7 (Value.string bs2); refine (KT1 _ ((HB3.out.drew).trans (hq0.mono (HB3.out.drew).size))).out.mono ?_; rintro e y41 ⟨fs1, rfl, hf1, hp1, hq1⟩)
      | (go_at_call 10; refine (KIM _ fs0 fs1 hf0 hf1 ((hp0.mono (base' := 0) (Nat.zero_le _)).snoc hq1 hp1 (Nat.zero_le _)) (by rw [hf0]; exact HW0.out) (by rw [hf1]; exact HW1.out)).mono ?_; rintro e y30 ⟨rfl, hq2⟩))
  have hbb : Below y19.heap.size y19 y30 := by
    have h := (Below.refl y19.heap.size y19).drew
    have h := h.trans (hq0.mono h.size)
    have h := h.trans (hq1.mono h.size)
    have h := h.trans (hq2.mono h.size)
    exact h
  clear c0_0 c0_1 c0_2 c1_0 c1_1 c1_2 hq0 hq1 hq2 hf0 hp0 hf1 hp1
  clear KIM
  have HB4 := Lib.hid ((HB3.out).trans (hbb.mono HB3.out.size))
  have HC4_0 := Lib.hid (HC3_0.out.step hbb)
  have HC4_1 := Lib.hid (HC3_1.out.step hbb)
  clear HB3 HC3_0 HC3_1 hbb
  go_wp2_with fail
  go_ret
  exact ⟨rfl, HB4.out⟩
end Go.Proofs.Ytoaocpfehdcfgaa.fnExactSameValueW
