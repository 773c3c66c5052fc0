/-
  The walk of laws.FnExactEqualUnits: it returns true at every input, given what the model's function and impl's answer.
-/
import Derived.Test.YtlmhgeanknhcfaaSzUnit
import Derived.Test.YtlmhgeanknhcfaaToUnit
import Derived.Test.YtlmhgeanknhcfaaEqUnit
import Derived.Test.YtlmhgeanknhcfaaDataStrict
namespace Go.Proofs.Ytlmhgeanknhcfaa.fnExactEqualUnitsW
open Go.RowKit
open Strs Tree Texts Go.Proofs.Ytlmhgeanknhcfaa.Data

set_option maxRecDepth 10000 in
set_option maxHeartbeats 16000000 in
theorem walk_of (z : Bool) (w : World) (das : List D) (hfa : FitL (env 5) (erases das)) (hha : Holdss 0 w das) (dbs : List D) (hfb : FitL (env 5) (erases dbs)) (hhb : Holdss 0 w dbs)
    (KSP : ∀ (w' : World) (eas : List D) (ebs : List D), erases eas = erases das → erases ebs = erases dbs → (∃ lo, Holdss lo w' eas) → Stricts eas → weights (erases eas) ≤ 1048576 → (∃ lo, Holdss lo w' ebs) → Stricts ebs → weights (erases ebs) ≤ 1048576 → Calls Try.prog 11 #[agg eas, agg ebs] w' fun r w'' => r = .returned (.bool z) ∧ Below w'.heap.size w' w'')
    (KIM : ∀ (w' : World) (eas : List D) (ebs : List D), erases eas = erases das → erases ebs = erases dbs → Own 0 w' (eas ++ ebs) → weights (erases eas) ≤ 1048576 → weights (erases ebs) ≤ 1048576 → Calls Try.prog 13 #[agg eas, agg ebs] w' fun r w'' => r = .returned (.bool z) ∧ Below w'.heap.size w' w'') :
    Calls Try.prog 4 #[agg das, agg dbs] w fun e w' => e = .returned (.bool true) ∧ Below w.heap.size w w' := by
  have HFa := Lib.hid hfa
  obtain ⟨at0, av0, ad0, ae0, rfl, af0, hfa_0⟩ := fitL_row (k := 4) rfl hfa
  clear hfa
  obtain ⟨as1, ae1, rfl, hfa_1⟩ := fitL_str hfa_0
  clear hfa_0
  obtain ⟨ax2, ae2, rfl, hfa_2⟩ := fitL_bool hfa_1
  clear hfa_1
  obtain ⟨at3, av3, ad3, ae3, rfl, af3, hfa_3⟩ := fitL_row (k := 1) rfl hfa_2
  clear hfa_2
  obtain ⟨at4, av4, ad4, ae4, rfl, af4, hfa_4⟩ := fitL_row (k := 1) rfl hfa_3
  clear hfa_3
  obtain ⟨at5, av5, ad5, ae5, rfl, af5, hfa_5⟩ := fitL_row (k := 5) rfl hfa_4
  clear hfa_4
  obtain rfl := fitL_nil hfa_5
  clear hfa_5
  clear af0 af3 af4 af5
  have HFb := Lib.hid hfb
  obtain ⟨bt0, bv0, bd0, be0, rfl, bf0, hfb_0⟩ := fitL_row (k := 4) rfl hfb
  clear hfb
  obtain ⟨bs1, be1, rfl, hfb_1⟩ := fitL_str hfb_0
  clear hfb_0
  obtain ⟨bx2, be2, rfl, hfb_2⟩ := fitL_bool hfb_1
  clear hfb_1
  obtain ⟨bt3, bv3, bd3, be3, rfl, bf3, hfb_3⟩ := fitL_row (k := 1) rfl hfb_2
  clear hfb_2
  obtain ⟨bt4, bv4, bd4, be4, rfl, bf4, hfb_4⟩ := fitL_row (k := 1) rfl hfb_3
  clear hfb_3
  obtain ⟨bt5, bv5, bd5, be5, rfl, bf5, hfb_5⟩ := fitL_row (k := 5) rfl hfb_4
  clear hfb_4
  obtain rfl := fitL_nil hfb_5
  clear hfb_5
  clear bf0 bf3 bf4 bf5
  have HB0 : Hid (Below w.heap.size w ((w.alloc (Obj.cells #[av0, Value.string as1, Value.bool ax2, av3, av4, av5] 35)).alloc (Obj.cells #[bv0, Value.string bs1, Value.bool bx2, bv3, bv4, bv5] 35))) := Lib.hid (((Below.refl _ _).alloc (Nat.le_refl _) _).alloc (by simp) _)
  have c0_0 : Cells (w.heap.size) [D.row at0 4 av0 ad0, D.str as1, D.bool ax2, D.row at3 1 av3 ad3, D.row at4 1 av4 ad4, D.row at5 5 av5 ad5] ((w.alloc (Obj.cells #[av0, Value.string as1, Value.bool ax2, av3, av4, av5] 35)).alloc (Obj.cells #[bv0, Value.string bs1, Value.bool bx2, bv3, bv4, bv5] 35)) := by
    have h := cells_new w [D.row at0 4 av0 ad0, D.str as1, D.bool ax2, D.row at3 1 av3 ad3, D.row at4 1 av4 ad4, D.row at5 5 av5 ad5] 35
    exact h.step ((Below.refl _ _).alloc (Nat.le_refl _) _)
  have HC0_0 := Lib.hid c0_0
  clear c0_0
  have c0_1 : Cells (w.heap.size + 1) [D.row bt0 4 bv0 bd0, D.str bs1, D.bool bx2, D.row bt3 1 bv3 bd3, D.row bt4 1 bv4 bd4, D.row bt5 5 bv5 bd5] ((w.alloc (Obj.cells #[av0, Value.string as1, Value.bool ax2, av3, av4, av5] 35)).alloc (Obj.cells #[bv0, Value.string bs1, Value.bool bx2, bv3, bv4, bv5] 35)) := by
    have h := cells_new (w.alloc (Obj.cells #[av0, Value.string as1, Value.bool ax2, av3, av4, av5] 35)) [D.row bt0 4 bv0 bd0, D.str bs1, D.bool bx2, D.row bt3 1 bv3 bd3, D.row bt4 1 bv4 bd4, D.row bt5 5 bv5 bd5] 35
    rw [show (w.alloc (Obj.cells #[av0, Value.string as1, Value.bool ax2, av3, av4, av5] 35)).heap.size = w.heap.size + 1 by simp] at h
    exact h
  have HC0_1 := Lib.hid c0_1
  clear c0_1
  rw [show agg [D.row at0 4 av0 ad0, D.str as1, D.bool ax2, D.row at3 1 av3 ad3, D.row at4 1 av4 ad4, D.row at5 5 av5 ad5] = Value.agg #[av0, Value.string as1, Value.bool ax2, av3, av4, av5] from rfl, show agg [D.row bt0 4 bv0 bd0, D.str bs1, D.bool bx2, D.row bt3 1 bv3 bd3, D.row bt4 1 bv4 bd4, D.row bt5 5 bv5 bd5] = Value.agg #[bv0, Value.string bs1, Value.bool bx2, bv3, bv4, bv5] from rfl]
  by_cases hz0 : weights (erases [D.row at0 4 av0 ad0, D.str as1, D.bool ax2, D.row at3 1 av3 ad3, D.row at4 1 av4 ad4, D.row at5 5 av5 ad5]) ≤ 1048576
  rotate_left
  · skip
    clear KSP KIM
    go_enter Try.func4, Try.ntmps4
    have KZ := Lib.hid (sz_Unit 0 1048576 ((w.alloc (Obj.cells #[av0, Value.string as1, Value.bool ax2, av3, av4, av5] 35)).alloc (Obj.cells #[bv0, Value.string bs1, Value.bool bx2, bv3, bv4, bv5] 35)) [D.row at0 4 av0 ad0, D.str as1, D.bool ax2, D.row at3 1 av3 ad3, D.row at4 1 av4 ad4, D.row at5 5 av5 ad5] (by omega) HFa.out (hha.below HB0.out))
    rw [after_no (by omega)] at KZ
    rw [show agg [D.row at0 4 av0 ad0, D.str as1, D.bool ax2, D.row at3 1 av3 ad3, D.row at4 1 av4 ad4, D.row at5 5 av5 ad5] = Value.agg #[av0, Value.string as1, Value.bool ax2, av3, av4, av5] from rfl] at KZ
    go_wp2_with fail
    refine KZ.out.mono ?_
    rintro e y0 ⟨rfl, hb⟩
    clear KZ 
    have HB1 := Lib.hid ((HB0.out).trans (hb.mono HB0.out.size))
    have HC1_0 := Lib.hid (HC0_0.out.step hb)
    have HC1_1 := Lib.hid (HC0_1.out.step hb)
    clear HB0 HC0_0 HC0_1 hb
    go_wp2_with fail
    go_ret
    exact ⟨rfl, HB1.out⟩
  obtain ⟨l0, hl0⟩ : ∃ l, 1048576 - weights (erases [D.row at0 4 av0 ad0, D.str as1, D.bool ax2, D.row at3 1 av3 ad3, D.row at4 1 av4 ad4, D.row at5 5 av5 ad5]) = l := ⟨_, rfl⟩
  by_cases hz1 : weights (erases [D.row bt0 4 bv0 bd0, D.str bs1, D.bool bx2, D.row bt3 1 bv3 bd3, D.row bt4 1 bv4 bd4, D.row bt5 5 bv5 bd5]) ≤ l0
  rotate_left
  · skip
    clear KSP KIM
    go_enter Try.func4, Try.ntmps4
    have KZ := Lib.hid (sz_Unit 0 1048576 ((w.alloc (Obj.cells #[av0, Value.string as1, Value.bool ax2, av3, av4, av5] 35)).alloc (Obj.cells #[bv0, Value.string bs1, Value.bool bx2, bv3, bv4, bv5] 35)) [D.row at0 4 av0 ad0, D.str as1, D.bool ax2, D.row at3 1 av3 ad3, D.row at4 1 av4 ad4, D.row at5 5 av5 ad5] (by omega) HFa.out (hha.below HB0.out))
    rw [after_yes (by assumption)] at KZ
    rw [hl0] at KZ
    rw [show agg [D.row at0 4 av0 ad0, D.str as1, D.bool ax2, D.row at3 1 av3 ad3, D.row at4 1 av4 ad4, D.row at5 5 av5 ad5] = Value.agg #[av0, Value.string as1, Value.bool ax2, av3, av4, av5] from rfl] at KZ
    go_wp2_with fail
    refine KZ.out.mono ?_
    rintro e y0 ⟨rfl, hb⟩
    clear KZ 
    have HB1 := Lib.hid ((HB0.out).trans (hb.mono HB0.out.size))
    have HC1_0 := Lib.hid (HC0_0.out.step hb)
    have HC1_1 := Lib.hid (HC0_1.out.step hb)
    clear HB0 HC0_0 HC0_1 hb
    have c1_0 := HC1_1.out.at 0 (D.row bt0 4 bv0 bd0) rfl
    simp only [val] at c1_0
    have c1_1 := HC1_1.out.at 1 (D.str bs1) rfl
    simp only [val] at c1_1
    have c1_2 := HC1_1.out.at 2 (D.bool bx2) rfl
    simp only [val] at c1_2
    have c1_3 := HC1_1.out.at 3 (D.row bt3 1 bv3 bd3) rfl
    simp only [val] at c1_3
    have c1_4 := HC1_1.out.at 4 (D.row bt4 1 bv4 bd4) rfl
    simp only [val] at c1_4
    have c1_5 := HC1_1.out.at 5 (D.row bt5 5 bv5 bd5) rfl
    simp only [val] at c1_5
    have KZ := Lib.hid (sz_Unit 0 l0 _ [D.row bt0 4 bv0 bd0, D.str bs1, D.bool bx2, D.row bt3 1 bv3 bd3, D.row bt4 1 bv4 bd4, D.row bt5 5 bv5 bd5] (by omega) HFb.out (hhb.below HB1.out))
    rw [after_no (by omega)] at KZ
    rw [show agg [D.row bt0 4 bv0 bd0, D.str bs1, D.bool bx2, D.row bt3 1 bv3 bd3, D.row bt4 1 bv4 bd4, D.row bt5 5 bv5 bd5] = Value.agg #[bv0, Value.string bs1, Value.bool bx2, bv3, bv4, bv5] from rfl] at KZ
    go_wp2_with fail
    refine KZ.out.mono ?_
    rintro e y1 ⟨rfl, hb⟩
    clear KZ c1_0 c1_1 c1_2 c1_3 c1_4 c1_5
    have HB2 := Lib.hid ((HB1.out).trans (hb.mono HB1.out.size))
    have HC2_0 := Lib.hid (HC1_0.out.step hb)
    have HC2_1 := Lib.hid (HC1_1.out.step hb)
    clear HB1 HC1_0 HC1_1 hb
    go_wp2_with fail
    go_ret
    exact ⟨rfl, HB2.out⟩
  obtain ⟨l1, hl1⟩ : ∃ l, l0 - weights (erases [D.row bt0 4 bv0 bd0, D.str bs1, D.bool bx2, D.row bt3 1 bv3 bd3, D.row bt4 1 bv4 bd4, D.row bt5 5 bv5 bd5]) = l := ⟨_, rfl⟩
  go_enter Try.func4, Try.ntmps4
  have KZ := Lib.hid (sz_Unit 0 1048576 ((w.alloc (Obj.cells #[av0, Value.string as1, Value.bool ax2, av3, av4, av5] 35)).alloc (Obj.cells #[bv0, Value.string bs1, Value.bool bx2, bv3, bv4, bv5] 35)) [D.row at0 4 av0 ad0, D.str as1, D.bool ax2, D.row at3 1 av3 ad3, D.row at4 1 av4 ad4, D.row at5 5 av5 ad5] (by omega) HFa.out (hha.below HB0.out))
  rw [after_yes (by assumption)] at KZ
  rw [hl0] at KZ
  rw [show agg [D.row at0 4 av0 ad0, D.str as1, D.bool ax2, D.row at3 1 av3 ad3, D.row at4 1 av4 ad4, D.row at5 5 av5 ad5] = Value.agg #[av0, Value.string as1, Value.bool ax2, av3, av4, av5] from rfl] at KZ
  go_wp2_with fail
  refine KZ.out.mono ?_
  rintro e y0 ⟨rfl, hb⟩
  clear KZ 
  have HB1 := Lib.hid ((HB0.out).trans (hb.mono HB0.out.size))
  have HC1_0 := Lib.hid (HC0_0.out.step hb)
  have HC1_1 := Lib.hid (HC0_1.out.step hb)
  clear HB0 HC0_0 HC0_1 hb
  have c1_0 := HC1_1.out.at 0 (D.row bt0 4 bv0 bd0) rfl
  simp only [val] at c1_0
  have c1_1 := HC1_1.out.at 1 (D.str bs1) rfl
  simp only [val] at c1_1
  have c1_2 := HC1_1.out.at 2 (D.bool bx2) rfl
  simp only [val] at c1_2
  have c1_3 := HC1_1.out.at 3 (D.row bt3 1 bv3 bd3) rfl
  simp only [val] at c1_3
  have c1_4 := HC1_1.out.at 4 (D.row bt4 1 bv4 bd4) rfl
  simp only [val] at c1_4
  have c1_5 := HC1_1.out.at 5 (D.row bt5 5 bv5 bd5) rfl
  simp only [val] at c1_5
  have KZ := Lib.hid (sz_Unit 0 l0 _ [D.row bt0 4 bv0 bd0, D.str bs1, D.bool bx2, D.row bt3 1 bv3 bd3, D.row bt4 1 bv4 bd4, D.row bt5 5 bv5 bd5] (by omega) HFb.out (hhb.below HB1.out))
  rw [after_yes (by assumption)] at KZ
  rw [hl1] at KZ
  rw [show agg [D.row bt0 4 bv0 bd0, D.str bs1, D.bool bx2, D.row bt3 1 bv3 bd3, D.row bt4 1 bv4 bd4, D.row bt5 5 bv5 bd5] = Value.agg #[bv0, Value.string bs1, Value.bool bx2, bv3, bv4, bv5] from rfl] at KZ
  go_wp2_with fail
  refine KZ.out.mono ?_
  rintro e y1 ⟨rfl, hb⟩
  clear KZ c1_0 c1_1 c1_2 c1_3 c1_4 c1_5
  have HB2 := Lib.hid ((HB1.out).trans (hb.mono HB1.out.size))
  have HC2_0 := Lib.hid (HC1_0.out.step hb)
  have HC2_1 := Lib.hid (HC1_1.out.step hb)
  clear HB1 HC1_0 HC1_1 hb
  have hw0 : weights (erases [D.row at0 4 av0 ad0, D.str as1, D.bool ax2, D.row at3 1 av3 ad3, D.row at4 1 av4 ad4, D.row at5 5 av5 ad5]) ≤ 1048576 := by omega
  have HW0 := Lib.hid hw0
  have hw1 : weights (erases [D.row bt0 4 bv0 bd0, D.str bs1, D.bool bx2, D.row bt3 1 bv3 bd3, D.row bt4 1 bv4 bd4, D.row bt5 5 bv5 bd5]) ≤ 1048576 := by omega
  have HW1 := Lib.hid hw1
  clear hz0 hl0 hw0 hz1 hl1 hw1
  have KT0 := fun (w' : World) (hb : Below w.heap.size w w') => Lib.hid (to_Unit 0 w' [D.row at0 4 av0 ad0, D.str as1, D.bool ax2, D.row at3 1 av3 ad3, D.row at4 1 av4 ad4, D.row at5 5 av5 ad5] HW0.out HFa.out (hha.below hb))
  rw [show agg [D.row at0 4 av0 ad0, D.str as1, D.bool ax2, D.row at3 1 av3 ad3, D.row at4 1 av4 ad4, D.row at5 5 av5 ad5] = Value.agg #[av0, Value.string as1, Value.bool ax2, av3, av4, av5] from rfl] at KT0
  have KT1 := fun (w' : World) (hb : Below w.heap.size w w') => Lib.hid (to_Unit 0 w' [D.row bt0 4 bv0 bd0, D.str bs1, D.bool bx2, D.row bt3 1 bv3 bd3, D.row bt4 1 bv4 bd4, D.row bt5 5 bv5 bd5] HW1.out HFb.out (hhb.below hb))
  rw [show agg [D.row bt0 4 bv0 bd0, D.str bs1, D.bool bx2, D.row bt3 1 bv3 bd3, D.row bt4 1 bv4 bd4, D.row bt5 5 bv5 bd5] = Value.agg #[bv0, Value.string bs1, Value.bool bx2, bv3, bv4, bv5] from rfl] at KT1
  have c0_0 := HC2_0.out.at 0 (D.row at0 4 av0 ad0) rfl
  simp only [val] at c0_0
  have c0_1 := HC2_0.out.at 1 (D.str as1) rfl
  simp only [val] at c0_1
  have c0_2 := HC2_0.out.at 2 (D.bool ax2) rfl
  simp only [val] at c0_2
  have c0_3 := HC2_0.out.at 3 (D.row at3 1 av3 ad3) rfl
  simp only [val] at c0_3
  have c0_4 := HC2_0.out.at 4 (D.row at4 1 av4 ad4) rfl
  simp only [val] at c0_4
  have c0_5 := HC2_0.out.at 5 (D.row at5 5 av5 ad5) rfl
  simp only [val] at c0_5
  have c1_0 := HC2_1.out.at 0 (D.row bt0 4 bv0 bd0) rfl
  simp only [val] at c1_0
  have c1_1 := HC2_1.out.at 1 (D.str bs1) rfl
  simp only [val] at c1_1
  have c1_2 := HC2_1.out.at 2 (D.bool bx2) rfl
  simp only [val] at c1_2
  have c1_3 := HC2_1.out.at 3 (D.row bt3 1 bv3 bd3) rfl
  simp only [val] at c1_3
  have c1_4 := HC2_1.out.at 4 (D.row bt4 1 bv4 bd4) rfl
  simp only [val] at c1_4
  have c1_5 := HC2_1.out.at 5 (D.row bt5 5 bv5 bd5) rfl
  simp only [val] at c1_5
  go_wp2_with fail
  go_region_held3 (fun w' => w'.cell? ⟨w.heap.size, 0, none⟩ = some av0 ∧ w'.cell? ⟨w.heap.size, 1, none⟩ = some (Value.string as1) ∧ w'.cell? ⟨w.heap.size, 2, none⟩ = some (Value.bool ax2) ∧ w'.cell? ⟨w.heap.size, 3, none⟩ = some av3 ∧ w'.cell? ⟨w.heap.size, 4, none⟩ = some av4 ∧ w'.cell? ⟨w.heap.size, 5, none⟩ = some av5 ∧ w'.cell? ⟨w.heap.size + 1, 0, none⟩ = some bv0 ∧ w'.cell? ⟨w.heap.size + 1, 1, none⟩ = some (Value.string bs1) ∧ w'.cell? ⟨w.heap.size + 1, 2, none⟩ = some (Value.bool bx2) ∧ w'.cell? ⟨w.heap.size + 1, 3, none⟩ = some bv3 ∧ w'.cell? ⟨w.heap.size + 1, 4, none⟩ = some bv4 ∧ w'.cell? ⟨w.heap.size + 1, 5, none⟩ = some bv5)
    (first | exact ⟨(cell_keep hb2 (cell_keep hb1 (cell_keep hb0 (show y1.drew.cell? _ = _ from c0_0)))), (cell_keep hb2 (cell_keep hb1 (cell_keep hb0 (show y1.drew.cell? _ = _ from c0_1)))), (cell_keep hb2 (cell_keep hb1 (cell_keep hb0 (show y1.drew.cell? _ = _ from c0_2)))), (cell_keep hb2 (cell_keep hb1 (cell_keep hb0 (show y1.drew.cell? _ = _ from c0_3)))), (cell_keep hb2 (cell_keep hb1 (cell_keep hb0 (show y1.drew.cell? _ = _ from c0_4)))), (cell_keep hb2 (cell_keep hb1 (cell_keep hb0 (show y1.drew.cell? _ = _ from c0_5)))), (cell_keep hb2 (cell_keep hb1 (cell_keep hb0 (show y1.drew.cell? _ = _ from c1_0)))), (cell_keep hb2 (cell_keep hb1 (cell_keep hb0 (show y1.drew.cell? _ = _ from c1_1)))), (cell_keep hb2 (cell_keep hb1 (cell_keep hb0 (show y1.drew.cell? _ = _ from c1_2)))), (cell_keep hb2 (cell_keep hb1 (cell_keep hb0 (show y1.drew.cell? _ = _ from c1_3)))), (cell_keep hb2 (cell_keep hb1 (cell_keep hb0 (show y1.drew.cell? _ = _ from c1_4)))), (cell_keep hb2 (cell_keep hb1 (cell_keep hb0 (show y1.drew.cell? _ = _ from c1_5))))⟩ | exact ⟨(cell_keep hb1 (cell_keep hb0 (show y1.drew.cell? _ = _ from c0_0))), (cell_keep hb1 (cell_keep hb0 (show y1.drew.cell? _ = _ from c0_1))), (cell_keep hb1 (cell_keep hb0 (show y1.drew.cell? _ = _ from c0_2))), (cell_keep hb1 (cell_keep hb0 (show y1.drew.cell? _ = _ from c0_3))), (cell_keep hb1 (cell_keep hb0 (show y1.drew.cell? _ = _ from c0_4))), (cell_keep hb1 (cell_keep hb0 (show y1.drew.cell? _ = _ from c0_5))), (cell_keep hb1 (cell_keep hb0 (show y1.drew.cell? _ = _ from c1_0))), (cell_keep hb1 (cell_keep hb0 (show y1.drew.cell? _ = _ from c1_1))), (cell_keep hb1 (cell_keep hb0 (show y1.drew.cell? _ = _ from c1_2))), (cell_keep hb1 (cell_keep hb0 (show y1.drew.cell? _ = _ from c1_3))), (cell_keep hb1 (cell_keep hb0 (show y1.drew.cell? _ = _ from c1_4))), (cell_keep hb1 (cell_keep hb0 (show y1.drew.cell? _ = _ from c1_5)))⟩ | exact ⟨(cell_keep hb0 (show y1.drew.cell? _ = _ from c0_0)), (cell_keep hb0 (show y1.drew.cell? _ = _ from c0_1)), (cell_keep hb0 (show y1.drew.cell? _ = _ from c0_2)), (cell_keep hb0 (show y1.drew.cell? _ = _ from c0_3)), (cell_keep hb0 (show y1.drew.cell? _ = _ from c0_4)), (cell_keep hb0 (show y1.drew.cell? _ = _ from c0_5)), (cell_keep hb0 (show y1.drew.cell? _ = _ from c1_0)), (cell_keep hb0 (show y1.drew.cell? _ = _ from c1_1)), (cell_keep hb0 (show y1.drew.cell? _ = _ from c1_2)), (cell_keep hb0 (show y1.drew.cell? _ = _ from c1_3)), (cell_keep hb0 (show y1.drew.cell? _ = _ from c1_4)), (cell_keep hb0 (show y1.drew.cell? _ = _ from c1_5))⟩ | exact ⟨c0_0, c0_1, c0_2, c0_3, c0_4, c0_5, c1_0, c1_1, c1_2, c1_3, c1_4, c1_5⟩ | go_keep)
    (first
      | (go_at_call_of 12 av0; refine (KT0 _ (HB2.out.drew)).out.mono ?_; rintro e y10 ⟨es0, rfl, he0, ho0, hb0⟩)
      | (go_at_call_of 12 bv0; refine (KT1 _ ((HB2.out.drew).trans (hb0.mono (HB2.out.drew).size))).out.mono ?_; rintro e y11 ⟨es1, rfl, he1, ho1, hb1⟩)
      | (go_at_call 11; refine (KSP _ es0 es1 he0 he1 ⟨_, (ho0.below hb1).holds⟩ (ho0.below hb1).strict (by rw [he0]; exact HW0.out) ⟨_, ho1.holds⟩ ho1.strict (by rw [he1]; exact HW1.out)).mono ?_; rintro e y19 ⟨rfl, hb2⟩))
  have hbb : Below y1.heap.size y1 y19 := by
    have h := (Below.refl y1.heap.size y1).drew
    have h := h.trans (hb0.mono h.size)
    have h := h.trans (hb1.mono h.size)
    have h := h.trans (hb2.mono h.size)
    exact h
  clear c0_0 c0_1 c0_2 c0_3 c0_4 c0_5 c1_0 c1_1 c1_2 c1_3 c1_4 c1_5 hb0 hb1 hb2 ho0 he0 ho1 he1
  have HB3 := Lib.hid ((HB2.out).trans (hbb.mono HB2.out.size))
  have HC3_0 := Lib.hid (HC2_0.out.step hbb)
  have HC3_1 := Lib.hid (HC2_1.out.step hbb)
  clear HB2 HC2_0 HC2_1 hbb
  clear KSP
  have c0_0 := HC3_0.out.at 0 (D.row at0 4 av0 ad0) rfl
  simp only [val] at c0_0
  have c0_1 := HC3_0.out.at 1 (D.str as1) rfl
  simp only [val] at c0_1
  have c0_2 := HC3_0.out.at 2 (D.bool ax2) rfl
  simp only [val] at c0_2
  have c0_3 := HC3_0.out.at 3 (D.row at3 1 av3 ad3) rfl
  simp only [val] at c0_3
  have c0_4 := HC3_0.out.at 4 (D.row at4 1 av4 ad4) rfl
  simp only [val] at c0_4
  have c0_5 := HC3_0.out.at 5 (D.row at5 5 av5 ad5) rfl
  simp only [val] at c0_5
  go_wp2_with fail
  refine (KT0 _ HB3.out).out.mono ?_
  rintro e y20 ⟨es, rfl, he, ho, hb⟩
  clear c0_0 c0_1 c0_2 c0_3 c0_4 c0_5
  have hoo0 := Lib.hid (ho.mono (base' := 0) (Nat.zero_le _))
  have HB4 := Lib.hid ((HB3.out).trans (hb.mono HB3.out.size))
  have HC4_0 := Lib.hid (HC3_0.out.step hb)
  have HC4_1 := Lib.hid (HC3_1.out.step hb)
  clear HB3 HC3_0 HC3_1 hb
  have hg : FitL (env 5) (erases es) := he ▸ HFa.out
  have HEX0 := Lib.hid he
  obtain ⟨yt0, yv0, yd0, ye0, rfl, yf0, hg_0⟩ := fitL_row (k := 4) rfl hg
  clear hg
  obtain ⟨ys1, ye1, rfl, hg_1⟩ := fitL_str hg_0
  clear hg_0
  obtain ⟨yx2, ye2, rfl, hg_2⟩ := fitL_bool hg_1
  clear hg_1
  obtain ⟨yt3, yv3, yd3, ye3, rfl, yf3, hg_3⟩ := fitL_row (k := 1) rfl hg_2
  clear hg_2
  obtain ⟨yt4, yv4, yd4, ye4, rfl, yf4, hg_4⟩ := fitL_row (k := 1) rfl hg_3
  clear hg_3
  obtain ⟨yt5, yv5, yd5, ye5, rfl, yf5, hg_5⟩ := fitL_row (k := 5) rfl hg_4
  clear hg_4
  obtain rfl := fitL_nil hg_5
  clear hg_5
  replace he := he.symm
  simp only [erases, erase, List.cons.injEq, P.str.injEq, P.bool.injEq, P.row.injEq, true_and,  and_true] at he
  obtain ⟨g0, rfl, rfl, g3, g4, g5⟩ := he
  obtain ⟨Axa0, Axn0, Axc0, rfl⟩ := row_slice (goods_iff.1 ho.good (D.row yt0 4 yv0 yd0) (by simp))
  obtain ⟨Axa3, Axn3, Axc3, rfl⟩ := row_slice (goods_iff.1 ho.good (D.row yt3 1 yv3 yd3) (by simp))
  obtain ⟨Axa4, Axn4, Axc4, rfl⟩ := row_slice (goods_iff.1 ho.good (D.row yt4 1 yv4 yd4) (by simp))
  obtain ⟨Axa5, Axn5, Axc5, rfl⟩ := row_slice (goods_iff.1 ho.good (D.row yt5 5 yv5 yd5) (by simp))
  generalize hr1 : yt0 = Axt0 at *
  clear hr1
  generalize hr2 : yd0 = Axd0 at *
  clear hr2 g0 yf0
  generalize hr1 : yt3 = Axt3 at *
  clear hr1
  generalize hr2 : yd3 = Axd3 at *
  clear hr2 g3 yf3
  generalize hr1 : yt4 = Axt4 at *
  clear hr1
  generalize hr2 : yd4 = Axd4 at *
  clear hr2 g4 yf4
  generalize hr1 : yt5 = Axt5 at *
  clear hr1
  generalize hr2 : yd5 = Axd5 at *
  clear hr2 g5 yf5
  clear ho
  have hba : Below y20.heap.size y20 (y20.alloc (Obj.cells #[.slice Axa0 Axn0 Axc0, Value.string as1, Value.bool ax2, .slice Axa3 Axn3 Axc3, .slice Axa4 Axn4 Axc4, .slice Axa5 Axn5 Axc5] 40)) := (Below.refl _ _).alloc (Nat.le_refl _) _
  have HXN0 : Hid (Cells y20.heap.size [D.row Axt0 4 (.slice Axa0 Axn0 Axc0) Axd0, D.str as1, D.bool ax2, D.row Axt3 1 (.slice Axa3 Axn3 Axc3) Axd3, D.row Axt4 1 (.slice Axa4 Axn4 Axc4) Axd4, D.row Axt5 5 (.slice Axa5 Axn5 Axc5) Axd5] (y20.alloc (Obj.cells #[.slice Axa0 Axn0 Axc0, Value.string as1, Value.bool ax2, .slice Axa3 Axn3 Axc3, .slice Axa4 Axn4 Axc4, .slice Axa5 Axn5 Axc5] 40))) := Lib.hid (cells_new y20 [D.row Axt0 4 (.slice Axa0 Axn0 Axc0) Axd0, D.str as1, D.bool ax2, D.row Axt3 1 (.slice Axa3 Axn3 Axc3) Axd3, D.row Axt4 1 (.slice Axa4 Axn4 Axc4) Axd4, D.row Axt5 5 (.slice Axa5 Axn5 Axc5) Axd5] _)
  have HB5 := Lib.hid ((HB4.out).trans (hba.mono HB4.out.size))
  have HC5_0 := Lib.hid (HC4_0.out.step hba)
  have HC5_1 := Lib.hid (HC4_1.out.step hba)
  have HO5 := Lib.hid (hoo0.out.below hba)
  clear HB4 HC4_0 HC4_1 hoo0 hba
  rw [show agg [D.row Axt0 4 (.slice Axa0 Axn0 Axc0) Axd0, D.str as1, D.bool ax2, D.row Axt3 1 (.slice Axa3 Axn3 Axc3) Axd3, D.row Axt4 1 (.slice Axa4 Axn4 Axc4) Axd4, D.row Axt5 5 (.slice Axa5 Axn5 Axc5) Axd5] = Value.agg #[.slice Axa0 Axn0 Axc0, Value.string as1, Value.bool ax2, .slice Axa3 Axn3 Axc3, .slice Axa4 Axn4 Axc4, .slice Axa5 Axn5 Axc5] from rfl]
  have c1_0 := HC5_1.out.at 0 (D.row bt0 4 bv0 bd0) rfl
  simp only [val] at c1_0
  have c1_1 := HC5_1.out.at 1 (D.str bs1) rfl
  simp only [val] at c1_1
  have c1_2 := HC5_1.out.at 2 (D.bool bx2) rfl
  simp only [val] at c1_2
  have c1_3 := HC5_1.out.at 3 (D.row bt3 1 bv3 bd3) rfl
  simp only [val] at c1_3
  have c1_4 := HC5_1.out.at 4 (D.row bt4 1 bv4 bd4) rfl
  simp only [val] at c1_4
  have c1_5 := HC5_1.out.at 5 (D.row bt5 5 bv5 bd5) rfl
  simp only [val] at c1_5
  go_wp2_with fail
  clear c1_0 c1_1 c1_2 c1_3 c1_4 c1_5
  generalize (y20.alloc (Obj.cells #[.slice Axa0 Axn0 Axc0, Value.string as1, Value.bool ax2, .slice Axa3 Axn3 Axc3, .slice Axa4 Axn4 Axc4, .slice Axa5 Axn5 Axc5] 40)) = z0 at *
  generalize y20.heap.size = gx0 at *
  refine (KT1 _ HB5.out).out.mono ?_
  rintro e y21 ⟨es, rfl, he, ho, hb⟩
  have hoo1 := Lib.hid (HO5.out.snoc hb ho (Nat.zero_le _))
  clear HO5
  have HB6 := Lib.hid ((HB5.out).trans (hb.mono HB5.out.size))
  have HC6_0 := Lib.hid (HC5_0.out.step hb)
  have HC6_1 := Lib.hid (HC5_1.out.step hb)
  have HX6_0 := Lib.hid (HXN0.out.step hb)
  clear HB5 HC5_0 HC5_1 HXN0 hb
  have hg : FitL (env 5) (erases es) := he ▸ HFb.out
  have HEX1 := Lib.hid he
  obtain ⟨yt0, yv0, yd0, ye0, rfl, yf0, hg_0⟩ := fitL_row (k := 4) rfl hg
  clear hg
  obtain ⟨ys1, ye1, rfl, hg_1⟩ := fitL_str hg_0
  clear hg_0
  obtain ⟨yx2, ye2, rfl, hg_2⟩ := fitL_bool hg_1
  clear hg_1
  obtain ⟨yt3, yv3, yd3, ye3, rfl, yf3, hg_3⟩ := fitL_row (k := 1) rfl hg_2
  clear hg_2
  obtain ⟨yt4, yv4, yd4, ye4, rfl, yf4, hg_4⟩ := fitL_row (k := 1) rfl hg_3
  clear hg_3
  obtain ⟨yt5, yv5, yd5, ye5, rfl, yf5, hg_5⟩ := fitL_row (k := 5) rfl hg_4
  clear hg_4
  obtain rfl := fitL_nil hg_5
  clear hg_5
  replace he := he.symm
  simp only [erases, erase, List.cons.injEq, P.str.injEq, P.bool.injEq, P.row.injEq, true_and,  and_true] at he
  obtain ⟨g0, rfl, rfl, g3, g4, g5⟩ := he
  obtain ⟨Bxa0, Bxn0, Bxc0, rfl⟩ := row_slice (goods_iff.1 ho.good (D.row yt0 4 yv0 yd0) (by simp))
  obtain ⟨Bxa3, Bxn3, Bxc3, rfl⟩ := row_slice (goods_iff.1 ho.good (D.row yt3 1 yv3 yd3) (by simp))
  obtain ⟨Bxa4, Bxn4, Bxc4, rfl⟩ := row_slice (goods_iff.1 ho.good (D.row yt4 1 yv4 yd4) (by simp))
  obtain ⟨Bxa5, Bxn5, Bxc5, rfl⟩ := row_slice (goods_iff.1 ho.good (D.row yt5 5 yv5 yd5) (by simp))
  generalize hr1 : yt0 = Bxt0 at *
  clear hr1
  generalize hr2 : yd0 = Bxd0 at *
  clear hr2 g0 yf0
  generalize hr1 : yt3 = Bxt3 at *
  clear hr1
  generalize hr2 : yd3 = Bxd3 at *
  clear hr2 g3 yf3
  generalize hr1 : yt4 = Bxt4 at *
  clear hr1
  generalize hr2 : yd4 = Bxd4 at *
  clear hr2 g4 yf4
  generalize hr1 : yt5 = Bxt5 at *
  clear hr1
  generalize hr2 : yd5 = Bxd5 at *
  clear hr2 g5 yf5
  clear ho
  have x0_0 := HX6_0.out.at 0 (D.row Axt0 4 (.slice Axa0 Axn0 Axc0) Axd0) rfl
  simp only [val] at x0_0
  have x0_1 := HX6_0.out.at 1 (D.str as1) rfl
  simp only [val] at x0_1
  have x0_2 := HX6_0.out.at 2 (D.bool ax2) rfl
  simp only [val] at x0_2
  have x0_3 := HX6_0.out.at 3 (D.row Axt3 1 (.slice Axa3 Axn3 Axc3) Axd3) rfl
  simp only [val] at x0_3
  have x0_4 := HX6_0.out.at 4 (D.row Axt4 1 (.slice Axa4 Axn4 Axc4) Axd4) rfl
  simp only [val] at x0_4
  have x0_5 := HX6_0.out.at 5 (D.row Axt5 5 (.slice Axa5 Axn5 Axc5) Axd5) rfl
  simp only [val] at x0_5
  have xl0 := HX6_0.out.1
  have hba : Below y21.heap.size y21 (y21.alloc (Obj.cells #[.slice Bxa0 Bxn0 Bxc0, Value.string bs1, Value.bool bx2, .slice Bxa3 Bxn3 Bxc3, .slice Bxa4 Bxn4 Bxc4, .slice Bxa5 Bxn5 Bxc5] 40)) := (Below.refl _ _).alloc (Nat.le_refl _) _
  have HXN1 : Hid (Cells y21.heap.size [D.row Bxt0 4 (.slice Bxa0 Bxn0 Bxc0) Bxd0, D.str bs1, D.bool bx2, D.row Bxt3 1 (.slice Bxa3 Bxn3 Bxc3) Bxd3, D.row Bxt4 1 (.slice Bxa4 Bxn4 Bxc4) Bxd4, D.row Bxt5 5 (.slice Bxa5 Bxn5 Bxc5) Bxd5] (y21.alloc (Obj.cells #[.slice Bxa0 Bxn0 Bxc0, Value.string bs1, Value.bool bx2, .slice Bxa3 Bxn3 Bxc3, .slice Bxa4 Bxn4 Bxc4, .slice Bxa5 Bxn5 Bxc5] 40))) := Lib.hid (cells_new y21 [D.row Bxt0 4 (.slice Bxa0 Bxn0 Bxc0) Bxd0, D.str bs1, D.bool bx2, D.row Bxt3 1 (.slice Bxa3 Bxn3 Bxc3) Bxd3, D.row Bxt4 1 (.slice Bxa4 Bxn4 Bxc4) Bxd4, D.row Bxt5 5 (.slice Bxa5 Bxn5 Bxc5) Bxd5] _)
  have HB7 := Lib.hid ((HB6.out).trans (hba.mono HB6.out.size))
  have HC7_0 := Lib.hid (HC6_0.out.step hba)
  have HC7_1 := Lib.hid (HC6_1.out.step hba)
  have HX7_0 := Lib.hid (HX6_0.out.step hba)
  have HO7 := Lib.hid (hoo1.out.below hba)
  clear HB6 HC6_0 HC6_1 HX6_0 hoo1 hba
  rw [show agg [D.row Bxt0 4 (.slice Bxa0 Bxn0 Bxc0) Bxd0, D.str bs1, D.bool bx2, D.row Bxt3 1 (.slice Bxa3 Bxn3 Bxc3) Bxd3, D.row Bxt4 1 (.slice Bxa4 Bxn4 Bxc4) Bxd4, D.row Bxt5 5 (.slice Bxa5 Bxn5 Bxc5) Bxd5] = Value.agg #[.slice Bxa0 Bxn0 Bxc0, Value.string bs1, Value.bool bx2, .slice Bxa3 Bxn3 Bxc3, .slice Bxa4 Bxn4 Bxc4, .slice Bxa5 Bxn5 Bxc5] from rfl]
  have KI := Lib.hid (KIM _ [D.row Axt0 4 (.slice Axa0 Axn0 Axc0) Axd0, D.str as1, D.bool ax2, D.row Axt3 1 (.slice Axa3 Axn3 Axc3) Axd3, D.row Axt4 1 (.slice Axa4 Axn4 Axc4) Axd4, D.row Axt5 5 (.slice Axa5 Axn5 Axc5) Axd5] [D.row Bxt0 4 (.slice Bxa0 Bxn0 Bxc0) Bxd0, D.str bs1, D.bool bx2, D.row Bxt3 1 (.slice Bxa3 Bxn3 Bxc3) Bxd3, D.row Bxt4 1 (.slice Bxa4 Bxn4 Bxc4) Bxd4, D.row Bxt5 5 (.slice Bxa5 Bxn5 Bxc5) Bxd5] HEX0.out HEX1.out HO7.out (by rw [HEX0.out]; exact HW0.out) (by rw [HEX1.out]; exact HW1.out))
  rw [show agg [D.row Axt0 4 (.slice Axa0 Axn0 Axc0) Axd0, D.str as1, D.bool ax2, D.row Axt3 1 (.slice Axa3 Axn3 Axc3) Axd3, D.row Axt4 1 (.slice Axa4 Axn4 Axc4) Axd4, D.row Axt5 5 (.slice Axa5 Axn5 Axc5) Axd5] = Value.agg #[.slice Axa0 Axn0 Axc0, Value.string as1, Value.bool ax2, .slice Axa3 Axn3 Axc3, .slice Axa4 Axn4 Axc4, .slice Axa5 Axn5 Axc5] from rfl, show agg [D.row Bxt0 4 (.slice Bxa0 Bxn0 Bxc0) Bxd0, D.str bs1, D.bool bx2, D.row Bxt3 1 (.slice Bxa3 Bxn3 Bxc3) Bxd3, D.row Bxt4 1 (.slice Bxa4 Bxn4 Bxc4) Bxd4, D.row Bxt5 5 (.slice Bxa5 Bxn5 Bxc5) Bxd5] = Value.agg #[.slice Bxa0 Bxn0 Bxc0, Value.string bs1, Value.bool bx2, .slice Bxa3 Bxn3 Bxc3, .slice Bxa4 Bxn4 Bxc4, .slice Bxa5 Bxn5 Bxc5] from rfl] at KI
  clear KIM
  go_wp2_with fail
  clear x0_0 x0_1 x0_2 x0_3 x0_4 x0_5 xl0
  generalize (y21.alloc (Obj.cells #[.slice Bxa0 Bxn0 Bxc0, Value.string bs1, Value.bool bx2, .slice Bxa3 Bxn3 Bxc3, .slice Bxa4 Bxn4 Bxc4, .slice Bxa5 Bxn5 Bxc5] 40)) = z1 at *
  generalize y21.heap.size = gx1 at *
  refine KI.out.mono ?_
  rintro e y30 ⟨rfl, hb⟩
  clear KI
  have HB8 := Lib.hid ((HB7.out).trans (hb.mono HB7.out.size))
  have HC8_0 := Lib.hid (HC7_0.out.step hb)
  have HC8_1 := Lib.hid (HC7_1.out.step hb)
  have HX8_0 := Lib.hid (HX7_0.out.step hb)
  have HX8_1 := Lib.hid (HXN1.out.step hb)
  have HO8 := Lib.hid (HO7.out.below hb)
  clear HB7 HC7_0 HC7_1 HX7_0 HXN1 HO7 hb
  have c0_0 := HC8_0.out.at 0 (D.row at0 4 av0 ad0) rfl
  simp only [val] at c0_0
  have c0_1 := HC8_0.out.at 1 (D.str as1) rfl
  simp only [val] at c0_1
  have c0_2 := HC8_0.out.at 2 (D.bool ax2) rfl
  simp only [val] at c0_2
  have c0_3 := HC8_0.out.at 3 (D.row at3 1 av3 ad3) rfl
  simp only [val] at c0_3
  have c0_4 := HC8_0.out.at 4 (D.row at4 1 av4 ad4) rfl
  simp only [val] at c0_4
  have c0_5 := HC8_0.out.at 5 (D.row at5 5 av5 ad5) rfl
  simp only [val] at c0_5
  have x0_0 := HX8_0.out.at 0 (D.row Axt0 4 (.slice Axa0 Axn0 Axc0) Axd0) rfl
  simp only [val] at x0_0
  have x0_1 := HX8_0.out.at 1 (D.str as1) rfl
  simp only [val] at x0_1
  have x0_2 := HX8_0.out.at 2 (D.bool ax2) rfl
  simp only [val] at x0_2
  have x0_3 := HX8_0.out.at 3 (D.row Axt3 1 (.slice Axa3 Axn3 Axc3) Axd3) rfl
  simp only [val] at x0_3
  have x0_4 := HX8_0.out.at 4 (D.row Axt4 1 (.slice Axa4 Axn4 Axc4) Axd4) rfl
  simp only [val] at x0_4
  have x0_5 := HX8_0.out.at 5 (D.row Axt5 5 (.slice Axa5 Axn5 Axc5) Axd5) rfl
  simp only [val] at x0_5
  have HH0 : Hid (Holdss 0 y30 [D.row Axt0 4 (.slice Axa0 Axn0 Axc0) Axd0, D.str as1, D.bool ax2, D.row Axt3 1 (.slice Axa3 Axn3 Axc3) Axd3, D.row Axt4 1 (.slice Axa4 Axn4 Axc4) Axd4, D.row Axt5 5 (.slice Axa5 Axn5 Axc5) Axd5]) := Lib.hid ((Own.left HO8.out).holds)
  go_wp2_with fail
  go_region_held3 (fun w' => w'.cell? ⟨w.heap.size, 0, none⟩ = some av0 ∧ w'.cell? ⟨w.heap.size, 1, none⟩ = some (Value.string as1) ∧ w'.cell? ⟨w.heap.size, 2, none⟩ = some (Value.bool ax2) ∧ w'.cell? ⟨w.heap.size, 3, none⟩ = some av3 ∧ w'.cell? ⟨w.heap.size, 4, none⟩ = some av4 ∧ w'.cell? ⟨w.heap.size, 5, none⟩ = some av5 ∧ w'.cell? ⟨gx0, 0, none⟩ = some (.slice Axa0 Axn0 Axc0) ∧ w'.cell? ⟨gx0, 1, none⟩ = some (Value.string as1) ∧ w'.cell? ⟨gx0, 2, none⟩ = some (Value.bool ax2) ∧ w'.cell? ⟨gx0, 3, none⟩ = some (.slice Axa3 Axn3 Axc3) ∧ w'.cell? ⟨gx0, 4, none⟩ = some (.slice Axa4 Axn4 Axc4) ∧ w'.cell? ⟨gx0, 5, none⟩ = some (.slice Axa5 Axn5 Axc5))
    (first | exact ⟨(cell_keep hb1 (cell_keep hb0 (show y30.drew.cell? _ = _ from c0_0))), (cell_keep hb1 (cell_keep hb0 (show y30.drew.cell? _ = _ from c0_1))), (cell_keep hb1 (cell_keep hb0 (show y30.drew.cell? _ = _ from c0_2))), (cell_keep hb1 (cell_keep hb0 (show y30.drew.cell? _ = _ from c0_3))), (cell_keep hb1 (cell_keep hb0 (show y30.drew.cell? _ = _ from c0_4))), (cell_keep hb1 (cell_keep hb0 (show y30.drew.cell? _ = _ from c0_5))), (cell_keep hb1 (cell_keep hb0 (show y30.drew.cell? _ = _ from x0_0))), (cell_keep hb1 (cell_keep hb0 (show y30.drew.cell? _ = _ from x0_1))), (cell_keep hb1 (cell_keep hb0 (show y30.drew.cell? _ = _ from x0_2))), (cell_keep hb1 (cell_keep hb0 (show y30.drew.cell? _ = _ from x0_3))), (cell_keep hb1 (cell_keep hb0 (show y30.drew.cell? _ = _ from x0_4))), (cell_keep hb1 (cell_keep hb0 (show y30.drew.cell? _ = _ from x0_5)))⟩ | exact ⟨(cell_keep hb0 (show y30.drew.cell? _ = _ from c0_0)), (cell_keep hb0 (show y30.drew.cell? _ = _ from c0_1)), (cell_keep hb0 (show y30.drew.cell? _ = _ from c0_2)), (cell_keep hb0 (show y30.drew.cell? _ = _ from c0_3)), (cell_keep hb0 (show y30.drew.cell? _ = _ from c0_4)), (cell_keep hb0 (show y30.drew.cell? _ = _ from c0_5)), (cell_keep hb0 (show y30.drew.cell? _ = _ from x0_0)), (cell_keep hb0 (show y30.drew.cell? _ = _ from x0_1)), (cell_keep hb0 (show y30.drew.cell? _ = _ from x0_2)), (cell_keep hb0 (show y30.drew.cell? _ = _ from x0_3)), (cell_keep hb0 (show y30.drew.cell? _ = _ from x0_4)), (cell_keep hb0 (show y30.drew.cell? _ = _ from x0_5))⟩ | exact ⟨c0_0, c0_1, c0_2, c0_3, c0_4, c0_5, x0_0, x0_1, x0_2, x0_3, x0_4, x0_5⟩ | go_keep)
    (first
      | (go_at_call 12; refine (KT0 _ (HB8.out.drew)).out.mono ?_; rintro e y40 ⟨es, rfl, he, ho, hb0⟩)
      | (go_at_call 14; refine (eq_Unit 0 _ _ [D.row Axt0 4 (.slice Axa0 Axn0 Axc0) Axd0, D.str as1, D.bool ax2, D.row Axt3 1 (.slice Axa3 Axn3 Axc3) Axd3, D.row Axt4 1 (.slice Axa4 Axn4 Axc4) Axd4, D.row Axt5 5 (.slice Axa5 Axn5 Axc5) Axd5] es (HEX0.out.trans he.symm) (HEX0.out ▸ HFa.out) ((HH0.out.below (w' := y30.drew) ((Below.refl _ _).drew)).below hb0) ho.holds).mono ?_; rintro e y50 ⟨rfl, hb1⟩))
  have hbb : Below y30.heap.size y30 y50 := by
    have h := (Below.refl y30.heap.size y30).drew
    have h := h.trans (hb0.mono h.size)
    exact h.trans (hb1.mono h.size)
  clear c0_0 c0_1 c0_2 c0_3 c0_4 c0_5 x0_0 x0_1 x0_2 x0_3 x0_4 x0_5 hb0 hb1 ho he HH0
  have HB9 := Lib.hid ((HB8.out).trans (hbb.mono HB8.out.size))
  have HC9_0 := Lib.hid (HC8_0.out.step hbb)
  have HC9_1 := Lib.hid (HC8_1.out.step hbb)
  have HX9_0 := Lib.hid (HX8_0.out.step hbb)
  have HX9_1 := Lib.hid (HX8_1.out.step hbb)
  have HO9 := Lib.hid (HO8.out.below hbb)
  clear HB8 HC8_0 HC8_1 HX8_0 HX8_1 HO8 hbb
  have c1_0 := HC9_1.out.at 0 (D.row bt0 4 bv0 bd0) rfl
  simp only [val] at c1_0
  have c1_1 := HC9_1.out.at 1 (D.str bs1) rfl
  simp only [val] at c1_1
  have c1_2 := HC9_1.out.at 2 (D.bool bx2) rfl
  simp only [val] at c1_2
  have c1_3 := HC9_1.out.at 3 (D.row bt3 1 bv3 bd3) rfl
  simp only [val] at c1_3
  have c1_4 := HC9_1.out.at 4 (D.row bt4 1 bv4 bd4) rfl
  simp only [val] at c1_4
  have c1_5 := HC9_1.out.at 5 (D.row bt5 5 bv5 bd5) rfl
  simp only [val] at c1_5
  have x1_0 := HX9_1.out.at 0 (D.row Bxt0 4 (.slice Bxa0 Bxn0 Bxc0) Bxd0) rfl
  simp only [val] at x1_0
  have x1_1 := HX9_1.out.at 1 (D.str bs1) rfl
  simp only [val] at x1_1
  have x1_2 := HX9_1.out.at 2 (D.bool bx2) rfl
  simp only [val] at x1_2
  have x1_3 := HX9_1.out.at 3 (D.row Bxt3 1 (.slice Bxa3 Bxn3 Bxc3) Bxd3) rfl
  simp only [val] at x1_3
  have x1_4 := HX9_1.out.at 4 (D.row Bxt4 1 (.slice Bxa4 Bxn4 Bxc4) Bxd4) rfl
  simp only [val] at x1_4
  have x1_5 := HX9_1.out.at 5 (D.row Bxt5 5 (.slice Bxa5 Bxn5 Bxc5) Bxd5) rfl
  simp only [val] at x1_5
  have HH1 : Hid (Holdss 0 y50 [D.row Bxt0 4 (.slice Bxa0 Bxn0 Bxc0) Bxd0, D.str bs1, D.bool bx2, D.row Bxt3 1 (.slice Bxa3 Bxn3 Bxc3) Bxd3, D.row Bxt4 1 (.slice Bxa4 Bxn4 Bxc4) Bxd4, D.row Bxt5 5 (.slice Bxa5 Bxn5 Bxc5) Bxd5]) := Lib.hid ((Own.right HO9.out).holds)
  go_wp2_with fail
  go_region_held3 (fun w' => w'.cell? ⟨w.heap.size + 1, 0, none⟩ = some bv0 ∧ w'.cell? ⟨w.heap.size + 1, 1, none⟩ = some (Value.string bs1) ∧ w'.cell? ⟨w.heap.size + 1, 2, none⟩ = some (Value.bool bx2) ∧ w'.cell? ⟨w.heap.size + 1, 3, none⟩ = some bv3 ∧ w'.cell? ⟨w.heap.size + 1, 4, none⟩ = some bv4 ∧ w'.cell? ⟨w.heap.size + 1, 5, none⟩ = some bv5 ∧ w'.cell? ⟨gx1, 0, none⟩ = some (.slice Bxa0 Bxn0 Bxc0) ∧ w'.cell? ⟨gx1, 1, none⟩ = some (Value.string bs1) ∧ w'.cell? ⟨gx1, 2, none⟩ = some (Value.bool bx2) ∧ w'.cell? ⟨gx1, 3, none⟩ = some (.slice Bxa3 Bxn3 Bxc3) ∧ w'.cell? ⟨gx1, 4, none⟩ = some (.slice Bxa4 Bxn4 Bxc4) ∧ w'.cell? ⟨gx1, 5, none⟩ = some (.slice Bxa5 Bxn5 Bxc5))
    (first | exact ⟨(cell_keep hb1 (cell_keep hb0 (show y50.drew.cell? _ = _ from c1_0))), (cell_keep hb1 (cell_keep hb0 (show y50.drew.cell? _ = _ from c1_1))), (cell_keep hb1 (cell_keep hb0 (show y50.drew.cell? _ = _ from c1_2))), (cell_keep hb1 (cell_keep hb0 (show y50.drew.cell? _ = _ from c1_3))), (cell_keep hb1 (cell_keep hb0 (show y50.drew.cell? _ = _ from c1_4))), (cell_keep hb1 (cell_keep hb0 (show y50.drew.cell? _ = _ from c1_5))), (cell_keep hb1 (cell_keep hb0 (show y50.drew.cell? _ = _ from x1_0))), (cell_keep hb1 (cell_keep hb0 (show y50.drew.cell? _ = _ from x1_1))), (cell_keep hb1 (cell_keep hb0 (show y50.drew.cell? _ = _ from x1_2))), (cell_keep hb1 (cell_keep hb0 (show y50.drew.cell? _ = _ from x1_3))), (cell_keep hb1 (cell_keep hb0 (show y50.drew.cell? _ = _ from x1_4))), (cell_keep hb1 (cell_keep hb0 (show y50.drew.cell? _ = _ from x1_5)))⟩ | exact ⟨(cell_keep hb0 (show y50.drew.cell? _ = _ from c1_0)), (cell_keep hb0 (show y50.drew.cell? _ = _ from c1_1)), (cell_keep hb0 (show y50.drew.cell? _ = _ from c1_2)), (cell_keep hb0 (show y50.drew.cell? _ = _ from c1_3)), (cell_keep hb0 (show y50.drew.cell? _ = _ from c1_4)), (cell_keep hb0 (show y50.drew.cell? _ = _ from c1_5)), (cell_keep hb0 (show y50.drew.cell? _ = _ from x1_0)), (cell_keep hb0 (show y50.drew.cell? _ = _ from x1_1)), (cell_keep hb0 (show y50.drew.cell? _ = _ from x1_2)), (cell_keep hb0 (show y50.drew.cell? _ = _ from x1_3)), (cell_keep hb0 (show y50.drew.cell? _ = _ from x1_4)), (cell_keep hb0 (show y50.drew.cell? _ = _ from x1_5))⟩ | exact ⟨c1_0, c1_1, c1_2, c1_3, c1_4, c1_5, x1_0, x1_1, x1_2, x1_3, x1_4, x1_5⟩ | go_keep)
    (first
      | (go_at_call 12; refine (KT1 _ (HB9.out.drew)).out.mono ?_; rintro e y41 ⟨es, rfl, he, ho, hb0⟩)
      | (go_at_call 14; refine (eq_Unit 0 _ _ [D.row Bxt0 4 (.slice Bxa0 Bxn0 Bxc0) Bxd0, D.str bs1, D.bool bx2, D.row Bxt3 1 (.slice Bxa3 Bxn3 Bxc3) Bxd3, D.row Bxt4 1 (.slice Bxa4 Bxn4 Bxc4) Bxd4, D.row Bxt5 5 (.slice Bxa5 Bxn5 Bxc5) Bxd5] es (HEX1.out.trans he.symm) (HEX1.out ▸ HFb.out) ((HH1.out.below (w' := y50.drew) ((Below.refl _ _).drew)).below hb0) ho.holds).mono ?_; rintro e y51 ⟨rfl, hb1⟩))
  have hbb : Below y50.heap.size y50 y51 := by
    have h := (Below.refl y50.heap.size y50).drew
    have h := h.trans (hb0.mono h.size)
    exact h.trans (hb1.mono h.size)
  clear c1_0 c1_1 c1_2 c1_3 c1_4 c1_5 x1_0 x1_1 x1_2 x1_3 x1_4 x1_5 hb0 hb1 ho he HH1
  have HB10 := Lib.hid ((HB9.out).trans (hbb.mono HB9.out.size))
  have HC10_0 := Lib.hid (HC9_0.out.step hbb)
  have HC10_1 := Lib.hid (HC9_1.out.step hbb)
  have HX10_0 := Lib.hid (HX9_0.out.step hbb)
  have HX10_1 := Lib.hid (HX9_1.out.step hbb)
  have HO10 := Lib.hid (HO9.out.below hbb)
  clear HB9 HC9_0 HC9_1 HX9_0 HX9_1 HO9 hbb
  go_wp2_with fail
  go_ret
  exact ⟨rfl, HB10.out⟩
end Go.Proofs.Ytlmhgeanknhcfaa.fnExactEqualUnitsW
