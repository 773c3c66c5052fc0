/-
  The walk of laws.FnExactPrintValue: it returns true at every input, given what the model's function and impl's answer.
-/
import Derived.Test.YtoaocpfehdcfgaaGreatDoorBAppendTexts
import Derived.Test.YtoaocpfehdcfgaaGreatDoorBDataTree
import Derived.Test.YtoaocpfehdcfgaaGreatDoorBEqStore
import Derived.Test.YtoaocpfehdcfgaaGreatDoorBSzStore
import Derived.Test.YtoaocpfehdcfgaaGreatDoorBToObject
import Derived.Test.YtoaocpfehdcfgaaGreatDoorBToStore
namespace Go.Proofs.YtoaocpfehdcfgaaGreatDoor.fnExactPrintValueW
open Go.RowKit
open Strs Tree Texts Go.Proofs.YtoaocpfehdcfgaaGreatDoor.Data
set_option maxRecDepth 10000 in
set_option maxHeartbeats 16000000 in
theorem walk_of (z : ByteArray) (w : World) (das : List D) (hfa : FitL (env 12) (erases das)) (hha : Holdss 0 w das) (dbs : List D) (hfb : FitL (env 10) (erases dbs)) (hhb : Holdss 0 w dbs)
    (KSP : ∀ (w' : World) (eas : List D) (ebs : List D), erases eas = erases das → erases ebs = erases dbs → (∃ lo, Holdss lo w' eas) → Stricts eas → weights (erases eas) ≤ 1048576 → (∃ lo, Holdss lo w' ebs) → Stricts ebs → weights (erases ebs) ≤ 1048576 → Calls Tryz.prog 6 #[agg eas, agg ebs] w' fun r w'' => r = .returned (.string z) ∧ Below w'.heap.size w' w'')
    (KIM : ∀ (w' : World) (eas : List D) (ebs : List D), Below w.heap.size w w' → erases eas = erases das → erases ebs = erases dbs → Own 0 w' (eas ++ ebs) → weights (erases eas) ≤ 1048576 → weights (erases ebs) ≤ 1048576 → Calls Tryz.prog 9 #[agg eas, agg ebs] w' fun r w'' => r = .returned (.string z) ∧ Below w'.heap.size w' w'') :
    Calls Tryz.prog 3 #[agg das, agg dbs] w fun e w' => e = .returned (.bool true) ∧ Below w.heap.size w w' := by
  have HFa := Lib.hid hfa
  obtain ⟨at0, av0, ad0, ae0, rfl, af0, hfa_0⟩ := fitL_row (k := 3) rfl hfa
  clear hfa
  obtain ⟨at1, av1, ad1, ae1, rfl, af1, hfa_1⟩ := fitL_row (k := 4) rfl hfa_0
  clear hfa_0
  obtain ⟨at2, av2, ad2, ae2, rfl, af2, hfa_2⟩ := fitL_row (k := 1) rfl hfa_1
  clear hfa_1
  obtain ⟨an3, ae3, rfl, hfa_3⟩ := fitL_int hfa_2
  clear hfa_2
  obtain ⟨an4, ae4, rfl, hfa_4⟩ := fitL_int hfa_3
  clear hfa_3
  obtain ⟨an5, ae5, rfl, hfa_5⟩ := fitL_int hfa_4
  clear hfa_4
  obtain rfl := fitL_nil hfa_5
  clear hfa_5
  clear af0 af1 af2
  have HFb := Lib.hid hfb
  obtain ⟨bn0, be0, rfl, hfb_0⟩ := fitL_int hfb
  clear hfb
  obtain ⟨bn1, be1, rfl, hfb_1⟩ := fitL_int hfb_0
  clear hfb_0
  obtain ⟨bs2, be2, rfl, hfb_2⟩ := fitL_str hfb_1
  clear hfb_1
  obtain rfl := fitL_nil hfb_2
  clear hfb_2
  have HB0 : Hid (Below w.heap.size w ((w.alloc (Obj.cells #[av0, av1, av2, Value.int .i64 an3, Value.int .i64 an4, Value.int .i64 an5] 26)).alloc (Obj.cells #[Value.int .i64 bn0, Value.int .i64 bn1, Value.string bs2] 28))) := Lib.hid (((Below.refl _ _).alloc (Nat.le_refl _) _).alloc (by simp) _)
  have c0_0 : Cells (w.heap.size) [D.row at0 3 av0 ad0, D.row at1 4 av1 ad1, D.row at2 1 av2 ad2, D.int an3, D.int an4, D.int an5] ((w.alloc (Obj.cells #[av0, av1, av2, Value.int .i64 an3, Value.int .i64 an4, Value.int .i64 an5] 26)).alloc (Obj.cells #[Value.int .i64 bn0, Value.int .i64 bn1, Value.string bs2] 28)) := by
    have h := cells_new w [D.row at0 3 av0 ad0, D.row at1 4 av1 ad1, D.row at2 1 av2 ad2, D.int an3, D.int an4, D.int an5] 26
    exact h.step ((Below.refl _ _).alloc (Nat.le_refl _) _)
  have HC0_0 := Lib.hid c0_0
  clear c0_0
  have c0_1 : Cells (w.heap.size + 1) [D.int bn0, D.int bn1, D.str bs2] ((w.alloc (Obj.cells #[av0, av1, av2, Value.int .i64 an3, Value.int .i64 an4, Value.int .i64 an5] 26)).alloc (Obj.cells #[Value.int .i64 bn0, Value.int .i64 bn1, Value.string bs2] 28)) := by
    have h := cells_new (w.alloc (Obj.cells #[av0, av1, av2, Value.int .i64 an3, Value.int .i64 an4, Value.int .i64 an5] 26)) [D.int bn0, D.int bn1, D.str bs2] 28
    rw [show (w.alloc (Obj.cells #[av0, av1, av2, Value.int .i64 an3, Value.int .i64 an4, Value.int .i64 an5] 26)).heap.size = w.heap.size + 1 by simp] at h
    exact h
  have HC0_1 := Lib.hid c0_1
  clear c0_1
  rw [show agg [D.row at0 3 av0 ad0, D.row at1 4 av1 ad1, D.row at2 1 av2 ad2, D.int an3, D.int an4, D.int an5] = Value.agg #[av0, av1, av2, Value.int .i64 an3, Value.int .i64 an4, Value.int .i64 an5] from rfl, show agg [D.int bn0, D.int bn1, D.str bs2] = Value.agg #[Value.int .i64 bn0, Value.int .i64 bn1, Value.string bs2] from rfl]
  by_cases hz0 : weights (erases [D.row at0 3 av0 ad0, D.row at1 4 av1 ad1, D.row at2 1 av2 ad2, D.int an3, D.int an4, D.int an5]) ≤ 1048576
  rotate_left
  · skip
    clear KSP KIM
    go_enter Tryz.func3, Tryz.ntmps3
    have KZ := Lib.hid (sz_Store 0 1048576 ((w.alloc (Obj.cells #[av0, av1, av2, Value.int .i64 an3, Value.int .i64 an4, Value.int .i64 an5] 26)).alloc (Obj.cells #[Value.int .i64 bn0, Value.int .i64 bn1, Value.string bs2] 28)) [D.row at0 3 av0 ad0, D.row at1 4 av1 ad1, D.row at2 1 av2 ad2, D.int an3, D.int an4, D.int an5] (by omega) HFa.out (hha.below HB0.out))
    rw [after_no (by omega)] at KZ
    rw [show agg [D.row at0 3 av0 ad0, D.row at1 4 av1 ad1, D.row at2 1 av2 ad2, D.int an3, D.int an4, D.int an5] = Value.agg #[av0, av1, av2, Value.int .i64 an3, Value.int .i64 an4, Value.int .i64 an5] from rfl] at KZ
    go_wp2_with fail
    refine KZ.out.mono ?_
    rintro e y0 ⟨rfl, hb⟩
    clear KZ 
    have HB1 := Lib.hid ((HB0.out).trans (hb.mono HB0.out.size))
    have HC1_0 := Lib.hid (HC0_0.out.step hb)
    have HC1_1 := Lib.hid (HC0_1.out.step hb)
    clear HB0 HC0_0 HC0_1 hb
    go_wp2_with fail
    go_ret
    exact ⟨rfl, HB1.out⟩
  obtain ⟨l0, hl0⟩ : ∃ l, 1048576 - weights (erases [D.row at0 3 av0 ad0, D.row at1 4 av1 ad1, D.row at2 1 av2 ad2, D.int an3, D.int an4, D.int an5]) = l := ⟨_, rfl⟩
  by_cases hz1 : weights (erases [D.int bn0, D.int bn1, D.str bs2]) ≤ l0
  rotate_left
  · skip
    clear KSP KIM
    go_enter Tryz.func3, Tryz.ntmps3
    have KZ := Lib.hid (sz_Store 0 1048576 ((w.alloc (Obj.cells #[av0, av1, av2, Value.int .i64 an3, Value.int .i64 an4, Value.int .i64 an5] 26)).alloc (Obj.cells #[Value.int .i64 bn0, Value.int .i64 bn1, Value.string bs2] 28)) [D.row at0 3 av0 ad0, D.row at1 4 av1 ad1, D.row at2 1 av2 ad2, D.int an3, D.int an4, D.int an5] (by omega) HFa.out (hha.below HB0.out))
    rw [after_yes (by assumption)] at KZ
    rw [hl0] at KZ
    rw [show agg [D.row at0 3 av0 ad0, D.row at1 4 av1 ad1, D.row at2 1 av2 ad2, D.int an3, D.int an4, D.int an5] = Value.agg #[av0, av1, av2, Value.int .i64 an3, Value.int .i64 an4, Value.int .i64 an5] from rfl] at KZ
    go_wp2_with fail
    refine KZ.out.mono ?_
    rintro e y0 ⟨rfl, hb⟩
    clear KZ 
    have HB1 := Lib.hid ((HB0.out).trans (hb.mono HB0.out.size))
    have HC1_0 := Lib.hid (HC0_0.out.step hb)
    have HC1_1 := Lib.hid (HC0_1.out.step hb)
    clear HB0 HC0_0 HC0_1 hb
    have c1_0 := HC1_1.out.at 0 (D.int bn0) rfl
    simp only [val] at c1_0
    have c1_1 := HC1_1.out.at 1 (D.int bn1) rfl
    simp only [val] at c1_1
    have c1_2 := HC1_1.out.at 2 (D.str bs2) rfl
    simp only [val] at c1_2
    have KZ := Lib.hid (sz_Value 0 l0 _ [D.int bn0, D.int bn1, D.str bs2] (by omega) HFb.out (hhb.below HB1.out))
    rw [after_no (by omega)] at KZ
    rw [show agg [D.int bn0, D.int bn1, D.str bs2] = Value.agg #[Value.int .i64 bn0, Value.int .i64 bn1, Value.string bs2] from rfl] at KZ
    go_wp2_with fail
    refine KZ.out.mono ?_
    rintro e y1 ⟨rfl, hb⟩
    clear KZ c1_0 c1_1 c1_2
    have HB2 := Lib.hid ((HB1.out).trans (hb.mono HB1.out.size))
    have HC2_0 := Lib.hid (HC1_0.out.step hb)
    have HC2_1 := Lib.hid (HC1_1.out.step hb)
    clear HB1 HC1_0 HC1_1 hb
    go_wp2_with fail
    go_ret
    exact ⟨rfl, HB2.out⟩
  obtain ⟨l1, hl1⟩ : ∃ l, l0 - weights (erases [D.int bn0, D.int bn1, D.str bs2]) = l := ⟨_, rfl⟩
  go_enter Tryz.func3, Tryz.ntmps3
  have KZ := Lib.hid (sz_Store 0 1048576 ((w.alloc (Obj.cells #[av0, av1, av2, Value.int .i64 an3, Value.int .i64 an4, Value.int .i64 an5] 26)).alloc (Obj.cells #[Value.int .i64 bn0, Value.int .i64 bn1, Value.string bs2] 28)) [D.row at0 3 av0 ad0, D.row at1 4 av1 ad1, D.row at2 1 av2 ad2, D.int an3, D.int an4, D.int an5] (by omega) HFa.out (hha.below HB0.out))
  rw [after_yes (by assumption)] at KZ
  rw [hl0] at KZ
  rw [show agg [D.row at0 3 av0 ad0, D.row at1 4 av1 ad1, D.row at2 1 av2 ad2, D.int an3, D.int an4, D.int an5] = Value.agg #[av0, av1, av2, Value.int .i64 an3, Value.int .i64 an4, Value.int .i64 an5] from rfl] at KZ
  go_wp2_with fail
  refine KZ.out.mono ?_
  rintro e y0 ⟨rfl, hb⟩
  clear KZ 
  have HB1 := Lib.hid ((HB0.out).trans (hb.mono HB0.out.size))
  have HC1_0 := Lib.hid (HC0_0.out.step hb)
  have HC1_1 := Lib.hid (HC0_1.out.step hb)
  clear HB0 HC0_0 HC0_1 hb
  have c1_0 := HC1_1.out.at 0 (D.int bn0) rfl
  simp only [val] at c1_0
  have c1_1 := HC1_1.out.at 1 (D.int bn1) rfl
  simp only [val] at c1_1
  have c1_2 := HC1_1.out.at 2 (D.str bs2) rfl
  simp only [val] at c1_2
  have KZ := Lib.hid (sz_Value 0 l0 _ [D.int bn0, D.int bn1, D.str bs2] (by omega) HFb.out (hhb.below HB1.out))
  rw [after_yes (by assumption)] at KZ
  rw [hl1] at KZ
  rw [show agg [D.int bn0, D.int bn1, D.str bs2] = Value.agg #[Value.int .i64 bn0, Value.int .i64 bn1, Value.string bs2] from rfl] at KZ
  go_wp2_with fail
  refine KZ.out.mono ?_
  rintro e y1 ⟨rfl, hb⟩
  clear KZ c1_0 c1_1 c1_2
  have HB2 := Lib.hid ((HB1.out).trans (hb.mono HB1.out.size))
  have HC2_0 := Lib.hid (HC1_0.out.step hb)
  have HC2_1 := Lib.hid (HC1_1.out.step hb)
  clear HB1 HC1_0 HC1_1 hb
  have hw0 : weights (erases [D.row at0 3 av0 ad0, D.row at1 4 av1 ad1, D.row at2 1 av2 ad2, D.int an3, D.int an4, D.int an5]) ≤ 1048576 := by omega
  have HW0 := Lib.hid hw0
  have hw1 : weights (erases [D.int bn0, D.int bn1, D.str bs2]) ≤ 1048576 := by omega
  have HW1 := Lib.hid hw1
  clear hz0 hl0 hw0 hz1 hl1 hw1
  have KT0 := fun (w' : World) (hb : Below w.heap.size w w') => Lib.hid (to_Store 0 w' [D.row at0 3 av0 ad0, D.row at1 4 av1 ad1, D.row at2 1 av2 ad2, D.int an3, D.int an4, D.int an5] HW0.out HFa.out (hha.below hb))
  rw [show agg [D.row at0 3 av0 ad0, D.row at1 4 av1 ad1, D.row at2 1 av2 ad2, D.int an3, D.int an4, D.int an5] = Value.agg #[av0, av1, av2, Value.int .i64 an3, Value.int .i64 an4, Value.int .i64 an5] from rfl] at KT0
  have KT1 := fun (w' : World) (hb : Below w.heap.size w w') => Lib.hid (to_Value 0 w' [D.int bn0, D.int bn1, D.str bs2] HW1.out HFb.out (hhb.below hb))
  rw [show agg [D.int bn0, D.int bn1, D.str bs2] = Value.agg #[Value.int .i64 bn0, Value.int .i64 bn1, Value.string bs2] from rfl] at KT1
  have c0_0 := HC2_0.out.at 0 (D.row at0 3 av0 ad0) rfl
  simp only [val] at c0_0
  have c0_1 := HC2_0.out.at 1 (D.row at1 4 av1 ad1) rfl
  simp only [val] at c0_1
  have c0_2 := HC2_0.out.at 2 (D.row at2 1 av2 ad2) rfl
  simp only [val] at c0_2
  have c0_3 := HC2_0.out.at 3 (D.int an3) rfl
  simp only [val] at c0_3
  have c0_4 := HC2_0.out.at 4 (D.int an4) rfl
  simp only [val] at c0_4
  have c0_5 := HC2_0.out.at 5 (D.int an5) rfl
  simp only [val] at c0_5
  have c1_0 := HC2_1.out.at 0 (D.int bn0) rfl
  simp only [val] at c1_0
  have c1_1 := HC2_1.out.at 1 (D.int bn1) rfl
  simp only [val] at c1_1
  have c1_2 := HC2_1.out.at 2 (D.str bs2) rfl
  simp only [val] at c1_2
  go_wp2_with fail
  go_region_held3 (fun w' => w'.cell? ⟨w.heap.size, 0, none⟩ = some av0 ∧ w'.cell? ⟨w.heap.size, 1, none⟩ = some av1 ∧ w'.cell? ⟨w.heap.size, 2, none⟩ = some av2 ∧ w'.cell? ⟨w.heap.size, 3, none⟩ = some (Value.int .i64 an3) ∧ w'.cell? ⟨w.heap.size, 4, none⟩ = some (Value.int .i64 an4) ∧ w'.cell? ⟨w.heap.size, 5, none⟩ = some (Value.int .i64 an5) ∧ w'.cell? ⟨w.heap.size + 1, 0, none⟩ = some (Value.int .i64 bn0) ∧ w'.cell? ⟨w.heap.size + 1, 1, none⟩ = some (Value.int .i64 bn1) ∧ w'.cell? ⟨w.heap.size + 1, 2, none⟩ = some (Value.string bs2))
    (first | exact ⟨(cell_keep hb2 (cell_keep hb1 (cell_keep hb0 (show y1.drew.cell? _ = _ from c0_0)))), (cell_keep hb2 (cell_keep hb1 (cell_keep hb0 (show y1.drew.cell? _ = _ from c0_1)))), (cell_keep hb2 (cell_keep hb1 (cell_keep hb0 (show y1.drew.cell? _ = _ from c0_2)))), (cell_keep hb2 (cell_keep hb1 (cell_keep hb0 (show y1.drew.cell? _ = _ from c0_3)))), (cell_keep hb2 (cell_keep hb1 (cell_keep hb0 (show y1.drew.cell? _ = _ from c0_4)))), (cell_keep hb2 (cell_keep hb1 (cell_keep hb0 (show y1.drew.cell? _ = _ from c0_5)))), (cell_keep hb2 (cell_keep hb1 (cell_keep hb0 (show y1.drew.cell? _ = _ from c1_0)))), (cell_keep hb2 (cell_keep hb1 (cell_keep hb0 (show y1.drew.cell? _ = _ from c1_1)))), (cell_keep hb2 (cell_keep hb1 (cell_keep hb0 (show y1.drew.cell? _ = _ from c1_2))))⟩ | exact ⟨(cell_keep hb1 (cell_keep hb0 (show y1.drew.cell? _ = _ from c0_0))), (cell_keep hb1 (cell_keep hb0 (show y1.drew.cell? _ = _ from c0_1))), (cell_keep hb1 (cell_keep hb0 (show y1.drew.cell? _ = _ from c0_2))), (cell_keep hb1 (cell_keep hb0 (show y1.drew.cell? _ = _ from c0_3))), (cell_keep hb1 (cell_keep hb0 (show y1.drew.cell? _ = _ from c0_4))), (cell_keep hb1 (cell_keep hb0 (show y1.drew.cell? _ = _ from c0_5))), (cell_keep hb1 (cell_keep hb0 (show y1.drew.cell? _ = _ from c1_0))), (cell_keep hb1 (cell_keep hb0 (show y1.drew.cell? _ = _ from c1_1))), (cell_keep hb1 (cell_keep hb0 (show y1.drew.cell? _ = _ from c1_2)))⟩ | exact ⟨(cell_keep hb0 (show y1.drew.cell? _ = _ from c0_0)), (cell_keep hb0 (show y1.drew.cell? _ = _ from c0_1)), (cell_keep hb0 (show y1.drew.cell? _ = _ from c0_2)), (cell_keep hb0 (show y1.drew.cell? _ = _ from c0_3)), (cell_keep hb0 (show y1.drew.cell? _ = _ from c0_4)), (cell_keep hb0 (show y1.drew.cell? _ = _ from c0_5)), (cell_keep hb0 (show y1.drew.cell? _ = _ from c1_0)), (cell_keep hb0 (show y1.drew.cell? _ = _ from c1_1)), (cell_keep hb0 (show y1.drew.cell? _ = _ from c1_2))⟩ | exact ⟨c0_0, c0_1, c0_2, c0_3, c0_4, c0_5, c1_0, c1_1, c1_2⟩ | go_keep)
    (first
      | (go_at_call 7; refine (KT0 _ (HB2.out.drew)).out.mono ?_; rintro e y10 ⟨es0, rfl, he0, ho0, hb0⟩)
      | (go_at_call 8; refine (KT1 _ ((HB2.out.drew).trans (hb0.mono (HB2.out.drew).size))).out.mono ?_; rintro e y11 ⟨es1, rfl, he1, ho1, hb1⟩)
      | (go_at_call 6; refine (KSP _ es0 es1 he0 he1 ⟨_, (ho0.below hb1).holds⟩ (ho0.below hb1).strict (by rw [he0]; exact HW0.out) ⟨_, ho1.holds⟩ ho1.strict (by rw [he1]; exact HW1.out)).mono ?_; rintro e y19 ⟨rfl, hb2⟩))
  have hbb : Below y1.heap.size y1 y19 := by
    have h := (Below.refl y1.heap.size y1).drew
    have h := h.trans (hb0.mono h.size)
    have h := h.trans (hb1.mono h.size)
    have h := h.trans (hb2.mono h.size)
    exact h
  clear c0_0 c0_1 c0_2 c0_3 c0_4 c0_5 c1_0 c1_1 c1_2 hb0 hb1 hb2 ho0 he0 ho1 he1
  have HB3 := Lib.hid ((HB2.out).trans (hbb.mono HB2.out.size))
  have HC3_0 := Lib.hid (HC2_0.out.step hbb)
  have HC3_1 := Lib.hid (HC2_1.out.step hbb)
  clear HB2 HC2_0 HC2_1 hbb
  clear KSP
  have c0_0 := HC3_0.out.at 0 (D.row at0 3 av0 ad0) rfl
  simp only [val] at c0_0
  have c0_1 := HC3_0.out.at 1 (D.row at1 4 av1 ad1) rfl
  simp only [val] at c0_1
  have c0_2 := HC3_0.out.at 2 (D.row at2 1 av2 ad2) rfl
  simp only [val] at c0_2
  have c0_3 := HC3_0.out.at 3 (D.int an3) rfl
  simp only [val] at c0_3
  have c0_4 := HC3_0.out.at 4 (D.int an4) rfl
  simp only [val] at c0_4
  have c0_5 := HC3_0.out.at 5 (D.int an5) rfl
  simp only [val] at c0_5
  go_wp2_with fail
  refine (KT0 _ HB3.out).out.mono ?_
  rintro e y20 ⟨es, rfl, he, ho, hb⟩
  clear c0_0 c0_1 c0_2 c0_3 c0_4 c0_5
  have hoo0 := Lib.hid (ho.mono (base' := 0) (Nat.zero_le _))
  have HB4 := Lib.hid ((HB3.out).trans (hb.mono HB3.out.size))
  have HC4_0 := Lib.hid (HC3_0.out.step hb)
  have HC4_1 := Lib.hid (HC3_1.out.step hb)
  clear HB3 HC3_0 HC3_1 hb
  have hg : FitL (env 12) (erases es) := he ▸ HFa.out
  have HEX0 := Lib.hid he
  obtain ⟨yt0, yv0, yd0, ye0, rfl, yf0, hg_0⟩ := fitL_row (k := 3) rfl hg
  clear hg
  obtain ⟨yt1, yv1, yd1, ye1, rfl, yf1, hg_1⟩ := fitL_row (k := 4) rfl hg_0
  clear hg_0
  obtain ⟨yt2, yv2, yd2, ye2, rfl, yf2, hg_2⟩ := fitL_row (k := 1) rfl hg_1
  clear hg_1
  obtain ⟨yn3, ye3, rfl, hg_3⟩ := fitL_int hg_2
  clear hg_2
  obtain ⟨yn4, ye4, rfl, hg_4⟩ := fitL_int hg_3
  clear hg_3
  obtain ⟨yn5, ye5, rfl, hg_5⟩ := fitL_int hg_4
  clear hg_4
  obtain rfl := fitL_nil hg_5
  clear hg_5
  replace he := he.symm
  simp only [erases, erase, List.cons.injEq, P.int.injEq, P.row.injEq, true_and,  and_true] at he
  obtain ⟨g0, g1, g2, rfl, rfl, rfl⟩ := he
  obtain ⟨Axa0, Axn0, Axc0, rfl⟩ := row_slice (goods_iff.1 ho.good (D.row yt0 3 yv0 yd0) (by simp))
  obtain ⟨Axa1, Axn1, Axc1, rfl⟩ := row_slice (goods_iff.1 ho.good (D.row yt1 4 yv1 yd1) (by simp))
  obtain ⟨Axa2, Axn2, Axc2, rfl⟩ := row_slice (goods_iff.1 ho.good (D.row yt2 1 yv2 yd2) (by simp))
  generalize hr1 : yt0 = Axt0 at *
  clear hr1
  generalize hr2 : yd0 = Axd0 at *
  clear hr2 g0 yf0
  generalize hr1 : yt1 = Axt1 at *
  clear hr1
  generalize hr2 : yd1 = Axd1 at *
  clear hr2 g1 yf1
  generalize hr1 : yt2 = Axt2 at *
  clear hr1
  generalize hr2 : yd2 = Axd2 at *
  clear hr2 g2 yf2
  clear ho
  have hba : Below y20.heap.size y20 (y20.alloc (Obj.cells #[.slice Axa0 Axn0 Axc0, .slice Axa1 Axn1 Axc1, .slice Axa2 Axn2 Axc2, Value.int .i64 an3, Value.int .i64 an4, Value.int .i64 an5] 35)) := (Below.refl _ _).alloc (Nat.le_refl _) _
  have HXN0 : Hid (Cells y20.heap.size [D.row Axt0 3 (.slice Axa0 Axn0 Axc0) Axd0, D.row Axt1 4 (.slice Axa1 Axn1 Axc1) Axd1, D.row Axt2 1 (.slice Axa2 Axn2 Axc2) Axd2, D.int an3, D.int an4, D.int an5] (y20.alloc (Obj.cells #[.slice Axa0 Axn0 Axc0, .slice Axa1 Axn1 Axc1, .slice Axa2 Axn2 Axc2, Value.int .i64 an3, Value.int .i64 an4, Value.int .i64 an5] 35))) := Lib.hid (cells_new y20 [D.row Axt0 3 (.slice Axa0 Axn0 Axc0) Axd0, D.row Axt1 4 (.slice Axa1 Axn1 Axc1) Axd1, D.row Axt2 1 (.slice Axa2 Axn2 Axc2) Axd2, D.int an3, D.int an4, D.int an5] _)
  have HB5 := Lib.hid ((HB4.out).trans (hba.mono HB4.out.size))
  have HC5_0 := Lib.hid (HC4_0.out.step hba)
  have HC5_1 := Lib.hid (HC4_1.out.step hba)
  have HO5 := Lib.hid (hoo0.out.below hba)
  clear HB4 HC4_0 HC4_1 hoo0 hba
  rw [show agg [D.row Axt0 3 (.slice Axa0 Axn0 Axc0) Axd0, D.row Axt1 4 (.slice Axa1 Axn1 Axc1) Axd1, D.row Axt2 1 (.slice Axa2 Axn2 Axc2) Axd2, D.int an3, D.int an4, D.int an5] = Value.agg #[.slice Axa0 Axn0 Axc0, .slice Axa1 Axn1 Axc1, .slice Axa2 Axn2 Axc2, Value.int .i64 an3, Value.int .i64 an4, Value.int .i64 an5] from rfl]
  go_wp2_with fail
  generalize (y20.alloc (Obj.cells #[.slice Axa0 Axn0 Axc0, .slice Axa1 Axn1 Axc1, .slice Axa2 Axn2 Axc2, Value.int .i64 an3, Value.int .i64 an4, Value.int .i64 an5] 35)) = z0 at *
  generalize y20.heap.size = gx0 at *
  have x0_0 := HXN0.out.at 0 (D.row Axt0 3 (.slice Axa0 Axn0 Axc0) Axd0) rfl
  simp only [val] at x0_0
  have x0_1 := HXN0.out.at 1 (D.row Axt1 4 (.slice Axa1 Axn1 Axc1) Axd1) rfl
  simp only [val] at x0_1
  have x0_2 := HXN0.out.at 2 (D.row Axt2 1 (.slice Axa2 Axn2 Axc2) Axd2) rfl
  simp only [val] at x0_2
  have x0_3 := HXN0.out.at 3 (D.int an3) rfl
  simp only [val] at x0_3
  have x0_4 := HXN0.out.at 4 (D.int an4) rfl
  simp only [val] at x0_4
  have x0_5 := HXN0.out.at 5 (D.int an5) rfl
  simp only [val] at x0_5
  have c1_0 := HC5_1.out.at 0 (D.int bn0) rfl
  simp only [val] at c1_0
  have c1_1 := HC5_1.out.at 1 (D.int bn1) rfl
  simp only [val] at c1_1
  have c1_2 := HC5_1.out.at 2 (D.str bs2) rfl
  simp only [val] at c1_2
  go_region_held3 (fun w' => w'.cell? ⟨gx0, 0, none⟩ = some (.slice Axa0 Axn0 Axc0) ∧ w'.cell? ⟨gx0, 1, none⟩ = some (.slice Axa1 Axn1 Axc1) ∧ w'.cell? ⟨gx0, 2, none⟩ = some (.slice Axa2 Axn2 Axc2) ∧ w'.cell? ⟨gx0, 3, none⟩ = some (Value.int .i64 an3) ∧ w'.cell? ⟨gx0, 4, none⟩ = some (Value.int .i64 an4) ∧ w'.cell? ⟨gx0, 5, none⟩ = some (Value.int .i64 an5) ∧ w'.cell? ⟨w.heap.size + 1, 0, none⟩ = some (Value.int .i64 bn0) ∧ w'.cell? ⟨w.heap.size + 1, 1, none⟩ = some (Value.int .i64 bn1) ∧ w'.cell? ⟨w.heap.size + 1, 2, none⟩ = some (Value.string bs2))
    (first | exact ⟨(cell_keep hq1 (cell_keep hq0 (show z0.drew.cell? _ = _ from x0_0))), (cell_keep hq1 (cell_keep hq0 (show z0.drew.cell? _ = _ from x0_1))), (cell_keep hq1 (cell_keep hq0 (show z0.drew.cell? _ = _ from x0_2))), (cell_keep hq1 (cell_keep hq0 (show z0.drew.cell? _ = _ from x0_3))), (cell_keep hq1 (cell_keep hq0 (show z0.drew.cell? _ = _ from x0_4))), (cell_keep hq1 (cell_keep hq0 (show z0.drew.cell? _ = _ from x0_5))), (cell_keep hq1 (cell_keep hq0 (show z0.drew.cell? _ = _ from c1_0))), (cell_keep hq1 (cell_keep hq0 (show z0.drew.cell? _ = _ from c1_1))), (cell_keep hq1 (cell_keep hq0 (show z0.drew.cell? _ = _ from c1_2)))⟩ | exact ⟨(cell_keep hq0 (show z0.drew.cell? _ = _ from x0_0)), (cell_keep hq0 (show z0.drew.cell? _ = _ from x0_1)), (cell_keep hq0 (show z0.drew.cell? _ = _ from x0_2)), (cell_keep hq0 (show z0.drew.cell? _ = _ from x0_3)), (cell_keep hq0 (show z0.drew.cell? _ = _ from x0_4)), (cell_keep hq0 (show z0.drew.cell? _ = _ from x0_5)), (cell_keep hq0 (show z0.drew.cell? _ = _ from c1_0)), (cell_keep hq0 (show z0.drew.cell? _ = _ from c1_1)), (cell_keep hq0 (show z0.drew.cell? _ = _ from c1_2))⟩ | exact ⟨x0_0, x0_1, x0_2, x0_3, x0_4, x0_5, c1_0, c1_1, c1_2⟩ | go_keep)
    (first
      | (go_at_call 8; refine (KT1 _ (HB5.out.drew)).out.mono ?_; rintro e y41 ⟨fs1, rfl, hf1, hp1, hq0⟩)
      | (go_at_call 9; refine (KIM _ [D.row Axt0 3 (.slice Axa0 Axn0 Axc0) Axd0, D.row Axt1 4 (.slice Axa1 Axn1 Axc1) Axd1, D.row Axt2 1 (.slice Axa2 Axn2 Axc2) Axd2, D.int an3, D.int an4, D.int an5] fs1 ((HB5.out.drew).trans (hq0.mono (HB5.out.drew).size)) HEX0.out hf1 ((HO5.out.below (w' := z0.drew) ((Below.refl _ _).drew)).snoc hq0 hp1 (Nat.zero_le _)) (by rw [HEX0.out]; exact HW0.out) (by rw [hf1]; exact HW1.out)).mono ?_; rintro e y30 ⟨rfl, hq1⟩))
  have hbb : Below z0.heap.size z0 y30 := by
    have h := (Below.refl z0.heap.size z0).drew
    have h := h.trans (hq0.mono h.size)
    have h := h.trans (hq1.mono h.size)
    exact h
  clear x0_0 x0_1 x0_2 x0_3 x0_4 x0_5 c1_0 c1_1 c1_2 hq0 hq1 hf1 hp1
  clear KIM
  have HB6 := Lib.hid ((HB5.out).trans (hbb.mono HB5.out.size))
  have HC6_0 := Lib.hid (HC5_0.out.step hbb)
  have HC6_1 := Lib.hid (HC5_1.out.step hbb)
  have HX6_0 := Lib.hid (HXN0.out.step hbb)
  have HO6 := Lib.hid (HO5.out.below hbb)
  clear HB5 HC5_0 HC5_1 HXN0 HO5 hbb
  have c0_0 := HC6_0.out.at 0 (D.row at0 3 av0 ad0) rfl
  simp only [val] at c0_0
  have c0_1 := HC6_0.out.at 1 (D.row at1 4 av1 ad1) rfl
  simp only [val] at c0_1
  have c0_2 := HC6_0.out.at 2 (D.row at2 1 av2 ad2) rfl
  simp only [val] at c0_2
  have c0_3 := HC6_0.out.at 3 (D.int an3) rfl
  simp only [val] at c0_3
  have c0_4 := HC6_0.out.at 4 (D.int an4) rfl
  simp only [val] at c0_4
  have c0_5 := HC6_0.out.at 5 (D.int an5) rfl
  simp only [val] at c0_5
  have x0_0 := HX6_0.out.at 0 (D.row Axt0 3 (.slice Axa0 Axn0 Axc0) Axd0) rfl
  simp only [val] at x0_0
  have x0_1 := HX6_0.out.at 1 (D.row Axt1 4 (.slice Axa1 Axn1 Axc1) Axd1) rfl
  simp only [val] at x0_1
  have x0_2 := HX6_0.out.at 2 (D.row Axt2 1 (.slice Axa2 Axn2 Axc2) Axd2) rfl
  simp only [val] at x0_2
  have x0_3 := HX6_0.out.at 3 (D.int an3) rfl
  simp only [val] at x0_3
  have x0_4 := HX6_0.out.at 4 (D.int an4) rfl
  simp only [val] at x0_4
  have x0_5 := HX6_0.out.at 5 (D.int an5) rfl
  simp only [val] at x0_5
  have HH0 : Hid (Holdss 0 y30 [D.row Axt0 3 (.slice Axa0 Axn0 Axc0) Axd0, D.row Axt1 4 (.slice Axa1 Axn1 Axc1) Axd1, D.row Axt2 1 (.slice Axa2 Axn2 Axc2) Axd2, D.int an3, D.int an4, D.int an5]) := Lib.hid (HO6.out.holds)
  go_wp2_with fail
  go_region_held3 (fun w' => w'.cell? ⟨w.heap.size, 0, none⟩ = some av0 ∧ w'.cell? ⟨w.heap.size, 1, none⟩ = some av1 ∧ w'.cell? ⟨w.heap.size, 2, none⟩ = some av2 ∧ w'.cell? ⟨w.heap.size, 3, none⟩ = some (Value.int .i64 an3) ∧ w'.cell? ⟨w.heap.size, 4, none⟩ = some (Value.int .i64 an4) ∧ w'.cell? ⟨w.heap.size, 5, none⟩ = some (Value.int .i64 an5) ∧ w'.cell? ⟨gx0, 0, none⟩ = some (.slice Axa0 Axn0 Axc0) ∧ w'.cell? ⟨gx0, 1, none⟩ = some (.slice Axa1 Axn1 Axc1) ∧ w'.cell? ⟨gx0, 2, none⟩ = some (.slice Axa2 Axn2 Axc2) ∧ w'.cell? ⟨gx0, 3, none⟩ = some (Value.int .i64 an3) ∧ w'.cell? ⟨gx0, 4, none⟩ = some (Value.int .i64 an4) ∧ w'.cell? ⟨gx0, 5, none⟩ = some (Value.int .i64 an5))
    (first | exact ⟨(cell_keep hb1 (cell_keep hb0 (show y30.drew.cell? _ = _ from c0_0))), (cell_keep hb1 (cell_keep hb0 (show y30.drew.cell? _ = _ from c0_1))), (cell_keep hb1 (cell_keep hb0 (show y30.drew.cell? _ = _ from c0_2))), (cell_keep hb1 (cell_keep hb0 (show y30.drew.cell? _ = _ from c0_3))), (cell_keep hb1 (cell_keep hb0 (show y30.drew.cell? _ = _ from c0_4))), (cell_keep hb1 (cell_keep hb0 (show y30.drew.cell? _ = _ from c0_5))), (cell_keep hb1 (cell_keep hb0 (show y30.drew.cell? _ = _ from x0_0))), (cell_keep hb1 (cell_keep hb0 (show y30.drew.cell? _ = _ from x0_1))), (cell_keep hb1 (cell_keep hb0 (show y30.drew.cell? _ = _ from x0_2))), (cell_keep hb1 (cell_keep hb0 (show y30.drew.cell? _ = _ from x0_3))), (cell_keep hb1 (cell_keep hb0 (show y30.drew.cell? _ = _ from x0_4))), (cell_keep hb1 (cell_keep hb0 (show y30.drew.cell? _ = _ from x0_5)))⟩ | exact ⟨(cell_keep hb0 (show y30.drew.cell? _ = _ from c0_0)), (cell_keep hb0 (show y30.drew.cell? _ = _ from c0_1)), (cell_keep hb0 (show y30.drew.cell? _ = _ from c0_2)), (cell_keep hb0 (show y30.drew.cell? _ = _ from c0_3)), (cell_keep hb0 (show y30.drew.cell? _ = _ from c0_4)), (cell_keep hb0 (show y30.drew.cell? _ = _ from c0_5)), (cell_keep hb0 (show y30.drew.cell? _ = _ from x0_0)), (cell_keep hb0 (show y30.drew.cell? _ = _ from x0_1)), (cell_keep hb0 (show y30.drew.cell? _ = _ from x0_2)), (cell_keep hb0 (show y30.drew.cell? _ = _ from x0_3)), (cell_keep hb0 (show y30.drew.cell? _ = _ from x0_4)), (cell_keep hb0 (show y30.drew.cell? _ = _ from x0_5))⟩ | exact ⟨c0_0, c0_1, c0_2, c0_3, c0_4, c0_5, x0_0, x0_1, x0_2, x0_3, x0_4, x0_5⟩ | go_keep)
    (first
      | (go_at_call 7; refine (KT0 _ (HB6.out.drew)).out.mono ?_; rintro e y40 ⟨es, rfl, he, ho, hb0⟩)
      | (go_at_call 10; refine (eq_Store 0 _ _ [D.row Axt0 3 (.slice Axa0 Axn0 Axc0) Axd0, D.row Axt1 4 (.slice Axa1 Axn1 Axc1) Axd1, D.row Axt2 1 (.slice Axa2 Axn2 Axc2) Axd2, D.int an3, D.int an4, D.int an5] es (HEX0.out.trans he.symm) (HEX0.out ▸ HFa.out) ((HH0.out.below (w' := y30.drew) ((Below.refl _ _).drew)).below hb0) ho.holds).mono ?_; rintro e y50 ⟨rfl, hb1⟩))
  have hbb : Below y30.heap.size y30 y50 := by
    have h := (Below.refl y30.heap.size y30).drew
    have h := h.trans (hb0.mono h.size)
    exact h.trans (hb1.mono h.size)
  clear c0_0 c0_1 c0_2 c0_3 c0_4 c0_5 x0_0 x0_1 x0_2 x0_3 x0_4 x0_5 hb0 hb1 ho he HH0
  have HB7 := Lib.hid ((HB6.out).trans (hbb.mono HB6.out.size))
  have HC7_0 := Lib.hid (HC6_0.out.step hbb)
  have HC7_1 := Lib.hid (HC6_1.out.step hbb)
  have HX7_0 := Lib.hid (HX6_0.out.step hbb)
  have HO7 := Lib.hid (HO6.out.below hbb)
  clear HB6 HC6_0 HC6_1 HX6_0 HO6 hbb
  go_wp2_with fail
  go_ret
  exact ⟨rfl, HB7.out⟩
end Go.Proofs.YtoaocpfehdcfgaaGreatDoor.fnExactPrintValueW
