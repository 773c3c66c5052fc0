/-
  The walk of laws.FnExactIsUnit: it returns true at every input, given what the model's function and impl's answer.
  The walk of laws.FnExactIsUnit: it returns true at every unit.
-/
import Derived.Test.YtdohpppkdecbdaaGreatDoorBAppendTexts
import Derived.Test.YtdohpppkdecbdaaGreatDoorBEqUnit
import Derived.Test.YtdohpppkdecbdaaGreatDoorBImplUnitW
import Derived.Test.YtdohpppkdecbdaaGreatDoorBSpecUnit
import Derived.Test.YtdohpppkdecbdaaGreatDoorBSzUnit
import Derived.Test.YtdohpppkdecbdaaGreatDoorBToUnit
namespace Go.Proofs.YtdohpppkdecbdaaGreatDoor.fnExactIsUnitW
open Go.RowKit
open Strs Tree Texts Go.Proofs.YtdohpppkdecbdaaGreatDoor.Data
set_option maxRecDepth 10000 in
set_option maxHeartbeats 16000000 in
theorem walk_of (z : Bool) (w : World) (das : List D) (hfa : FitL (env 5) (erases das)) (hha : Holdss 0 w das)
    (KSP : ∀ (w' : World) (eas : List D), erases eas = erases das → (∃ lo, Holdss lo w' eas) → Stricts eas → weights (erases eas) ≤ 1048576 → Calls Tryz.prog 5 #[agg eas] w' fun r w'' => r = .returned (.bool z) ∧ Below w'.heap.size w' w'')
    (KIM : ∀ (w' : World) (eas : List D), Below w.heap.size w w' → erases eas = erases das → Own 0 w' (eas) → weights (erases eas) ≤ 1048576 → Calls Tryz.prog 7 #[agg eas] w' fun r w'' => r = .returned (.bool z) ∧ Below w'.heap.size w' w'') :
    Calls Tryz.prog 3 #[agg das] w fun e w' => e = .returned (.bool true) ∧ Below w.heap.size w w' := by
  have HFa := Lib.hid hfa
  obtain ⟨at0, av0, ad0, ae0, rfl, af0, hfa_0⟩ := fitL_row (k := 4) rfl hfa
  clear hfa
  obtain ⟨as1, ae1, rfl, hfa_1⟩ := fitL_str hfa_0
  clear hfa_0
  obtain ⟨ax2, ae2, rfl, hfa_2⟩ := fitL_bool hfa_1
  clear hfa_1
  obtain ⟨at3, av3, ad3, ae3, rfl, af3, hfa_3⟩ := fitL_row (k := 1) rfl hfa_2
  clear hfa_2
  obtain ⟨at4, av4, ad4, ae4, rfl, af4, hfa_4⟩ := fitL_row (k := 1) rfl hfa_3
  clear hfa_3
  obtain ⟨at5, av5, ad5, ae5, rfl, af5, hfa_5⟩ := fitL_row (k := 5) rfl hfa_4
  clear hfa_4
  obtain rfl := fitL_nil hfa_5
  clear hfa_5
  clear af0 af3 af4 af5
  have HB0 : Hid (Below w.heap.size w (w.alloc (Obj.cells #[av0, Value.string as1, Value.bool ax2, av3, av4, av5] 28))) := Lib.hid ((Below.refl _ _).alloc (Nat.le_refl _) _)
  have c0_0 : Cells (w.heap.size) [D.row at0 4 av0 ad0, D.str as1, D.bool ax2, D.row at3 1 av3 ad3, D.row at4 1 av4 ad4, D.row at5 5 av5 ad5] (w.alloc (Obj.cells #[av0, Value.string as1, Value.bool ax2, av3, av4, av5] 28)) := by
    have h := cells_new w [D.row at0 4 av0 ad0, D.str as1, D.bool ax2, D.row at3 1 av3 ad3, D.row at4 1 av4 ad4, D.row at5 5 av5 ad5] 28
    exact h
  have HC0_0 := Lib.hid c0_0
  clear c0_0
  rw [show agg [D.row at0 4 av0 ad0, D.str as1, D.bool ax2, D.row at3 1 av3 ad3, D.row at4 1 av4 ad4, D.row at5 5 av5 ad5] = Value.agg #[av0, Value.string as1, Value.bool ax2, av3, av4, av5] from rfl]
  by_cases hz0 : weights (erases [D.row at0 4 av0 ad0, D.str as1, D.bool ax2, D.row at3 1 av3 ad3, D.row at4 1 av4 ad4, D.row at5 5 av5 ad5]) ≤ 1048576
  rotate_left
  · skip
    clear KSP KIM
    go_enter Tryz.func3, Tryz.ntmps3
    have KZ := Lib.hid (sz_Unit 0 1048576 (w.alloc (Obj.cells #[av0, Value.string as1, Value.bool ax2, av3, av4, av5] 28)) [D.row at0 4 av0 ad0, D.str as1, D.bool ax2, D.row at3 1 av3 ad3, D.row at4 1 av4 ad4, D.row at5 5 av5 ad5] (by omega) HFa.out (hha.below HB0.out))
    rw [after_no (by omega)] at KZ
    rw [show agg [D.row at0 4 av0 ad0, D.str as1, D.bool ax2, D.row at3 1 av3 ad3, D.row at4 1 av4 ad4, D.row at5 5 av5 ad5] = Value.agg #[av0, Value.string as1, Value.bool ax2, av3, av4, av5] from rfl] at KZ
    go_wp2_with fail
    refine KZ.out.mono ?_
    rintro e y0 ⟨rfl, hb⟩
    clear KZ 
    have HB1 := Lib.hid ((HB0.out).trans (hb.mono HB0.out.size))
    have HC1_0 := Lib.hid (HC0_0.out.step hb)
    clear HB0 HC0_0 hb
    go_wp2_with fail
    go_ret
    exact ⟨rfl, HB1.out⟩
  obtain ⟨l0, hl0⟩ : ∃ l, 1048576 - weights (erases [D.row at0 4 av0 ad0, D.str as1, D.bool ax2, D.row at3 1 av3 ad3, D.row at4 1 av4 ad4, D.row at5 5 av5 ad5]) = l := ⟨_, rfl⟩
  go_enter Tryz.func3, Tryz.ntmps3
  have KZ := Lib.hid (sz_Unit 0 1048576 (w.alloc (Obj.cells #[av0, Value.string as1, Value.bool ax2, av3, av4, av5] 28)) [D.row at0 4 av0 ad0, D.str as1, D.bool ax2, D.row at3 1 av3 ad3, D.row at4 1 av4 ad4, D.row at5 5 av5 ad5] (by omega) HFa.out (hha.below HB0.out))
  rw [after_yes (by assumption)] at KZ
  rw [hl0] at KZ
  rw [show agg [D.row at0 4 av0 ad0, D.str as1, D.bool ax2, D.row at3 1 av3 ad3, D.row at4 1 av4 ad4, D.row at5 5 av5 ad5] = Value.agg #[av0, Value.string as1, Value.bool ax2, av3, av4, av5] from rfl] at KZ
  go_wp2_with fail
  refine KZ.out.mono ?_
  rintro e y0 ⟨rfl, hb⟩
  clear KZ 
  have HB1 := Lib.hid ((HB0.out).trans (hb.mono HB0.out.size))
  have HC1_0 := Lib.hid (HC0_0.out.step hb)
  clear HB0 HC0_0 hb
  have hw0 : weights (erases [D.row at0 4 av0 ad0, D.str as1, D.bool ax2, D.row at3 1 av3 ad3, D.row at4 1 av4 ad4, D.row at5 5 av5 ad5]) ≤ 1048576 := by omega
  have HW0 := Lib.hid hw0
  clear hz0 hl0 hw0
  have KT0 := fun (w' : World) (hb : Below w.heap.size w w') => Lib.hid (to_Unit 0 w' [D.row at0 4 av0 ad0, D.str as1, D.bool ax2, D.row at3 1 av3 ad3, D.row at4 1 av4 ad4, D.row at5 5 av5 ad5] HW0.out HFa.out (hha.below hb))
  rw [show agg [D.row at0 4 av0 ad0, D.str as1, D.bool ax2, D.row at3 1 av3 ad3, D.row at4 1 av4 ad4, D.row at5 5 av5 ad5] = Value.agg #[av0, Value.string as1, Value.bool ax2, av3, av4, av5] from rfl] at KT0
  have c0_0 := HC1_0.out.at 0 (D.row at0 4 av0 ad0) rfl
  simp only [val] at c0_0
  have c0_1 := HC1_0.out.at 1 (D.str as1) rfl
  simp only [val] at c0_1
  have c0_2 := HC1_0.out.at 2 (D.bool ax2) rfl
  simp only [val] at c0_2
  have c0_3 := HC1_0.out.at 3 (D.row at3 1 av3 ad3) rfl
  simp only [val] at c0_3
  have c0_4 := HC1_0.out.at 4 (D.row at4 1 av4 ad4) rfl
  simp only [val] at c0_4
  have c0_5 := HC1_0.out.at 5 (D.row at5 5 av5 ad5) rfl
  simp only [val] at c0_5
  go_wp2_with fail
  refine (KT0 _ HB1.out).out.mono ?_
  rintro e y10 ⟨es, rfl, he, ho, hb⟩
  clear c0_0 c0_1 c0_2 c0_3 c0_4 c0_5
  have KS := Lib.hid (KSP y10 es he ⟨_, ho.holds⟩ ho.strict (by rw [he]; exact HW0.out))
  have HB2 := Lib.hid ((HB1.out).trans (hb.mono HB1.out.size))
  have HC2_0 := Lib.hid (HC1_0.out.step hb)
  clear HB1 HC1_0 hb
  clear ho he
  generalize agg es = sv at *
  go_wp2_with fail
  refine KS.out.mono ?_
  rintro e y11 ⟨rfl, hb⟩
  clear KS
  have HB3 := Lib.hid ((HB2.out).trans (hb.mono HB2.out.size))
  have HC3_0 := Lib.hid (HC2_0.out.step hb)
  clear HB2 HC2_0 hb
  clear KSP
  have c0_0 := HC3_0.out.at 0 (D.row at0 4 av0 ad0) rfl
  simp only [val] at c0_0
  have c0_1 := HC3_0.out.at 1 (D.str as1) rfl
  simp only [val] at c0_1
  have c0_2 := HC3_0.out.at 2 (D.bool ax2) rfl
  simp only [val] at c0_2
  have c0_3 := HC3_0.out.at 3 (D.row at3 1 av3 ad3) rfl
  simp only [val] at c0_3
  have c0_4 := HC3_0.out.at 4 (D.row at4 1 av4 ad4) rfl
  simp only [val] at c0_4
  have c0_5 := HC3_0.out.at 5 (D.row at5 5 av5 ad5) rfl
  simp only [val] at c0_5
  go_wp2_with fail
  refine (KT0 _ HB3.out).out.mono ?_
  rintro e y20 ⟨es, rfl, he, ho, hb⟩
  clear c0_0 c0_1 c0_2 c0_3 c0_4 c0_5
  have hoo0 := Lib.hid (ho.mono (base' := 0) (Nat.zero_le _))
  have HB4 := Lib.hid ((HB3.out).trans (hb.mono HB3.out.size))
  have HC4_0 := Lib.hid (HC3_0.out.step hb)
  clear HB3 HC3_0 hb
  have hg : FitL (env 5) (erases es) := he ▸ HFa.out
  have HEX0 := Lib.hid he
  obtain ⟨yt0, yv0, yd0, ye0, rfl, yf0, hg_0⟩ := fitL_row (k := 4) rfl hg
  clear hg
  obtain ⟨ys1, ye1, rfl, hg_1⟩ := fitL_str hg_0
  clear hg_0
  obtain ⟨yx2, ye2, rfl, hg_2⟩ := fitL_bool hg_1
  clear hg_1
  obtain ⟨yt3, yv3, yd3, ye3, rfl, yf3, hg_3⟩ := fitL_row (k := 1) rfl hg_2
  clear hg_2
  obtain ⟨yt4, yv4, yd4, ye4, rfl, yf4, hg_4⟩ := fitL_row (k := 1) rfl hg_3
  clear hg_3
  obtain ⟨yt5, yv5, yd5, ye5, rfl, yf5, hg_5⟩ := fitL_row (k := 5) rfl hg_4
  clear hg_4
  obtain rfl := fitL_nil hg_5
  clear hg_5
  replace he := he.symm
  simp only [erases, erase, List.cons.injEq, P.str.injEq, P.bool.injEq, P.row.injEq, true_and,  and_true] at he
  obtain ⟨g0, rfl, rfl, g3, g4, g5⟩ := he
  obtain ⟨Axa0, Axn0, Axc0, rfl⟩ := row_slice (goods_iff.1 ho.good (D.row yt0 4 yv0 yd0) (by simp))
  obtain ⟨Axa3, Axn3, Axc3, rfl⟩ := row_slice (goods_iff.1 ho.good (D.row yt3 1 yv3 yd3) (by simp))
  obtain ⟨Axa4, Axn4, Axc4, rfl⟩ := row_slice (goods_iff.1 ho.good (D.row yt4 1 yv4 yd4) (by simp))
  obtain ⟨Axa5, Axn5, Axc5, rfl⟩ := row_slice (goods_iff.1 ho.good (D.row yt5 5 yv5 yd5) (by simp))
  generalize hr1 : yt0 = Axt0 at *
  clear hr1
  generalize hr2 : yd0 = Axd0 at *
  clear hr2 g0 yf0
  generalize hr1 : yt3 = Axt3 at *
  clear hr1
  generalize hr2 : yd3 = Axd3 at *
  clear hr2 g3 yf3
  generalize hr1 : yt4 = Axt4 at *
  clear hr1
  generalize hr2 : yd4 = Axd4 at *
  clear hr2 g4 yf4
  generalize hr1 : yt5 = Axt5 at *
  clear hr1
  generalize hr2 : yd5 = Axd5 at *
  clear hr2 g5 yf5
  clear ho
  have hba : Below y20.heap.size y20 (y20.alloc (Obj.cells #[.slice Axa0 Axn0 Axc0, Value.string as1, Value.bool ax2, .slice Axa3 Axn3 Axc3, .slice Axa4 Axn4 Axc4, .slice Axa5 Axn5 Axc5] 36)) := (Below.refl _ _).alloc (Nat.le_refl _) _
  have HXN0 : Hid (Cells y20.heap.size [D.row Axt0 4 (.slice Axa0 Axn0 Axc0) Axd0, D.str as1, D.bool ax2, D.row Axt3 1 (.slice Axa3 Axn3 Axc3) Axd3, D.row Axt4 1 (.slice Axa4 Axn4 Axc4) Axd4, D.row Axt5 5 (.slice Axa5 Axn5 Axc5) Axd5] (y20.alloc (Obj.cells #[.slice Axa0 Axn0 Axc0, Value.string as1, Value.bool ax2, .slice Axa3 Axn3 Axc3, .slice Axa4 Axn4 Axc4, .slice Axa5 Axn5 Axc5] 36))) := Lib.hid (cells_new y20 [D.row Axt0 4 (.slice Axa0 Axn0 Axc0) Axd0, D.str as1, D.bool ax2, D.row Axt3 1 (.slice Axa3 Axn3 Axc3) Axd3, D.row Axt4 1 (.slice Axa4 Axn4 Axc4) Axd4, D.row Axt5 5 (.slice Axa5 Axn5 Axc5) Axd5] _)
  have HB5 := Lib.hid ((HB4.out).trans (hba.mono HB4.out.size))
  have HC5_0 := Lib.hid (HC4_0.out.step hba)
  have HO5 := Lib.hid (hoo0.out.below hba)
  clear HB4 HC4_0 hoo0 hba
  rw [show agg [D.row Axt0 4 (.slice Axa0 Axn0 Axc0) Axd0, D.str as1, D.bool ax2, D.row Axt3 1 (.slice Axa3 Axn3 Axc3) Axd3, D.row Axt4 1 (.slice Axa4 Axn4 Axc4) Axd4, D.row Axt5 5 (.slice Axa5 Axn5 Axc5) Axd5] = Value.agg #[.slice Axa0 Axn0 Axc0, Value.string as1, Value.bool ax2, .slice Axa3 Axn3 Axc3, .slice Axa4 Axn4 Axc4, .slice Axa5 Axn5 Axc5] from rfl]
  have KI := Lib.hid (KIM _ [D.row Axt0 4 (.slice Axa0 Axn0 Axc0) Axd0, D.str as1, D.bool ax2, D.row Axt3 1 (.slice Axa3 Axn3 Axc3) Axd3, D.row Axt4 1 (.slice Axa4 Axn4 Axc4) Axd4, D.row Axt5 5 (.slice Axa5 Axn5 Axc5) Axd5] HB5.out HEX0.out HO5.out (by rw [HEX0.out]; exact HW0.out))
  rw [show agg [D.row Axt0 4 (.slice Axa0 Axn0 Axc0) Axd0, D.str as1, D.bool ax2, D.row Axt3 1 (.slice Axa3 Axn3 Axc3) Axd3, D.row Axt4 1 (.slice Axa4 Axn4 Axc4) Axd4, D.row Axt5 5 (.slice Axa5 Axn5 Axc5) Axd5] = Value.agg #[.slice Axa0 Axn0 Axc0, Value.string as1, Value.bool ax2, .slice Axa3 Axn3 Axc3, .slice Axa4 Axn4 Axc4, .slice Axa5 Axn5 Axc5] from rfl] at KI
  clear KIM
  go_wp2_with fail
  generalize (y20.alloc (Obj.cells #[.slice Axa0 Axn0 Axc0, Value.string as1, Value.bool ax2, .slice Axa3 Axn3 Axc3, .slice Axa4 Axn4 Axc4, .slice Axa5 Axn5 Axc5] 36)) = z0 at *
  generalize y20.heap.size = gx0 at *
  refine KI.out.mono ?_
  rintro e y30 ⟨rfl, hb⟩
  clear KI
  have HB6 := Lib.hid ((HB5.out).trans (hb.mono HB5.out.size))
  have HC6_0 := Lib.hid (HC5_0.out.step hb)
  have HX6_0 := Lib.hid (HXN0.out.step hb)
  have HO6 := Lib.hid (HO5.out.below hb)
  clear HB5 HC5_0 HXN0 HO5 hb
  have c0_0 := HC6_0.out.at 0 (D.row at0 4 av0 ad0) rfl
  simp only [val] at c0_0
  have c0_1 := HC6_0.out.at 1 (D.str as1) rfl
  simp only [val] at c0_1
  have c0_2 := HC6_0.out.at 2 (D.bool ax2) rfl
  simp only [val] at c0_2
  have c0_3 := HC6_0.out.at 3 (D.row at3 1 av3 ad3) rfl
  simp only [val] at c0_3
  have c0_4 := HC6_0.out.at 4 (D.row at4 1 av4 ad4) rfl
  simp only [val] at c0_4
  have c0_5 := HC6_0.out.at 5 (D.row at5 5 av5 ad5) rfl
  simp only [val] at c0_5
  have x0_0 := HX6_0.out.at 0 (D.row Axt0 4 (.slice Axa0 Axn0 Axc0) Axd0) rfl
  simp only [val] at x0_0
  have x0_1 := HX6_0.out.at 1 (D.str as1) rfl
  simp only [val] at x0_1
  have x0_2 := HX6_0.out.at 2 (D.bool ax2) rfl
  simp only [val] at x0_2
  have x0_3 := HX6_0.out.at 3 (D.row Axt3 1 (.slice Axa3 Axn3 Axc3) Axd3) rfl
  simp only [val] at x0_3
  have x0_4 := HX6_0.out.at 4 (D.row Axt4 1 (.slice Axa4 Axn4 Axc4) Axd4) rfl
  simp only [val] at x0_4
  have x0_5 := HX6_0.out.at 5 (D.row Axt5 5 (.slice Axa5 Axn5 Axc5) Axd5) rfl
  simp only [val] at x0_5
  have HH0 : Hid (Holdss 0 y30 [D.row Axt0 4 (.slice Axa0 Axn0 Axc0) Axd0, D.str as1, D.bool ax2, D.row Axt3 1 (.slice Axa3 Axn3 Axc3) Axd3, D.row Axt4 1 (.slice Axa4 Axn4 Axc4) Axd4, D.row Axt5 5 (.slice Axa5 Axn5 Axc5) Axd5]) := Lib.hid (HO6.out.holds)
  go_wp2_with fail
  go_region_held3 (fun w' => w'.cell? ⟨w.heap.size, 0, none⟩ = some av0 ∧ w'.cell? ⟨w.heap.size, 1, none⟩ = some (Value.string as1) ∧ w'.cell? ⟨w.heap.size, 2, none⟩ = some (Value.bool ax2) ∧ w'.cell? ⟨w.heap.size, 3, none⟩ = some av3 ∧ w'.cell? ⟨w.heap.size, 4, none⟩ = some av4 ∧ w'.cell? ⟨w.heap.size, 5, none⟩ = some av5 ∧ w'.cell? ⟨gx0, 0, none⟩ = some (.slice Axa0 Axn0 Axc0) ∧ w'.cell? ⟨gx0, 1, none⟩ = some (Value.string as1) ∧ w'.cell? ⟨gx0, 2, none⟩ = some (Value.bool ax2) ∧ w'.cell? ⟨gx0, 3, none⟩ = some (.slice Axa3 Axn3 Axc3) ∧ w'.cell? ⟨gx0, 4, none⟩ = some (.slice Axa4 Axn4 Axc4) ∧ w'.cell? ⟨gx0, 5, none⟩ = some (.slice Axa5 Axn5 Axc5))
    (first | exact ⟨(cell_keep hb1 (cell_keep hb0 (show y30.drew.cell? _ = _ from c0_0))), (cell_keep hb1 (cell_keep hb0 (show y30.drew.cell? _ = _ from c0_1))), (cell_keep hb1 (cell_keep hb0 (show y30.drew.cell? _ = _ from c0_2))), (cell_keep hb1 (cell_keep hb0 (show y30.drew.cell? _ = _ from c0_3))), (cell_keep hb1 (cell_keep hb0 (show y30.drew.cell? _ = _ from c0_4))), (cell_keep hb1 (cell_keep hb0 (show y30.drew.cell? _ = _ from c0_5))), (cell_keep hb1 (cell_keep hb0 (show y30.drew.cell? _ = _ from x0_0))), (cell_keep hb1 (cell_keep hb0 (show y30.drew.cell? _ = _ from x0_1))), (cell_keep hb1 (cell_keep hb0 (show y30.drew.cell? _ = _ from x0_2))), (cell_keep hb1 (cell_keep hb0 (show y30.drew.cell? _ = _ from x0_3))), (cell_keep hb1 (cell_keep hb0 (show y30.drew.cell? _ = _ from x0_4))), (cell_keep hb1 (cell_keep hb0 (show y30.drew.cell? _ = _ from x0_5)))⟩ | exact ⟨(cell_keep hb0 (show y30.drew.cell? _ = _ from c0_0)), (cell_keep hb0 (show y30.drew.cell? _ = _ from c0_1)), (cell_keep hb0 (show y30.drew.cell? _ = _ from c0_2)), (cell_keep hb0 (show y30.drew.cell? _ = _ from c0_3)), (cell_keep hb0 (show y30.drew.cell? _ = _ from c0_4)), (cell_keep hb0 (show y30.drew.cell? _ = _ from c0_5)), (cell_keep hb0 (show y30.drew.cell? _ = _ from x0_0)), (cell_keep hb0 (show y30.drew.cell? _ = _ from x0_1)), (cell_keep hb0 (show y30.drew.cell? _ = _ from x0_2)), (cell_keep hb0 (show y30.drew.cell? _ = _ from x0_3)), (cell_keep hb0 (show y30.drew.cell? _ = _ from x0_4)), (cell_keep hb0 (show y30.drew.cell? _ = _ from x0_5))⟩ | exact ⟨c0_0, c0_1, c0_2, c0_3, c0_4, c0_5, x0_0, x0_1, x0_2, x0_3, x0_4, x0_5⟩ | go_keep)
    (first
      | (go_at_call 6; refine (KT0 _ (HB6.out.drew)).out.mono ?_; rintro e y40 ⟨es, rfl, he, ho, hb0⟩)
      | (go_at_call 8; refine (eq_Unit 0 _ _ [D.row Axt0 4 (.slice Axa0 Axn0 Axc0) Axd0, D.str as1, D.bool ax2, D.row Axt3 1 (.slice Axa3 Axn3 Axc3) Axd3, D.row Axt4 1 (.slice Axa4 Axn4 Axc4) Axd4, D.row Axt5 5 (.slice Axa5 Axn5 Axc5) Axd5] es (HEX0.out.trans he.symm) (HEX0.out ▸ HFa.out) ((HH0.out.below (w' := y30.drew) ((Below.refl _ _).drew)).below hb0) ho.holds).mono ?_; rintro e y50 ⟨rfl, hb1⟩))
  have hbb : Below y30.heap.size y30 y50 := by
    have h := (Below.refl y30.heap.size y30).drew
    have h := h.trans (hb0.mono h.size)
    exact h.trans (hb1.mono h.size)
  clear c0_0 c0_1 c0_2 c0_3 c0_4 c0_5 x0_0 x0_1 x0_2 x0_3 x0_4 x0_5 hb0 hb1 ho he HH0
  have HB7 := Lib.hid ((HB6.out).trans (hbb.mono HB6.out.size))
  have HC7_0 := Lib.hid (HC6_0.out.step hbb)
  have HX7_0 := Lib.hid (HX6_0.out.step hbb)
  have HO7 := Lib.hid (HO6.out.below hbb)
  clear HB6 HC6_0 HX6_0 HO6 hbb
  go_wp2_with fail
  go_ret
  exact ⟨rfl, HB7.out⟩
end Go.Proofs.YtdohpppkdecbdaaGreatDoor.fnExactIsUnitW

namespace Go.Proofs.YtdohpppkdecbdaaGreatDoor.fnExactIsUnitW
open Go.RowKit
open Strs Tree Texts Errs Go.Proofs.YtdohpppkdecbdaaGreatDoor.Data
theorem walk (ds : List D) (hf : FitL (env 5) (erases ds)) (w : World) (hh : Holdss 0 w ds) {a : Addr} (he : Err w a) :
    Calls Tryz.prog 3 #[agg ds] w fun e w' => e = .returned (.bool true) ∧ Below w.heap.size w w' := by
  obtain ⟨u, -, -, -, -, -, -, -, -, -, hu⟩ := unit_get hf
  exact walk_of (unitOk u) w ds hf hh (fun w' es he' hh hs hw => by obtain ⟨lo, hh⟩ := hh; exact Data.is_unit (he'.trans hu) hh hs hw)
    (fun w' es hb he' ho hw => ImplMeth.is_unit (he'.trans hu) ho hw (he.keep hb))
end Go.Proofs.YtdohpppkdecbdaaGreatDoor.fnExactIsUnitW
