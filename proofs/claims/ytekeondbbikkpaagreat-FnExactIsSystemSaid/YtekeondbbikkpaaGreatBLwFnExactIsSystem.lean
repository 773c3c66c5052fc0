/-
  The walk of laws.FnExactIsSystem: it returns true at every input, given what the model's function and impl's answer.
-/
import Derived.Test.YtekeondbbikkpaaGreatBEqSystem
import Derived.Test.YtekeondbbikkpaaGreatBOutRow
import Derived.Test.YtekeondbbikkpaaGreatBSzSystem
import Derived.Test.YtekeondbbikkpaaGreatBToSystem
namespace Go.Proofs.YtekeondbbikkpaaGreat.fnExactIsSystemW
open Go.RowKit
open Strs Tree Texts Go.Proofs.YtekeondbbikkpaaGreat.Data
set_option maxRecDepth 10000 in
set_option maxHeartbeats 16000000 in
theorem walk_of (z : Bool) (w : World) (das : List D) (hfa : FitL (env 9) (erases das)) (hha : Holdss 0 w das)
    (KSP : ∀ (w' : World) (eas : List D), erases eas = erases das → (∃ lo, Holdss lo w' eas) → Stricts eas → weights (erases eas) ≤ 1048576 → Calls Tryz.prog 5 #[agg eas] w' fun r w'' => r = .returned (.bool z) ∧ Below w'.heap.size w' w'')
    (KIM : ∀ (w' : World) (eas : List D), erases eas = erases das → Own 0 w' (eas) → weights (erases eas) ≤ 1048576 → Calls Tryz.prog 7 #[agg eas] w' fun r w'' => r = .returned (.bool z) ∧ Below w'.heap.size w' w'') :
    Calls Tryz.prog 3 #[agg das] w fun e w' => e = .returned (.bool true) ∧ Below w.heap.size w w' := by
  have HFa := Lib.hid hfa
  obtain ⟨at0, av0, ad0, ae0, rfl, af0, hfa_0⟩ := fitL_row (k := 3) rfl hfa
  clear hfa
  obtain ⟨at1, av1, ad1, ae1, rfl, af1, hfa_1⟩ := fitL_row (k := 10) rfl hfa_0
  clear hfa_0
  obtain ⟨as2, ae2, rfl, hfa_2⟩ := fitL_str hfa_1
  clear hfa_1
  obtain ⟨an3, ae3, rfl, hfa_3⟩ := fitL_int hfa_2
  clear hfa_2
  obtain ⟨ax4, ae4, rfl, hfa_4⟩ := fitL_bool hfa_3
  clear hfa_3
  obtain ⟨an5, ae5, rfl, hfa_5⟩ := fitL_int hfa_4
  clear hfa_4
  obtain ⟨an6, ae6, rfl, hfa_6⟩ := fitL_int hfa_5
  clear hfa_5
  obtain ⟨an7, ae7, rfl, hfa_7⟩ := fitL_int hfa_6
  clear hfa_6
  obtain ⟨as8, ae8, rfl, hfa_8⟩ := fitL_str hfa_7
  clear hfa_7
  obtain ⟨an9, ae9, rfl, hfa_9⟩ := fitL_int hfa_8
  clear hfa_8
  obtain ⟨an10, ae10, rfl, hfa_10⟩ := fitL_int hfa_9
  clear hfa_9
  obtain ⟨at11, av11, ad11, ae11, rfl, af11, hfa_11⟩ := fitL_row (k := 5) rfl hfa_10
  clear hfa_10
  obtain rfl := fitL_nil hfa_11
  clear hfa_11
  clear af0 af1 af11
  have HB0 : Hid (Below w.heap.size w (w.alloc (Obj.cells #[av0, av1, Value.string as2, Value.int .i64 an3, Value.bool ax4, Value.int .i64 an5, Value.int .i64 an6, Value.int .i64 an7, Value.string as8, Value.int .i64 an9, Value.int .i64 an10, av11] 30))) := Lib.hid ((Below.refl _ _).alloc (Nat.le_refl _) _)
  have c0_0 : Cells (w.heap.size) [D.row at0 3 av0 ad0, D.row at1 10 av1 ad1, D.str as2, D.int an3, D.bool ax4, D.int an5, D.int an6, D.int an7, D.str as8, D.int an9, D.int an10, D.row at11 5 av11 ad11] (w.alloc (Obj.cells #[av0, av1, Value.string as2, Value.int .i64 an3, Value.bool ax4, Value.int .i64 an5, Value.int .i64 an6, Value.int .i64 an7, Value.string as8, Value.int .i64 an9, Value.int .i64 an10, av11] 30)) := by
    have h := cells_new w [D.row at0 3 av0 ad0, D.row at1 10 av1 ad1, D.str as2, D.int an3, D.bool ax4, D.int an5, D.int an6, D.int an7, D.str as8, D.int an9, D.int an10, D.row at11 5 av11 ad11] 30
    exact h
  have HC0_0 := Lib.hid c0_0
  clear c0_0
  rw [show agg [D.row at0 3 av0 ad0, D.row at1 10 av1 ad1, D.str as2, D.int an3, D.bool ax4, D.int an5, D.int an6, D.int an7, D.str as8, D.int an9, D.int an10, D.row at11 5 av11 ad11] = Value.agg #[av0, av1, Value.string as2, Value.int .i64 an3, Value.bool ax4, Value.int .i64 an5, Value.int .i64 an6, Value.int .i64 an7, Value.string as8, Value.int .i64 an9, Value.int .i64 an10, av11] from rfl]
  by_cases hz0 : weights (erases [D.row at0 3 av0 ad0, D.row at1 10 av1 ad1, D.str as2, D.int an3, D.bool ax4, D.int an5, D.int an6, D.int an7, D.str as8, D.int an9, D.int an10, D.row at11 5 av11 ad11]) ≤ 1048576
  rotate_left
  · skip
    clear KSP KIM
    go_enter Tryz.func3, Tryz.ntmps3
    have KZ := Lib.hid (sz_System 0 1048576 (w.alloc (Obj.cells #[av0, av1, Value.string as2, Value.int .i64 an3, Value.bool ax4, Value.int .i64 an5, Value.int .i64 an6, Value.int .i64 an7, Value.string as8, Value.int .i64 an9, Value.int .i64 an10, av11] 30)) [D.row at0 3 av0 ad0, D.row at1 10 av1 ad1, D.str as2, D.int an3, D.bool ax4, D.int an5, D.int an6, D.int an7, D.str as8, D.int an9, D.int an10, D.row at11 5 av11 ad11] (by omega) HFa.out (hha.below HB0.out))
    rw [after_no (by omega)] at KZ
    rw [show agg [D.row at0 3 av0 ad0, D.row at1 10 av1 ad1, D.str as2, D.int an3, D.bool ax4, D.int an5, D.int an6, D.int an7, D.str as8, D.int an9, D.int an10, D.row at11 5 av11 ad11] = Value.agg #[av0, av1, Value.string as2, Value.int .i64 an3, Value.bool ax4, Value.int .i64 an5, Value.int .i64 an6, Value.int .i64 an7, Value.string as8, Value.int .i64 an9, Value.int .i64 an10, av11] from rfl] at KZ
    go_wp2_with fail
    refine KZ.out.mono ?_
    rintro e y0 ⟨rfl, hb⟩
    clear KZ 
    have HB1 := Lib.hid ((HB0.out).trans (hb.mono HB0.out.size))
    have HC1_0 := Lib.hid (HC0_0.out.step hb)
    clear HB0 HC0_0 hb
    go_wp2_with fail
    go_ret
    exact ⟨rfl, HB1.out⟩
  obtain ⟨l0, hl0⟩ : ∃ l, 1048576 - weights (erases [D.row at0 3 av0 ad0, D.row at1 10 av1 ad1, D.str as2, D.int an3, D.bool ax4, D.int an5, D.int an6, D.int an7, D.str as8, D.int an9, D.int an10, D.row at11 5 av11 ad11]) = l := ⟨_, rfl⟩
  go_enter Tryz.func3, Tryz.ntmps3
  have KZ := Lib.hid (sz_System 0 1048576 (w.alloc (Obj.cells #[av0, av1, Value.string as2, Value.int .i64 an3, Value.bool ax4, Value.int .i64 an5, Value.int .i64 an6, Value.int .i64 an7, Value.string as8, Value.int .i64 an9, Value.int .i64 an10, av11] 30)) [D.row at0 3 av0 ad0, D.row at1 10 av1 ad1, D.str as2, D.int an3, D.bool ax4, D.int an5, D.int an6, D.int an7, D.str as8, D.int an9, D.int an10, D.row at11 5 av11 ad11] (by omega) HFa.out (hha.below HB0.out))
  rw [after_yes (by assumption)] at KZ
  rw [hl0] at KZ
  rw [show agg [D.row at0 3 av0 ad0, D.row at1 10 av1 ad1, D.str as2, D.int an3, D.bool ax4, D.int an5, D.int an6, D.int an7, D.str as8, D.int an9, D.int an10, D.row at11 5 av11 ad11] = Value.agg #[av0, av1, Value.string as2, Value.int .i64 an3, Value.bool ax4, Value.int .i64 an5, Value.int .i64 an6, Value.int .i64 an7, Value.string as8, Value.int .i64 an9, Value.int .i64 an10, av11] from rfl] at KZ
  go_wp2_with fail
  refine KZ.out.mono ?_
  rintro e y0 ⟨rfl, hb⟩
  clear KZ 
  have HB1 := Lib.hid ((HB0.out).trans (hb.mono HB0.out.size))
  have HC1_0 := Lib.hid (HC0_0.out.step hb)
  clear HB0 HC0_0 hb
  have hw0 : weights (erases [D.row at0 3 av0 ad0, D.row at1 10 av1 ad1, D.str as2, D.int an3, D.bool ax4, D.int an5, D.int an6, D.int an7, D.str as8, D.int an9, D.int an10, D.row at11 5 av11 ad11]) ≤ 1048576 := by omega
  have HW0 := Lib.hid hw0
  clear hz0 hl0 hw0
  have KT0 := fun (w' : World) (hb : Below w.heap.size w w') => Lib.hid (to_System 0 w' [D.row at0 3 av0 ad0, D.row at1 10 av1 ad1, D.str as2, D.int an3, D.bool ax4, D.int an5, D.int an6, D.int an7, D.str as8, D.int an9, D.int an10, D.row at11 5 av11 ad11] HW0.out HFa.out (hha.below hb))
  rw [show agg [D.row at0 3 av0 ad0, D.row at1 10 av1 ad1, D.str as2, D.int an3, D.bool ax4, D.int an5, D.int an6, D.int an7, D.str as8, D.int an9, D.int an10, D.row at11 5 av11 ad11] = Value.agg #[av0, av1, Value.string as2, Value.int .i64 an3, Value.bool ax4, Value.int .i64 an5, Value.int .i64 an6, Value.int .i64 an7, Value.string as8, Value.int .i64 an9, Value.int .i64 an10, av11] from rfl] at KT0
  have c0_0 := HC1_0.out.at 0 (D.row at0 3 av0 ad0) rfl
  simp only [val] at c0_0
  have c0_1 := HC1_0.out.at 1 (D.row at1 10 av1 ad1) rfl
  simp only [val] at c0_1
  have c0_2 := HC1_0.out.at 2 (D.str as2) rfl
  simp only [val] at c0_2
  have c0_3 := HC1_0.out.at 3 (D.int an3) rfl
  simp only [val] at c0_3
  have c0_4 := HC1_0.out.at 4 (D.bool ax4) rfl
  simp only [val] at c0_4
  have c0_5 := HC1_0.out.at 5 (D.int an5) rfl
  simp only [val] at c0_5
  have c0_6 := HC1_0.out.at 6 (D.int an6) rfl
  simp only [val] at c0_6
  have c0_7 := HC1_0.out.at 7 (D.int an7) rfl
  simp only [val] at c0_7
  have c0_8 := HC1_0.out.at 8 (D.str as8) rfl
  simp only [val] at c0_8
  have c0_9 := HC1_0.out.at 9 (D.int an9) rfl
  simp only [val] at c0_9
  have c0_10 := HC1_0.out.at 10 (D.int an10) rfl
  simp only [val] at c0_10
  have c0_11 := HC1_0.out.at 11 (D.row at11 5 av11 ad11) rfl
  simp only [val] at c0_11
  go_wp2_with fail
  refine (KT0 _ HB1.out).out.mono ?_
  rintro e y10 ⟨es, rfl, he, ho, hb⟩
  clear c0_0 c0_1 c0_2 c0_3 c0_4 c0_5 c0_6 c0_7 c0_8 c0_9 c0_10 c0_11
  have KS := Lib.hid (KSP y10 es he ⟨_, ho.holds⟩ ho.strict (by rw [he]; exact HW0.out))
  have HB2 := Lib.hid ((HB1.out).trans (hb.mono HB1.out.size))
  have HC2_0 := Lib.hid (HC1_0.out.step hb)
  clear HB1 HC1_0 hb
  clear ho he
  generalize agg es = sv at *
  go_wp2_with fail
  refine KS.out.mono ?_
  rintro e y11 ⟨rfl, hb⟩
  clear KS
  have HB3 := Lib.hid ((HB2.out).trans (hb.mono HB2.out.size))
  have HC3_0 := Lib.hid (HC2_0.out.step hb)
  clear HB2 HC2_0 hb
  clear KSP
  have c0_0 := HC3_0.out.at 0 (D.row at0 3 av0 ad0) rfl
  simp only [val] at c0_0
  have c0_1 := HC3_0.out.at 1 (D.row at1 10 av1 ad1) rfl
  simp only [val] at c0_1
  have c0_2 := HC3_0.out.at 2 (D.str as2) rfl
  simp only [val] at c0_2
  have c0_3 := HC3_0.out.at 3 (D.int an3) rfl
  simp only [val] at c0_3
  have c0_4 := HC3_0.out.at 4 (D.bool ax4) rfl
  simp only [val] at c0_4
  have c0_5 := HC3_0.out.at 5 (D.int an5) rfl
  simp only [val] at c0_5
  have c0_6 := HC3_0.out.at 6 (D.int an6) rfl
  simp only [val] at c0_6
  have c0_7 := HC3_0.out.at 7 (D.int an7) rfl
  simp only [val] at c0_7
  have c0_8 := HC3_0.out.at 8 (D.str as8) rfl
  simp only [val] at c0_8
  have c0_9 := HC3_0.out.at 9 (D.int an9) rfl
  simp only [val] at c0_9
  have c0_10 := HC3_0.out.at 10 (D.int an10) rfl
  simp only [val] at c0_10
  have c0_11 := HC3_0.out.at 11 (D.row at11 5 av11 ad11) rfl
  simp only [val] at c0_11
  go_wp2_with fail
  refine (KT0 _ HB3.out).out.mono ?_
  rintro e y20 ⟨es, rfl, he, ho, hb⟩
  clear c0_0 c0_1 c0_2 c0_3 c0_4 c0_5 c0_6 c0_7 c0_8 c0_9 c0_10 c0_11
  have hoo0 := Lib.hid (ho.mono (base' := 0) (Nat.zero_le _))
  have HB4 := Lib.hid ((HB3.out).trans (hb.mono HB3.out.size))
  have HC4_0 := Lib.hid (HC3_0.out.step hb)
  clear HB3 HC3_0 hb
  have hg : FitL (env 9) (erases es) := he ▸ HFa.out
  have HEX0 := Lib.hid he
  obtain ⟨yt0, yv0, yd0, ye0, rfl, yf0, hg_0⟩ := fitL_row (k := 3) rfl hg
  clear hg
  obtain ⟨yt1, yv1, yd1, ye1, rfl, yf1, hg_1⟩ := fitL_row (k := 10) rfl hg_0
  clear hg_0
  obtain ⟨ys2, ye2, rfl, hg_2⟩ := fitL_str hg_1
  clear hg_1
  obtain ⟨yn3, ye3, rfl, hg_3⟩ := fitL_int hg_2
  clear hg_2
  obtain ⟨yx4, ye4, rfl, hg_4⟩ := fitL_bool hg_3
  clear hg_3
  obtain ⟨yn5, ye5, rfl, hg_5⟩ := fitL_int hg_4
  clear hg_4
  obtain ⟨yn6, ye6, rfl, hg_6⟩ := fitL_int hg_5
  clear hg_5
  obtain ⟨yn7, ye7, rfl, hg_7⟩ := fitL_int hg_6
  clear hg_6
  obtain ⟨ys8, ye8, rfl, hg_8⟩ := fitL_str hg_7
  clear hg_7
  obtain ⟨yn9, ye9, rfl, hg_9⟩ := fitL_int hg_8
  clear hg_8
  obtain ⟨yn10, ye10, rfl, hg_10⟩ := fitL_int hg_9
  clear hg_9
  obtain ⟨yt11, yv11, yd11, ye11, rfl, yf11, hg_11⟩ := fitL_row (k := 5) rfl hg_10
  clear hg_10
  obtain rfl := fitL_nil hg_11
  clear hg_11
  replace he := he.symm
  simp only [erases, erase, List.cons.injEq, P.int.injEq, P.str.injEq, P.bool.injEq, P.row.injEq, true_and,  and_true] at he
  obtain ⟨g0, g1, rfl, rfl, rfl, rfl, rfl, rfl, rfl, rfl, rfl, g11⟩ := he
  obtain ⟨Axa0, Axn0, Axc0, rfl⟩ := row_slice (goods_iff.1 ho.good (D.row yt0 3 yv0 yd0) (by simp))
  obtain ⟨Axa1, Axn1, Axc1, rfl⟩ := row_slice (goods_iff.1 ho.good (D.row yt1 10 yv1 yd1) (by simp))
  obtain ⟨Axa11, Axn11, Axc11, rfl⟩ := row_slice (goods_iff.1 ho.good (D.row yt11 5 yv11 yd11) (by simp))
  generalize hr1 : yt0 = Axt0 at *
  clear hr1
  generalize hr2 : yd0 = Axd0 at *
  clear hr2 g0 yf0
  generalize hr1 : yt1 = Axt1 at *
  clear hr1
  generalize hr2 : yd1 = Axd1 at *
  clear hr2 g1 yf1
  generalize hr1 : yt11 = Axt11 at *
  clear hr1
  generalize hr2 : yd11 = Axd11 at *
  clear hr2 g11 yf11
  clear ho
  have hba : Below y20.heap.size y20 (y20.alloc (Obj.cells #[.slice Axa0 Axn0 Axc0, .slice Axa1 Axn1 Axc1, Value.string as2, Value.int .i64 an3, Value.bool ax4, Value.int .i64 an5, Value.int .i64 an6, Value.int .i64 an7, Value.string as8, Value.int .i64 an9, Value.int .i64 an10, .slice Axa11 Axn11 Axc11] 41)) := (Below.refl _ _).alloc (Nat.le_refl _) _
  have HXN0 : Hid (Cells y20.heap.size [D.row Axt0 3 (.slice Axa0 Axn0 Axc0) Axd0, D.row Axt1 10 (.slice Axa1 Axn1 Axc1) Axd1, D.str as2, D.int an3, D.bool ax4, D.int an5, D.int an6, D.int an7, D.str as8, D.int an9, D.int an10, D.row Axt11 5 (.slice Axa11 Axn11 Axc11) Axd11] (y20.alloc (Obj.cells #[.slice Axa0 Axn0 Axc0, .slice Axa1 Axn1 Axc1, Value.string as2, Value.int .i64 an3, Value.bool ax4, Value.int .i64 an5, Value.int .i64 an6, Value.int .i64 an7, Value.string as8, Value.int .i64 an9, Value.int .i64 an10, .slice Axa11 Axn11 Axc11] 41))) := Lib.hid (cells_new y20 [D.row Axt0 3 (.slice Axa0 Axn0 Axc0) Axd0, D.row Axt1 10 (.slice Axa1 Axn1 Axc1) Axd1, D.str as2, D.int an3, D.bool ax4, D.int an5, D.int an6, D.int an7, D.str as8, D.int an9, D.int an10, D.row Axt11 5 (.slice Axa11 Axn11 Axc11) Axd11] _)
  have HB5 := Lib.hid ((HB4.out).trans (hba.mono HB4.out.size))
  have HC5_0 := Lib.hid (HC4_0.out.step hba)
  have HO5 := Lib.hid (hoo0.out.below hba)
  clear HB4 HC4_0 hoo0 hba
  rw [show agg [D.row Axt0 3 (.slice Axa0 Axn0 Axc0) Axd0, D.row Axt1 10 (.slice Axa1 Axn1 Axc1) Axd1, D.str as2, D.int an3, D.bool ax4, D.int an5, D.int an6, D.int an7, D.str as8, D.int an9, D.int an10, D.row Axt11 5 (.slice Axa11 Axn11 Axc11) Axd11] = Value.agg #[.slice Axa0 Axn0 Axc0, .slice Axa1 Axn1 Axc1, Value.string as2, Value.int .i64 an3, Value.bool ax4, Value.int .i64 an5, Value.int .i64 an6, Value.int .i64 an7, Value.string as8, Value.int .i64 an9, Value.int .i64 an10, .slice Axa11 Axn11 Axc11] from rfl]
  have KI := Lib.hid (KIM _ [D.row Axt0 3 (.slice Axa0 Axn0 Axc0) Axd0, D.row Axt1 10 (.slice Axa1 Axn1 Axc1) Axd1, D.str as2, D.int an3, D.bool ax4, D.int an5, D.int an6, D.int an7, D.str as8, D.int an9, D.int an10, D.row Axt11 5 (.slice Axa11 Axn11 Axc11) Axd11] HEX0.out HO5.out (by rw [HEX0.out]; exact HW0.out))
  rw [show agg [D.row Axt0 3 (.slice Axa0 Axn0 Axc0) Axd0, D.row Axt1 10 (.slice Axa1 Axn1 Axc1) Axd1, D.str as2, D.int an3, D.bool ax4, D.int an5, D.int an6, D.int an7, D.str as8, D.int an9, D.int an10, D.row Axt11 5 (.slice Axa11 Axn11 Axc11) Axd11] = Value.agg #[.slice Axa0 Axn0 Axc0, .slice Axa1 Axn1 Axc1, Value.string as2, Value.int .i64 an3, Value.bool ax4, Value.int .i64 an5, Value.int .i64 an6, Value.int .i64 an7, Value.string as8, Value.int .i64 an9, Value.int .i64 an10, .slice Axa11 Axn11 Axc11] from rfl] at KI
  clear KIM
  go_wp2_with fail
  generalize (y20.alloc (Obj.cells #[.slice Axa0 Axn0 Axc0, .slice Axa1 Axn1 Axc1, Value.string as2, Value.int .i64 an3, Value.bool ax4, Value.int .i64 an5, Value.int .i64 an6, Value.int .i64 an7, Value.string as8, Value.int .i64 an9, Value.int .i64 an10, .slice Axa11 Axn11 Axc11] 41)) = z0 at *
  generalize y20.heap.size = gx0 at *
  refine KI.out.mono ?_
  rintro e y30 ⟨rfl, hb⟩
  clear KI
  have HB6 := Lib.hid ((HB5.out).trans (hb.mono HB5.out.size))
  have HC6_0 := Lib.hid (HC5_0.out.step hb)
  have HX6_0 := Lib.hid (HXN0.out.step hb)
  have HO6 := Lib.hid (HO5.out.below hb)
  clear HB5 HC5_0 HXN0 HO5 hb
  have c0_0 := HC6_0.out.at 0 (D.row at0 3 av0 ad0) rfl
  simp only [val] at c0_0
  have c0_1 := HC6_0.out.at 1 (D.row at1 10 av1 ad1) rfl
  simp only [val] at c0_1
  have c0_2 := HC6_0.out.at 2 (D.str as2) rfl
  simp only [val] at c0_2
  have c0_3 := HC6_0.out.at 3 (D.int an3) rfl
  simp only [val] at c0_3
  have c0_4 := HC6_0.out.at 4 (D.bool ax4) rfl
  simp only [val] at c0_4
  have c0_5 := HC6_0.out.at 5 (D.int an5) rfl
  simp only [val] at c0_5
  have c0_6 := HC6_0.out.at 6 (D.int an6) rfl
  simp only [val] at c0_6
  have c0_7 := HC6_0.out.at 7 (D.int an7) rfl
  simp only [val] at c0_7
  have c0_8 := HC6_0.out.at 8 (D.str as8) rfl
  simp only [val] at c0_8
  have c0_9 := HC6_0.out.at 9 (D.int an9) rfl
  simp only [val] at c0_9
  have c0_10 := HC6_0.out.at 10 (D.int an10) rfl
  simp only [val] at c0_10
  have c0_11 := HC6_0.out.at 11 (D.row at11 5 av11 ad11) rfl
  simp only [val] at c0_11
  have x0_0 := HX6_0.out.at 0 (D.row Axt0 3 (.slice Axa0 Axn0 Axc0) Axd0) rfl
  simp only [val] at x0_0
  have x0_1 := HX6_0.out.at 1 (D.row Axt1 10 (.slice Axa1 Axn1 Axc1) Axd1) rfl
  simp only [val] at x0_1
  have x0_2 := HX6_0.out.at 2 (D.str as2) rfl
  simp only [val] at x0_2
  have x0_3 := HX6_0.out.at 3 (D.int an3) rfl
  simp only [val] at x0_3
  have x0_4 := HX6_0.out.at 4 (D.bool ax4) rfl
  simp only [val] at x0_4
  have x0_5 := HX6_0.out.at 5 (D.int an5) rfl
  simp only [val] at x0_5
  have x0_6 := HX6_0.out.at 6 (D.int an6) rfl
  simp only [val] at x0_6
  have x0_7 := HX6_0.out.at 7 (D.int an7) rfl
  simp only [val] at x0_7
  have x0_8 := HX6_0.out.at 8 (D.str as8) rfl
  simp only [val] at x0_8
  have x0_9 := HX6_0.out.at 9 (D.int an9) rfl
  simp only [val] at x0_9
  have x0_10 := HX6_0.out.at 10 (D.int an10) rfl
  simp only [val] at x0_10
  have x0_11 := HX6_0.out.at 11 (D.row Axt11 5 (.slice Axa11 Axn11 Axc11) Axd11) rfl
  simp only [val] at x0_11
  have HH0 : Hid (Holdss 0 y30 [D.row Axt0 3 (.slice Axa0 Axn0 Axc0) Axd0, D.row Axt1 10 (.slice Axa1 Axn1 Axc1) Axd1, D.str as2, D.int an3, D.bool ax4, D.int an5, D.int an6, D.int an7, D.str as8, D.int an9, D.int an10, D.row Axt11 5 (.slice Axa11 Axn11 Axc11) Axd11]) := Lib.hid (HO6.out.holds)
  go_wp2_with fail
  go_region_held3 (fun w' => w'.cell? ⟨w.heap.size, 0, none⟩ = some av0 ∧ w'.cell? ⟨w.heap.size, 1, none⟩ = some av1 ∧ w'.cell? ⟨w.heap.size, 2, none⟩ = some (Value.string as2) ∧ w'.cell? ⟨w.heap.size, 3, none⟩ = some (Value.int .i64 an3) ∧ w'.cell? ⟨w.heap.size, 4, none⟩ = some (Value.bool ax4) ∧ w'.cell? ⟨w.heap.size, 5, none⟩ = some (Value.int .i64 an5) ∧ w'.cell? ⟨w.heap.size, 6, none⟩ = some (Value.int .i64 an6) ∧ w'.cell? ⟨w.heap.size, 7, none⟩ = some (Value.int .i64 an7) ∧ w'.cell? ⟨w.heap.size, 8, none⟩ = some (Value.string as8) ∧ w'.cell? ⟨w.heap.size, 9, none⟩ = some (Value.int .i64 an9) ∧ w'.cell? ⟨w.heap.size, 10, none⟩ = some (Value.int .i64 an10) ∧ w'.cell? ⟨w.heap.size, 11, none⟩ = some av11 ∧ w'.cell? ⟨gx0, 0, none⟩ = some (.slice Axa0 Axn0 Axc0) ∧ w'.cell? ⟨gx0, 1, none⟩ = some (.slice Axa1 Axn1 Axc1) ∧ w'.cell? ⟨gx0, 2, none⟩ = some (Value.string as2) ∧ w'.cell? ⟨gx0, 3, none⟩ = some (Value.int .i64 an3) ∧ w'.cell? ⟨gx0, 4, none⟩ = some (Value.bool ax4) ∧ w'.cell? ⟨gx0, 5, none⟩ = some (Value.int .i64 an5) ∧ w'.cell? ⟨gx0, 6, none⟩ = some (Value.int .i64 an6) ∧ w'.cell? ⟨gx0, 7, none⟩ = some (Value.int .i64 an7) ∧ w'.cell? ⟨gx0, 8, none⟩ = some (Value.string as8) ∧ w'.cell? ⟨gx0, 9, none⟩ = some (Value.int .i64 an9) ∧ w'.cell? ⟨gx0, 10, none⟩ = some (Value.int .i64 an10) ∧ w'.cell? ⟨gx0, 11, none⟩ = some (.slice Axa11 Axn11 Axc11))
    (first | exact ⟨(cell_keep hb1 (cell_keep hb0 (show y30.drew.cell? _ = _ from c0_0))), (cell_keep hb1 (cell_keep hb0 (show y30.drew.cell? _ = _ from c0_1))), (cell_keep hb1 (cell_keep hb0 (show y30.drew.cell? _ = _ from c0_2))), (cell_keep hb1 (cell_keep hb0 (show y30.drew.cell? _ = _ from c0_3))), (cell_keep hb1 (cell_keep hb0 (show y30.drew.cell? _ = _ from c0_4))), (cell_keep hb1 (cell_keep hb0 (show y30.drew.cell? _ = _ from c0_5))), (cell_keep hb1 (cell_keep hb0 (show y30.drew.cell? _ = _ from c0_6))), (cell_keep hb1 (cell_keep hb0 (show y30.drew.cell? _ = _ from c0_7))), (cell_keep hb1 (cell_keep hb0 (show y30.drew.cell? _ = _ from c0_8))), (cell_keep hb1 (cell_keep hb0 (show y30.drew.cell? _ = _ from c0_9))), (cell_keep hb1 (cell_keep hb0 (show y30.drew.cell? _ = _ from c0_10))), (cell_keep hb1 (cell_keep hb0 (show y30.drew.cell? _ = _ from c0_11))), (cell_keep hb1 (cell_keep hb0 (show y30.drew.cell? _ = _ from x0_0))), (cell_keep hb1 (cell_keep hb0 (show y30.drew.cell? _ = _ from x0_1))), (cell_keep hb1 (cell_keep hb0 (show y30.drew.cell? _ = _ from x0_2))), (cell_keep hb1 (cell_keep hb0 (show y30.drew.cell? _ = _ from x0_3))), (cell_keep hb1 (cell_keep hb0 (show y30.drew.cell? _ = _ from x0_4))), (cell_keep hb1 (cell_keep hb0 (show y30.drew.cell? _ = _ from x0_5))), (cell_keep hb1 (cell_keep hb0 (show y30.drew.cell? _ = _ from x0_6))), (cell_keep hb1 (cell_keep hb0 (show y30.drew.cell? _ = _ from x0_7))), (cell_keep hb1 (cell_keep hb0 (show y30.drew.cell? _ = _ from x0_8))), (cell_keep hb1 (cell_keep hb0 (show y30.drew.cell? _ = _ from x0_9))), (cell_keep hb1 (cell_keep hb0 (show y30.drew.cell? _ = _ from x0_10))), (cell_keep hb1 (cell_keep hb0 (show y30.drew.cell? _ = _ from x0_11)))⟩ | exact ⟨(cell_keep hb0 (show y30.drew.cell? _ = _ from c0_0)), (cell_keep hb0 (show y30.drew.cell? _ = _ from c0_1)), (cell_keep hb0 (show y30.drew.cell? _ = _ from c0_2)), (cell_keep hb0 (show y30.drew.cell? _ = _ from c0_3)), (cell_keep hb0 (show y30.drew.cell? _ = _ from c0_4)), (cell_keep hb0 (show y30.drew.cell? _ = _ from c0_5)), (cell_keep hb0 (show y30.drew.cell? _ = _ from c0_6)), (cell_keep hb0 (show y30.drew.cell? _ = _ from c0_7)), (cell_keep hb0 (show y30.drew.cell? _ = _ from c0_8)), (cell_keep hb0 (show y30.drew.cell? _ = _ from c0_9)), (cell_keep hb0 (show y30.drew.cell? _ = _ from c0_10)), (cell_keep hb0 (show y30.drew.cell? _ = _ from c0_11)), (cell_keep hb0 (show y30.drew.cell? _ = _ from x0_0)), (cell_keep hb0 (show y30.drew.cell? _ = _ from x0_1)), (cell_keep hb0 (show y30.drew.cell? _ = _ from x0_2)), (cell_keep hb0 (show y30.drew.cell? _ = _ from x0_3)), (cell_keep hb0 (show y30.drew.cell? _ = _ from x0_4)), (cell_keep hb0 (show y30.drew.cell? _ = _ from x0_5)), (cell_keep hb0 (show y30.drew.cell? _ = _ from x0_6)), (cell_keep hb0 (show y30.drew.cell? _ = _ from x0_7)), (cell_keep hb0 (show y30.drew.cell? _ = _ from x0_8)), (cell_keep hb0 (show y30.drew.cell? _ = _ from x0_9)), (cell_keep hb0 (show y30.drew.cell? _ = _ from x0_10)), (cell_keep hb0 (show y30.drew.cell? _ = _ from x0_11))⟩ | exact ⟨c0_0, c0_1, c0_2, c0_3, c0_4, c0_5, c0_6, c0_7, c0_8, c0_9, c0_10, c0_11, x0_0, x0_1, x0_2, x0_3, x0_4, x0_5, x0_6, x0_7, x0_8, x0_9, x0_10, x0_11⟩ | go_keep)
    (first
      | (go_at_call 6; refine (KT0 _ (HB6.out.drew)).out.mono ?_; rintro e y40 ⟨es, rfl, he, ho, hb0⟩)
      | (go_at_call 8; refine (eq_System 0 _ _ [D.row Axt0 3 (.slice Axa0 Axn0 Axc0) Axd0, D.row Axt1 10 (.slice Axa1 Axn1 Axc1) Axd1, D.str as2, D.int an3, D.bool ax4, D.int an5, D.int an6, D.int an7, D.str as8, D.int an9, D.int an10, D.row Axt11 5 (.slice Axa11 Axn11 Axc11) Axd11] es (HEX0.out.trans he.symm) (HEX0.out ▸ HFa.out) ((HH0.out.below (w' := y30.drew) ((Below.refl _ _).drew)).below hb0) ho.holds).mono ?_; rintro e y50 ⟨rfl, hb1⟩))
  have hbb : Below y30.heap.size y30 y50 := by
    have h := (Below.refl y30.heap.size y30).drew
    have h := h.trans (hb0.mono h.size)
    exact h.trans (hb1.mono h.size)
  clear c0_0 c0_1 c0_2 c0_3 c0_4 c0_5 c0_6 c0_7 c0_8 c0_9 c0_10 c0_11 x0_0 x0_1 x0_2 x0_3 x0_4 x0_5 x0_6 x0_7 x0_8 x0_9 x0_10 x0_11 hb0 hb1 ho he HH0
  have HB7 := Lib.hid ((HB6.out).trans (hbb.mono HB6.out.size))
  have HC7_0 := Lib.hid (HC6_0.out.step hbb)
  have HX7_0 := Lib.hid (HX6_0.out.step hbb)
  have HO7 := Lib.hid (HO6.out.below hbb)
  clear HB6 HC6_0 HX6_0 HO6 hbb
  go_wp2_with fail
  go_ret
  exact ⟨rfl, HB7.out⟩
end Go.Proofs.YtekeondbbikkpaaGreat.fnExactIsSystemW
