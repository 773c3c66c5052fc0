/-
  impl's tables of messages.
-/
import Derived.Test.YtkmclgofghaeoaaBSMap
import Derived.Test.YtkmclgofghaeoaaBSpecBasA
namespace Go.Proofs.Ytkmclgofghaeoaa.ImplBas
open Go.RowKit
open Strs Sto Bas SpecBas SMap Chk Go.MapKept
set_option linter.unusedVariables false
def opVal (needs : Int) (f : FuncId) : Value := .agg #[.int .i64 needs, .func (.func f) #[] #[]]
def mpOf : List (E × FuncId) → ByteArray → Option Value
  | [], _ => none
  | e :: es, k => if k = e.1.name then some (opVal e.1.needs e.2) else mpOf es k
def seekT : List (E × FuncId) → ByteArray → Option (E × FuncId)
  | [], _ => none
  | e :: es, k => if k = e.1.name then some e else seekT es k
theorem mp_seek : ∀ (L : List (E × FuncId)) (k : ByteArray), mpOf L k = (seekT L k).map fun e => opVal e.1.needs e.2
  | [], _ => rfl
  | e :: es, k => by
    unfold mpOf seekT
    split
    · rfl
    · exact mp_seek es k
theorem seek_seek : ∀ (L : List (E × FuncId)) (k : ByteArray), seekE (L.map (·.1)) k = (seekT L k).map (·.1)
  | [], _ => rfl
  | e :: es, k => by
    rw [List.map_cons]
    unfold seekE seekT
    split
    · rfl
    · exact seek_seek es k
theorem seek_mem : ∀ {L : List (E × FuncId)} {k : ByteArray} {p : E × FuncId}, seekT L k = some p → p ∈ L
  | [], _, _, h => by cases h
  | e :: es, k, p, h => by
    unfold seekT at h
    split at h
    · cases h; exact List.mem_cons_self ..
    · exact List.mem_cons_of_mem _ (seek_mem h)
def zeroOp : Value := .agg #[.int .i64 0, .nilFunc]
theorem zeroOp_is (w : World) : (zeroValue 51).run Try.prog w = .ok zeroOp w := by kernel_rfl
theorem lawOp (w : World) : Law2 Try.prog Value.string 53 9 51 zeroOp w := law_str Try.underlying53 Try.underlying9 (zeroOp_is w)
def boolT : List (E × FuncId) := List.zip boolOps [61, 58]
theorem boolT_ops : boolT.map (·.1) = boolOps := rfl
set_option maxRecDepth 10000 in
set_option maxHeartbeats 4000000 in
theorem bools_any (w : World) : Calls Try.prog 41 #[] w fun e w' => e = .returned (.map (some w.heap.size)) ∧ Mp Value.string w' w.heap.size (mpOf boolT) ∧ Below w.heap.size w w' := by
  have HM0 := Lib.hid (mp_new (enc := Value.string) w)
  have HB0 : Hid (But w.heap.size (w.alloc (.map #[] 0)) (w.alloc (.map #[] 0))) := Lib.hid (But.refl _ _)
  have h0 : w.heap.size ≤ (w.alloc (.map #[] 0)).heap.size := by simp
  have HW : Hid (Below w.heap.size w (w.alloc (.map #[] 0))) := Lib.hid ((Below.refl _ _).alloc (Nat.le_refl _) _)
  have HZ := Lib.hid h0
  clear h0
  have hmm := @run_makeMap Try.prog
  have L := fun w => Lib.hid (lawOp w)
  go_enter Try.func41, Try.ntmps41
  go_wp2_with (refine wp_store2 rfl _ _ _ _ (.inr rfl) _ _ (L _).out HM0.out ⟨#[110, 111, 116]⟩ (opVal 0 58) rfl rfl rfl ?_)
  intro w1 hm hb
  have HM1 := Lib.hid hm
  have HB1 := Lib.hid (HB0.out.trans hb)
  clear hm hb HM0 HB0
  go_wp2_with (refine wp_store2 rfl _ _ _ _ (.inr rfl) _ _ (L _).out HM1.out ⟨#[38]⟩ (opVal 1 61) rfl rfl rfl ?_)
  intro w2 hm hb
  have HM2 := Lib.hid hm
  have HB2 := Lib.hid (HB1.out.trans hb)
  clear hm hb HM1 HB1
  go_wp2_with fail
  go_ret
  exact ⟨rfl, HM2.out.cast fun k => rfl, HW.out.trans (HB2.out.below (Nat.le_refl _) HZ.out)⟩
def intT : List (E × FuncId) := List.zip intOps [76, 75, 74, 72, 71, 70, 69, 68, 67, 66, 65, 64, 62]
theorem intT_ops : intT.map (·.1) = intOps := rfl
set_option maxRecDepth 10000 in
set_option maxHeartbeats 4000000 in
theorem ints_any (w : World) : Calls Try.prog 42 #[] w fun e w' => e = .returned (.map (some w.heap.size)) ∧ Mp Value.string w' w.heap.size (mpOf intT) ∧ Below w.heap.size w w' := by
  have HM0 := Lib.hid (mp_new (enc := Value.string) w)
  have HB0 : Hid (But w.heap.size (w.alloc (.map #[] 0)) (w.alloc (.map #[] 0))) := Lib.hid (But.refl _ _)
  have h0 : w.heap.size ≤ (w.alloc (.map #[] 0)).heap.size := by simp
  have HW : Hid (Below w.heap.size w (w.alloc (.map #[] 0))) := Lib.hid ((Below.refl _ _).alloc (Nat.le_refl _) _)
  have HZ := Lib.hid h0
  clear h0
  have hmm := @run_makeMap Try.prog
  have L := fun w => Lib.hid (lawOp w)
  go_enter Try.func42, Try.ntmps42
  go_wp2_with (refine wp_store2 rfl _ _ _ _ (.inr rfl) _ _ (L _).out HM0.out ⟨#[43]⟩ (opVal 2 62) rfl rfl rfl ?_)
  intro w1 hm hb
  have HM1 := Lib.hid hm
  have HB1 := Lib.hid (HB0.out.trans hb)
  clear hm hb HM0 HB0
  go_wp2_with (refine wp_store2 rfl _ _ _ _ (.inr rfl) _ _ (L _).out HM1.out ⟨#[45]⟩ (opVal 2 64) rfl rfl rfl ?_)
  intro w2 hm hb
  have HM2 := Lib.hid hm
  have HB2 := Lib.hid (HB1.out.trans hb)
  clear hm hb HM1 HB1
  go_wp2_with (refine wp_store2 rfl _ _ _ _ (.inr rfl) _ _ (L _).out HM2.out ⟨#[42]⟩ (opVal 2 65) rfl rfl rfl ?_)
  intro w3 hm hb
  have HM3 := Lib.hid hm
  have HB3 := Lib.hid (HB2.out.trans hb)
  clear hm hb HM2 HB2
  go_wp2_with (refine wp_store2 rfl _ _ _ _ (.inr rfl) _ _ (L _).out HM3.out ⟨#[47, 47]⟩ (opVal 2 66) rfl rfl rfl ?_)
  intro w4 hm hb
  have HM4 := Lib.hid hm
  have HB4 := Lib.hid (HB3.out.trans hb)
  clear hm hb HM3 HB3
  go_wp2_with (refine wp_store2 rfl _ _ _ _ (.inr rfl) _ _ (L _).out HM4.out ⟨#[92, 92]⟩ (opVal 2 67) rfl rfl rfl ?_)
  intro w5 hm hb
  have HM5 := Lib.hid hm
  have HB5 := Lib.hid (HB4.out.trans hb)
  clear hm hb HM4 HB4
  go_wp2_with (refine wp_store2 rfl _ _ _ _ (.inr rfl) _ _ (L _).out HM5.out ⟨#[60]⟩ (opVal 2 68) rfl rfl rfl ?_)
  intro w6 hm hb
  have HM6 := Lib.hid hm
  have HB6 := Lib.hid (HB5.out.trans hb)
  clear hm hb HM5 HB5
  go_wp2_with (refine wp_store2 rfl _ _ _ _ (.inr rfl) _ _ (L _).out HM6.out ⟨#[62]⟩ (opVal 2 69) rfl rfl rfl ?_)
  intro w7 hm hb
  have HM7 := Lib.hid hm
  have HB7 := Lib.hid (HB6.out.trans hb)
  clear hm hb HM6 HB6
  go_wp2_with (refine wp_store2 rfl _ _ _ _ (.inr rfl) _ _ (L _).out HM7.out ⟨#[60, 61]⟩ (opVal 2 70) rfl rfl rfl ?_)
  intro w8 hm hb
  have HM8 := Lib.hid hm
  have HB8 := Lib.hid (HB7.out.trans hb)
  clear hm hb HM7 HB7
  go_wp2_with (refine wp_store2 rfl _ _ _ _ (.inr rfl) _ _ (L _).out HM8.out ⟨#[62, 61]⟩ (opVal 2 71) rfl rfl rfl ?_)
  intro w9 hm hb
  have HM9 := Lib.hid hm
  have HB9 := Lib.hid (HB8.out.trans hb)
  clear hm hb HM8 HB8
  go_wp2_with (refine wp_store2 rfl _ _ _ _ (.inr rfl) _ _ (L _).out HM9.out ⟨#[109, 97, 120, 58]⟩ (opVal 2 72) rfl rfl rfl ?_)
  intro w10 hm hb
  have HM10 := Lib.hid hm
  have HB10 := Lib.hid (HB9.out.trans hb)
  clear hm hb HM9 HB9
  go_wp2_with (refine wp_store2 rfl _ _ _ _ (.inr rfl) _ _ (L _).out HM10.out ⟨#[109, 105, 110, 58]⟩ (opVal 2 74) rfl rfl rfl ?_)
  intro w11 hm hb
  have HM11 := Lib.hid hm
  have HB11 := Lib.hid (HB10.out.trans hb)
  clear hm hb HM10 HB10
  go_wp2_with (refine wp_store2 rfl _ _ _ _ (.inr rfl) _ _ (L _).out HM11.out ⟨#[110, 101, 103, 97, 116, 101, 100]⟩ (opVal 0 75) rfl rfl rfl ?_)
  intro w12 hm hb
  have HM12 := Lib.hid hm
  have HB12 := Lib.hid (HB11.out.trans hb)
  clear hm hb HM11 HB11
  go_wp2_with (refine wp_store2 rfl _ _ _ _ (.inr rfl) _ _ (L _).out HM12.out ⟨#[97, 98, 115]⟩ (opVal 0 76) rfl rfl rfl ?_)
  intro w13 hm hb
  have HM13 := Lib.hid hm
  have HB13 := Lib.hid (HB12.out.trans hb)
  clear hm hb HM12 HB12
  go_wp2_with fail
  go_ret
  exact ⟨rfl, HM13.out.cast fun k => rfl, HW.out.trans (HB13.out.below (Nat.le_refl _) HZ.out)⟩
def textT : List (E × FuncId) := List.zip textOps [82, 81, 80, 79, 78, 77]
theorem textT_ops : textT.map (·.1) = textOps := rfl
set_option maxRecDepth 10000 in
set_option maxHeartbeats 4000000 in
theorem texts_any (w : World) : Calls Try.prog 43 #[] w fun e w' => e = .returned (.map (some w.heap.size)) ∧ Mp Value.string w' w.heap.size (mpOf textT) ∧ Below w.heap.size w w' := by
  have HM0 := Lib.hid (mp_new (enc := Value.string) w)
  have HB0 : Hid (But w.heap.size (w.alloc (.map #[] 0)) (w.alloc (.map #[] 0))) := Lib.hid (But.refl _ _)
  have h0 : w.heap.size ≤ (w.alloc (.map #[] 0)).heap.size := by simp
  have HW : Hid (Below w.heap.size w (w.alloc (.map #[] 0))) := Lib.hid ((Below.refl _ _).alloc (Nat.le_refl _) _)
  have HZ := Lib.hid h0
  clear h0
  have hmm := @run_makeMap Try.prog
  have L := fun w => Lib.hid (lawOp w)
  go_enter Try.func43, Try.ntmps43
  go_wp2_with (refine wp_store2 rfl _ _ _ _ (.inr rfl) _ _ (L _).out HM0.out ⟨#[115, 105, 122, 101]⟩ (opVal 0 77) rfl rfl rfl ?_)
  intro w1 hm hb
  have HM1 := Lib.hid hm
  have HB1 := Lib.hid (HB0.out.trans hb)
  clear hm hb HM0 HB0
  go_wp2_with (refine wp_store2 rfl _ _ _ _ (.inr rfl) _ _ (L _).out HM1.out ⟨#[44]⟩ (opVal 3 78) rfl rfl rfl ?_)
  intro w2 hm hb
  have HM2 := Lib.hid hm
  have HB2 := Lib.hid (HB1.out.trans hb)
  clear hm hb HM1 HB1
  go_wp2_with (refine wp_store2 rfl _ _ _ _ (.inr rfl) _ _ (L _).out HM2.out ⟨#[60]⟩ (opVal 3 79) rfl rfl rfl ?_)
  intro w3 hm hb
  have HM3 := Lib.hid hm
  have HB3 := Lib.hid (HB2.out.trans hb)
  clear hm hb HM2 HB2
  go_wp2_with (refine wp_store2 rfl _ _ _ _ (.inr rfl) _ _ (L _).out HM3.out ⟨#[97, 116, 58]⟩ (opVal 0 80) rfl rfl rfl ?_)
  intro w4 hm hb
  have HM4 := Lib.hid hm
  have HB4 := Lib.hid (HB3.out.trans hb)
  clear hm hb HM3 HB3
  go_wp2_with (refine wp_store2 rfl _ _ _ _ (.inr rfl) _ _ (L _).out HM4.out ⟨#[97, 115, 83, 121, 109, 98, 111, 108]⟩ (opVal 0 81) rfl rfl rfl ?_)
  intro w5 hm hb
  have HM5 := Lib.hid hm
  have HB5 := Lib.hid (HB4.out.trans hb)
  clear hm hb HM4 HB4
  go_wp2_with (refine wp_store2 rfl _ _ _ _ (.inr rfl) _ _ (L _).out HM5.out ⟨#[97, 115, 73, 110, 116, 101, 103, 101, 114]⟩ (opVal 0 82) rfl rfl rfl ?_)
  intro w6 hm hb
  have HM6 := Lib.hid hm
  have HB6 := Lib.hid (HB5.out.trans hb)
  clear hm hb HM5 HB5
  go_wp2_with fail
  go_ret
  exact ⟨rfl, HM6.out.cast fun k => rfl, HW.out.trans (HB6.out.below (Nat.le_refl _) HZ.out)⟩
def symT : List (E × FuncId) := List.zip symOps [83]
theorem symT_ops : symT.map (·.1) = symOps := rfl
set_option maxRecDepth 10000 in
set_option maxHeartbeats 4000000 in
theorem syms_any (w : World) : Calls Try.prog 44 #[] w fun e w' => e = .returned (.map (some w.heap.size)) ∧ Mp Value.string w' w.heap.size (mpOf symT) ∧ Below w.heap.size w w' := by
  have HM0 := Lib.hid (mp_new (enc := Value.string) w)
  have HB0 : Hid (But w.heap.size (w.alloc (.map #[] 0)) (w.alloc (.map #[] 0))) := Lib.hid (But.refl _ _)
  have h0 : w.heap.size ≤ (w.alloc (.map #[] 0)).heap.size := by simp
  have HW : Hid (Below w.heap.size w (w.alloc (.map #[] 0))) := Lib.hid ((Below.refl _ _).alloc (Nat.le_refl _) _)
  have HZ := Lib.hid h0
  clear h0
  have hmm := @run_makeMap Try.prog
  have L := fun w => Lib.hid (lawOp w)
  go_enter Try.func44, Try.ntmps44
  go_wp2_with (refine wp_store2 rfl _ _ _ _ (.inr rfl) _ _ (L _).out HM0.out ⟨#[97, 115, 83, 116, 114, 105, 110, 103]⟩ (opVal 0 83) rfl rfl rfl ?_)
  intro w1 hm hb
  have HM1 := Lib.hid hm
  have HB1 := Lib.hid (HB0.out.trans hb)
  clear hm hb HM0 HB0
  go_wp2_with fail
  go_ret
  exact ⟨rfl, HM1.out.cast fun k => rfl, HW.out.trans (HB1.out.below (Nat.le_refl _) HZ.out)⟩
def tabOf (k : Int) : List (E × FuncId) := if k = 1 then boolT else if k = 2 then intT else if k = 3 then textT else if k = 4 then symT else []
theorem tab_ops (k : Int) : (tabOf k).map (·.1) = opsOf k := by
  unfold tabOf opsOf
  split
  · rfl
  split
  · rfl
  split
  · rfl
  split
  · rfl
  · rfl
theorem nil_look (s : ByteArray) (w : World) : (Instr.lookup 53 (.map none) (.string s) true).run Try.prog w = .ok (.tuple #[zeroOp, .bool false]) w := by
  have hc : ∀ em, (Instr.checkKey em 10000 9 (.string s)).run Try.prog w = .ok () w := fun em => (lawOp w).check em s
  have hf : (Instr.findKey 9 (.string s) []).run Try.prog w = .ok none w := (lawOp w).find s [] [] rfl
  simp [Instr.lookup, run_underlying (lawOp w).map, hc, hf]
  rfl
def Table (k : Int) (r : Value) (w w' : World) : Prop := (∀ w2, Below w'.heap.size w' w2 → ∀ s, (Instr.lookup 53 r (.string s) true).run Try.prog w2 = .ok (.tuple #[((mpOf (tabOf k)) s).getD zeroOp, .bool ((mpOf (tabOf k)) s).isSome]) w2) ∧ Below w.heap.size w w'
theorem table_of {k : Int} {w w' : World} {L : List (E × FuncId)} (h : Mp Value.string w' w.heap.size (mpOf L)) (hb : Below w.heap.size w w') (hL : tabOf k = L) : Table k (.map (some w.heap.size)) w w' :=
  ⟨fun w2 hb2 s => by
    rw [hL]
    have := (h.step hb2).look (lawOp w2) s true
    simpa using this, hb⟩
set_option maxHeartbeats 2000000 in
theorem tables_any (k : Int) (w : World) : Calls Try.prog 19 #[.int .i64 k] w fun e w' => ∃ r, e = .returned r ∧ Table k r w w' := by
  by_cases h1 : k = 1
  · have z := (SpecBas.eq_yes h1).1
    have HL : Hid (tabOf k = boolT) := Lib.hid (by rw [h1]; rfl)
    clear h1
    go_enter Try.func19, Try.ntmps19
    go_wp2_with fail
    refine (bools_any w).mono ?_
    rintro e w1 ⟨rfl, hm, hb⟩
    have HT := Lib.hid (table_of hm hb HL.out)
    clear hm hb
    go_wp2_with fail
    go_ret
    exact ⟨_, rfl, HT.out⟩
  have z1 := (SpecBas.eq_no h1).1
  by_cases h2 : k = 2
  · have z := (SpecBas.eq_yes h2).1
    have HL : Hid (tabOf k = intT) := Lib.hid (by rw [h2]; rfl)
    clear h1 h2
    go_enter Try.func19, Try.ntmps19
    go_wp2_with fail
    refine (ints_any w).mono ?_
    rintro e w1 ⟨rfl, hm, hb⟩
    have HT := Lib.hid (table_of hm hb HL.out)
    clear hm hb
    go_wp2_with fail
    go_ret
    exact ⟨_, rfl, HT.out⟩
  have z2 := (SpecBas.eq_no h2).1
  by_cases h3 : k = 3
  · have z := (SpecBas.eq_yes h3).1
    have HL : Hid (tabOf k = textT) := Lib.hid (by rw [h3]; rfl)
    clear h1 h2 h3
    go_enter Try.func19, Try.ntmps19
    go_wp2_with fail
    refine (texts_any w).mono ?_
    rintro e w1 ⟨rfl, hm, hb⟩
    have HT := Lib.hid (table_of hm hb HL.out)
    clear hm hb
    go_wp2_with fail
    go_ret
    exact ⟨_, rfl, HT.out⟩
  have z3 := (SpecBas.eq_no h3).1
  by_cases h4 : k = 4
  · have z := (SpecBas.eq_yes h4).1
    have HL : Hid (tabOf k = symT) := Lib.hid (by rw [h4]; rfl)
    clear h1 h2 h3 h4
    go_enter Try.func19, Try.ntmps19
    go_wp2_with fail
    refine (syms_any w).mono ?_
    rintro e w1 ⟨rfl, hm, hb⟩
    have HT := Lib.hid (table_of hm hb HL.out)
    clear hm hb
    go_wp2_with fail
    go_ret
    exact ⟨_, rfl, HT.out⟩
  have z4 := (SpecBas.eq_no h4).1
  have HT : Hid (Table k (.map none) w w) := Lib.hid ⟨fun w2 _ s => by
    rw [show tabOf k = [] by unfold tabOf; rw [if_neg h1, if_neg h2, if_neg h3, if_neg h4]]
    exact nil_look s w2, Below.refl _ _⟩
  clear h1 h2 h3 h4
  go_enter Try.func19, Try.ntmps19
  go_wp2_with fail
  go_ret
  exact ⟨_, rfl, HT.out⟩
end Go.Proofs.Ytkmclgofghaeoaa.ImplBas
