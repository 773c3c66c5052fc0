/-
  SpecFlds SpecMethP
-/
import Derived.Test.YtnlgdkfenipmfaaGreatDoorB24
import Derived.Test.YtnlgdkfenipmfaaGreatDoorB23
import Derived.Deep.RegionLaw
namespace Go.Proofs.YtnlgdkfenipmfaaGreatDoor
namespace SpecChk
open Go.RowKit
open Strs Tree Go.Proofs.YtnlgdkfenipmfaaGreatDoor.Data Chk
theorem zao (w : World) (k : Nat) : Below w.heap.size w (w.drewN k) := ⟨rfl, rfl, rfl, zL _, fun _ _ => rfl⟩
theorem own_mono {w : World} {base base' : Nat} {e : TypeId} {size : Nat} {v : Value} {n : Nat} {xs : List Value} (h : w.ownsRow base e size v n xs) (hb : base' <= base) : w.ownsRow base' e size v n xs := own_base h fun b hb' => Nat.le_trans hb (own_blk h b hb').1
theorem step_append_texts {w : World} {ops : Array Oper} {o : Oper} {a : Act} {K : Act -> World -> Prop} {Q : Exit -> Act -> World -> Prop} {E : Prop} (hgd : o.guard = none) (s x : Operand)
    (ho : o.op = .call { callee := .builtin .append, args := #[s, x], argTypes := #[25, 25] })
    (base : Nat) (v : Value) (xs : List ByteArray) (hs : a.eval s = v) (hown : w.ownsRow base 9 1 v xs.length (xs.map Value.string))
    (vy : Value) (ys : List ByteArray) (lo : Nat) (hx : a.eval x = vy) (hy : Texts lo w ys vy) (hf : Formed vy ys.length) (hbytes : xs.length + ys.length <= 4398046511104) (hbase : base <= w.heap.size)
    (h : ∀ v' w', w'.ownsRow base 9 1 v' (xs ++ ys).length ((xs ++ ys).map Value.string) -> Below base w w' -> K (a.put o.dst v') w') :
    if Region.wanted o (yielded ops a.tmps) = true then Oper.wp Tryz.prog o a w K Q else E := by
  have hw : Region.wanted o (yielded ops a.tmps) = true := by simp [Region.wanted, hgd]
  rw [if_pos hw]
  obtain ⟨i0, hi, hz0, hz1, hz2⟩ := info_parts infoTx
  rcases hf with ⟨rfl, hn⟩ | ⟨b, of, c, rfl⟩
  · have hy0 : ys = [] := List.eq_nil_of_length_eq_zero hn
    subst hy0
    have hr := run_append_owned_none (P := Tryz.prog) (w := w) base 25 o.type 9 i0 1 Tryz.underlying25 hi v xs.length _ hown
    unfold Oper.wp execOp
    simp only [ho, resolve, invoke, builtin, Sem.run_bind, Sem.run_pure, Result.andThen_ok, List.map_toArray, List.map_cons, List.map_nil, hs, hx, hr]
    exact h v w (by rw [List.append_nil]; exact hown) (zB _ _)
  · obtain ⟨a', cap, he, hm, hsz, hc⟩ := hy
    cases he
    obtain ⟨v', w', hr, h2, h3, -⟩ := run_append_own_at (P := Tryz.prog) w base 25 o.type 9 i0 (.string ByteArray.empty) 1 16 Tryz.underlying25 hi hz0 hz1 hz2 rfl (by decide) v xs.length (xs.map Value.string) hown ⟨b, of, none⟩ ys.length c (ys.map Value.string) (by simp) (fun j u hj => by
      have hl := (List.getElem?_eq_some_iff.1 hj).1
      have hv := (List.getElem?_eq_some_iff.1 hj).2
      rw [List.length_map] at hl
      rw [List.getElem_map] at hv
      obtain ⟨b', o', e, -, hd⟩ := hc (by omega)
      cases e
      rw [add_at, hd j hl, hv]) (fun u hu => by
      obtain ⟨y, _, rfl⟩ := List.mem_map.1 hu
      rfl) (by unfold maxLen; omega) (by omega) hbase
    unfold Oper.wp execOp
    simp only [ho, resolve, invoke, builtin, Sem.run_bind, Sem.run_pure, Result.andThen_ok, List.map_toArray, List.map_cons, List.map_nil, hs, hx, hr]
    exact h v' w' (by rw [List.length_append, List.map_append]; exact h2) ((zB _ _).grown h3 hbase (fun k hk => (hown.lt k hk).1))
def flds (cs : List C) : Nat -> Int -> List ByteArray
  | 0, _ => []
  | f + 1, k => if k = 1 \/ k = 2 \/ k = 3 \/ k = 4 then [tText] else if k < 16 then [] else match cs[(k - 16).toNat]? with
    | some d => flds cs f (cls cs d.parent) ++ d.fields
    | none => []
def Down (cs : List C) : Prop := ∀ (i : Nat) (d : C), cs[i]? = some d -> cls cs d.parent < 16 + (i : Int)
theorem cls_ge (cs : List C) (n : ByteArray) : -1 <= cls cs n := by
  have h1 := index_lt Builtin.names n
  have h2 := index_lt (cnames cs) n
  unfold cls
  split
  · omega
  · split <;> omega
theorem flds_len (cs : List C) (hF : ∀ d, d ∈ cs -> d.fields.length <= 4) : ∀ f k, (flds cs f k).length <= 4 * f + 1 := by
  intro f
  induction f with
  | zero => intro k; simp [flds]
  | succ f ih =>
    intro k
    rw [flds]
    split
    · simp
    · split
      · simp
      · split
        · rename_i d hd
          have h1 := ih (cls cs d.parent)
          have h2 := hF d (List.mem_of_getElem? hd)
          rw [List.length_append]
          omega
        · simp
theorem flds_size (cs : List C) (B : Nat) (hB : 4 <= B) (hF : ∀ d, d ∈ cs -> ∀ x, x ∈ d.fields -> x.size <= B) : ∀ f k x, x ∈ flds cs f k -> x.size <= B := by
  intro f
  induction f with
  | zero => intro k x h; simp [flds] at h
  | succ f ih =>
    intro k x h
    rw [flds] at h
    split at h
    · simp at h; subst h; exact hB
    · split at h
      · simp at h
      · split at h
        · rename_i d hd
          rcases List.mem_append.1 h with h1 | h1
          · exact ih _ x h1
          · exact hF d (List.mem_of_getElem? hd) x h1
        · simp at h
def Fs (xs : List ByteArray) (w : World) (e : Ending) (w' : World) : Prop := ∃ v, e = .returned v /\ w'.ownsRow w.heap.size 9 1 v xs.length (xs.map Value.string) /\ Below w.heap.size w w'
set_option maxRecDepth 10000 in
set_option maxHeartbeats 4000000 in
theorem fields_small (cs : List C) (f : Nat) (k : Int) (hk : k < 16) (w : World) (U : Nat) :
    Calls Tryz.prog 105 #[.pointer (some ⟨U, 0, none⟩), .int .i64 k] w (Fs (flds cs (f + 1) k) w) := by
  by_cases h : k = 1 \/ k = 2 \/ k = 3 \/ k = 4
  · have hR : Hid (flds cs (f + 1) k = [tText]) := zH (by rw [flds, if_pos h])
    have hl : Hid (Fs (flds cs (f + 1) k) w (.returned (.slice (some ⟨w.heap.size, 0, none⟩) 1 1)) (w.alloc (.cells #[.string ⟨#[116, 101, 120, 116]⟩] 9))) := zH (by
      rw [hR.out]
      exact ⟨_, rfl, World.ownsRow_lit w _ 1 (zL _) (by unfold maxLen; omega) rfl, (zB _ _).alloc (zL _) _⟩)
    clear hR
    generalize flds cs (f + 1) k = R at *
    rcases h with rfl | rfl | rfl | rfl
    all_goals
      go_enter Tryz.func105, Tryz.ntmps105
      go_wp2_with fail
      go_ret
      exact hl.out
  · have hR : Hid (flds cs (f + 1) k = []) := zH (by rw [flds, if_neg h, if_pos hk])
    have hl : Hid (Fs (flds cs (f + 1) k) w (.returned (.slice (some ⟨w.heap.size, 0, none⟩) 0 0)) (w.alloc (.cells #[] 9))) := zH (by
      rw [hR.out]
      exact ⟨_, rfl, World.ownsRow_lit w _ 0 (zL _) (by unfold maxLen; omega) rfl, (zB _ _).alloc (zL _) _⟩)
    clear hR
    have t1 : (k == 1) = false := by rw [beq_eq_false_iff_ne]; omega
    have t2 : (k == 2) = false := by rw [beq_eq_false_iff_ne]; omega
    have t3 : (k == 3) = false := by rw [beq_eq_false_iff_ne]; omega
    have t4 : (k == 4) = false := by rw [beq_eq_false_iff_ne]; omega
    generalize flds cs (f + 1) k = R at *
    clear h
    go_enter Tryz.func105, Tryz.ntmps105
    go_wp2_with fail
    go_ret
    exact hl.out
set_option maxRecDepth 10000 in
set_option maxHeartbeats 8000000 in
theorem fields_any (cs : List C) (hN : cs.length <= 8) (hF : ∀ d, d ∈ cs -> d.fields.length <= 4) (hD : Down cs) : ∀ (m : Nat) (k : Int), -1 <= k -> k < 16 + (m : Int) -> m <= cs.length -> ∀ (w : World) (U : Nat), Un w U cs ->
    Calls Tryz.prog 105 #[.pointer (some ⟨U, 0, none⟩), .int .i64 k] w (Fs (flds cs (m + 1) k) w) := by
  intro m
  induction m with
  | zero => intro k _ h2 _ w U _; exact fields_small cs 0 k (by omega) w U
  | succ m ih =>
    intro k hk1 hk2 hm w U hu
    by_cases hk : k < 16
    · exact fields_small cs _ k hk w U
    obtain ⟨i, hi⟩ : ∃ i : Nat, (k - 16).toNat = i := ⟨_, rfl⟩
    have hil : i < cs.length := by omega
    obtain ⟨d, hd⟩ : ∃ d, cs[i]? = some d := ⟨_, List.getElem?_eq_getElem hil⟩
    have hR : Hid (flds cs (m + 1 + 1) k = flds cs (m + 1) (cls cs d.parent) ++ d.fields) := zH (by rw [flds, if_neg (by omega), if_neg hk, hi, hd])
    have hpl := hD i d hd
    have hpg := cls_ge cs d.parent
    have hfl := hF d (List.mem_of_getElem? hd)
    have hxl := flds_len cs hF (m + 1) (cls cs d.parent)
    obtain ⟨v, hcu, a, cap, rfl, ⟨hlc, hcm⟩, hc⟩ := id hu
    unfold maxLen at hcm
    obtain ⟨b, o, rfl, hcl⟩ := hc (by omega)
    obtain ⟨vf, vm, c0, c1, c2, c3, ht, hfm, hms⟩ := hcl i d hd
    obtain ⟨fa, fc, rfl, -⟩ := id ht
    obtain ⟨ma, mc, rfl, -⟩ := id hms
    have KC := fun (w' : World) (hb : Below w.heap.size w w') => zH (class_any U cs d.parent w' (hu.below hb) (by omega))
    have KF := fun (w' : World) (hb : Below w.heap.size w w') => zH (ih (cls cs d.parent) hpg (by omega) (by omega) w' U (hu.below hb))
    have HT := zH ht
    have HFM := zH hfm
    generalize flds cs (m + 1 + 1) k = R at *
    generalize flds cs (m + 1) (cls cs d.parent) = X at *
    generalize cls cs d.parent = y at *
    have HXL := zH hxl
    have HFL := zH hfl
    have HM8 : Hid (m + 1 <= 8) := zH (Nat.le_trans hm hN)
    clear hc hcl hms hu ih hd hF hD ht hfm hxl hfl hm hpl
    rw [<- hi] at c0 c1 c2 c3
    have hk16 : (0 : Int) <= k - 16 := by omega
    have hk17 : k - 16 < (cs.length : Int) := by omega
    clear hi
    have t1 : (k == 1) = false := by rw [beq_eq_false_iff_ne]; omega
    have t2 : (k == 2) = false := by rw [beq_eq_false_iff_ne]; omega
    have t3 : (k == 3) = false := by rw [beq_eq_false_iff_ne]; omega
    have t4 : (k == 4) = false := by rw [beq_eq_false_iff_ne]; omega
    generalize cs.length = N at *
    obtain ⟨W, hW⟩ : ∃ W, W = w.alloc (.cells #[.string d.name, .string d.parent, .slice fa d.fields.length fc, .slice ma d.methods.length mc] 65) := ⟨_, rfl⟩
    have hbW : Below w.heap.size w W := by rw [hW]; exact (zB _ _).alloc (zL _) _
    have e1 : W.cell? ⟨w.heap.size, 1, none⟩ = some (.string d.parent) := by rw [hW]; go_simp
    have e2 : W.cell? ⟨w.heap.size, 2, none⟩ = some (.slice fa d.fields.length fc) := by rw [hW]; go_simp
    have E1 := zH e1
    have E2 := zH e2
    have HBW := zH hbW
    have HW := zH hW
    clear e1 e2 hbW hW
    go_enter Tryz.func105, Tryz.ntmps105
    go_upto_region 6 with fail
    rw [<- HW.out]
    clear HW c0 c1 c2 c3 hcu
    have e1 := E1.out
    have e2 := E2.out
    have f1 : ∀ k, (W.drewN k).cell? ⟨w.heap.size, 1, none⟩ = some (.string d.parent) := fun k => cell_keep (zao W k) E1.out
    have f2 : ∀ k, (W.drewN k).cell? ⟨w.heap.size, 2, none⟩ = some (.slice fa d.fields.length fc) := fun k => cell_keep (zao W k) E2.out
    go_region_law
      (first
      | (unfold Oper.wp
         go_simp
         first | refine (KC _ HBW.out).out.mono ?_ | refine (KC _ (HBW.out.trans ((zao W _).mono HBW.out.size))).out.mono ?_
         rintro e wA ⟨rfl, hbA⟩
         have HBA : Hid (Below w.heap.size w wA) := zH (by first | exact HBW.out.trans (hbA.mono HBW.out.size) | exact (HBW.out.trans ((zao W _).mono HBW.out.size)).trans (hbA.mono HBW.out.size))
         have hEA : wA.cell? ⟨w.heap.size, 2, none⟩ = some (.slice fa d.fields.length fc) := by first | exact cell_keep hbA e2 | exact cell_keep hbA (f2 _)
         have p2 : ∀ k, (wA.drewN k).cell? ⟨w.heap.size, 2, none⟩ = some (.slice fa d.fields.length fc) := fun k => cell_keep (zao wA k) hEA
         clear hbA)
      | (unfold Oper.wp
         go_simp
         first | refine (KF _ HBA.out).out.mono ?_ | refine (KF _ (HBA.out.trans ((zao wA _).mono HBA.out.size))).out.mono ?_
         rintro e wF ⟨vF, rfl, hoF, hbF⟩
         have HBF : Hid (Below w.heap.size w wF) := zH (by first | exact HBA.out.trans (hbF.mono HBA.out.size) | exact (HBA.out.trans ((zao wA _).mono HBA.out.size)).trans (hbF.mono HBA.out.size))
         have hEF : wF.cell? ⟨w.heap.size, 2, none⟩ = some (.slice fa d.fields.length fc) := by first | exact cell_keep hbF hEA | exact cell_keep hbF (p2 _)
         have q2 : ∀ k, (wF.drewN k).cell? ⟨w.heap.size, 2, none⟩ = some (.slice fa d.fields.length fc) := fun k => cell_keep (zao wF k) hEF
         have HOF := zH (own_mono (base' := w.heap.size) hoF HBA.out.size)
         clear hbF hoF)
      | (refine step_append_texts rfl _ _ rfl w.heap.size vF X rfl (by first | exact HOF.out | exact own_keep HOF.out (zao wF _)) (.slice fa d.fields.length fc) d.fields 0 rfl (by first | exact HT.out.below HBF.out | exact HT.out.below (HBF.out.trans ((zao wF _).mono HBF.out.size))) HFM.out (by have := HXL.out; have := HFL.out; have := HM8.out; omega) HBF.out.size ?_
         intro vG wG hoG hbG
         have HOG := zH hoG
         have HBG : Hid (Below w.heap.size w wG) := zH (by first | exact HBF.out.trans hbG | exact (HBF.out.trans ((zao wF _).mono HBF.out.size)).trans hbG)
         clear hoG hbG))
    all_goals
      go_wp2_with fail
      go_ret
      exact ⟨vG, rfl, by rw [hR.out]; exact HOG.out, HBG.out⟩
end SpecChk
namespace SpecChk
open Go.RowKit
open Strs Tree Go.Proofs.YtnlgdkfenipmfaaGreatDoor.Data Chk
theorem expr_all (cs : List C) (own : Bool) (hN : cs.length <= 1048576) : ∀ e, ExOk cs own e := by
  have h : ∀ e, ExOk cs own e /\ ∀ x, x ∈ e.kids -> ExOk cs own x := by
    refine Tree.ind fun k t n ns ks ih => ?_
    have hk : ∀ x, x ∈ (E.mk k t n ns ks).kids -> ExOk cs own x := fun x hx => (ih x hx).1
    have hg : ∀ x, x ∈ (E.mk k t n ns ks).kids -> ∀ y, y ∈ x.kids -> ExOk cs own y := fun x hx => (ih x hx).2
    refine ⟨?_, hk⟩
    by_cases h4 : k = 4
    · exact expr_4 cs own hN _ hk hg h4
    · by_cases h5 : k = 5
      · exact expr_5 cs own hN _ hk hg h5
      · by_cases h8 : k = 8
        · exact expr_8 cs own hN _ hk hg h8
        · exact expr_0 cs own hN _ hk hg h4 h5 h8
  exact fun e => (h e).1
def seen (cs : List C) (owner : Int) (m : M) : List ByteArray := if 16 <= owner /\ m.cls = false then flds cs (cs.length + 1) owner else []
def methP (cs : List C) (owner : Int) (m : M) : ByteArray := chk (decide (16 <= owner)) (use cs [] [] (seen cs owner m)) (bodyE m)
theorem none_texts (w : World) : Texts 0 w [] (.slice none 0 0) := ⟨none, 0, rfl, ⟨zL _, by unfold maxLen; omega⟩, (fun x hx => by cases hx), fun h => by simp at h⟩
theorem none_formed : Formed (.slice none 0 0) 0 := .inl ⟨rfl, rfl⟩
theorem own_texts0 {w : World} {base : Nat} {v : Value} {xs : List ByteArray} (h : w.ownsRow base 9 1 v xs.length (xs.map Value.string)) (hs : ∀ x, x ∈ xs -> x.size <= maxLen) : Texts 0 w xs v := by
  have hr : Data.Row base w 9 1 v (strs xs) := strs_row h hs
  have ho := (Data.row_iff.2 hr).mono (base' := 0) (by omega)
  exact zav (t := 9) (xs := xs) (zaz.1 ho.holds (.row 9 1 v (strs xs)) (by simp))
set_option maxRecDepth 10000 in
set_option maxHeartbeats 8000000 in
theorem method_any (cs : List C) (hN : cs.length <= 8) (hF : ∀ d, d ∈ cs -> d.fields.length <= 4) (hFS : ∀ d, d ∈ cs -> ∀ x, x ∈ d.fields -> x.size <= 1048576) (hD : Down cs) (owner : Int) (ho : owner = -1 \/ (16 <= owner /\ owner < 16 + (cs.length : Int))) (m : M) (hwt : Tree.weight (bodyE m) <= 1048576) {w : World} {U : Nat} {v2 v3 v4 : Value} (hu : Un w U cs) (hm : MAt 0 w m v2 v3 v4) :
    Calls Tryz.prog 53 #[.pointer (some ⟨U, 0, none⟩), .int .i64 owner, .agg #[.string m.sel, .bool m.cls, v2, v3, v4]] w fun r w' => r = .returned (.string (methP cs owner m)) /\ Below w.heap.size w w' := by
  have hlm : m.params.length + m.temps.length <= 4398046511104 := by
    have h1 := bodyE_weight m
    rw [List.length_append] at h1
    omega
  obtain ⟨a2, c2, rfl, -⟩ := id hm.params
  obtain ⟨a3, c3, rfl, -⟩ := id hm.temps
  obtain ⟨a4, c4, rfl, -⟩ := id hm.body
  have HM := zH hm
  have HU := zH hu
  have HO := zH ho
  have KB := fun (w' : World) (hb : Below w.heap.size w w') => zH (body_any (HM.out.below hb) hlm)
  have KE := fun (own : Bool) (w' : World) (vf : Value) (fields : List ByteArray) (vn vk : Value) (hb : Below w.heap.size w w') (ht : Texts 0 w' fields vf) (hfm : Formed vf fields.length) (hn : NodeAt 0 w' (bodyE m) vn vk) => zH (expr_all cs own (by omega) (bodyE m) w' U (.slice none 0 0) (.slice none 0 0) vf vn vk [] [] fields (HU.out.below hb) (none_texts _) none_formed (none_texts _) none_formed ht hfm hn hwt (by simp; omega))
  have KF := fun (h16 : 16 <= owner) (w' : World) (hb : Below w.heap.size w w') => zH (fields_any cs hN hF hD cs.length owner (by omega) (by rcases HO.out with h | h <;> omega) (zL _) w' U (HU.out.below hb))
  have HSZ : Hid (∀ x, x ∈ flds cs (cs.length + 1) owner -> x.size <= maxLen) := zH (fun x hx => Nat.le_trans (flds_size cs 1048576 (by omega) hFS _ _ x hx) (by unfold maxLen; omega))
  have hV : Hid (methP cs owner m = chk (decide (16 <= owner)) (use cs [] [] (seen cs owner m)) (bodyE m)) := zH rfl
  have hV1 : Hid (¬ (16 <= owner /\ m.cls = false) -> seen cs owner m = []) := zH (fun h => if_neg h)
  have hV2 : Hid (16 <= owner /\ m.cls = false -> seen cs owner m = flds cs (cs.length + 1) owner) := zH (fun h => if_pos h)
  generalize methP cs owner m = R at *
  generalize flds cs (cs.length + 1) owner = FL at *
  generalize seen cs owner m = SN at *
  clear hlm hm hu hwt hN hF hFS hD ho
  obtain ⟨W, hW⟩ : ∃ W, W = (w.alloc (.cells #[.string m.sel, .bool m.cls, .slice a2 m.params.length c2, .slice a3 m.temps.length c3, .slice a4 m.body.length c4] 28)).alloc (.cells #[.pointer (some ⟨U, 0, none⟩), .slice none 0 0, .slice none 0 0, .slice none 0 0, .bool (decide (16 <= owner))] 156) := ⟨_, rfl⟩
  have hbW : Below w.heap.size w W := by rw [hW]; exact ((zB _ _).alloc (zL _) _).alloc (by simp) _
  have hX : Cells w.heap.size [.str m.sel, .bool m.cls, .row 0 1 (.slice a2 m.params.length c2) [], .row 0 1 (.slice a3 m.temps.length c3) [], .row 0 5 (.slice a4 m.body.length c4) []] W := by
    have := (zab w [.str m.sel, .bool m.cls, .row 0 1 (.slice a2 m.params.length c2) [], .row 0 1 (.slice a3 m.temps.length c3) [], .row 0 5 (.slice a4 m.body.length c4) []] 28).step ((zB _ _).alloc (zL _) (.cells #[.pointer (some ⟨U, 0, none⟩), .slice none 0 0, .slice none 0 0, .slice none 0 0, .bool (decide (16 <= owner))] 156))
    rw [hW]
    exact this
  have s0 : W.cell? ⟨w.heap.size + 1, 0, none⟩ = some (.pointer (some ⟨U, 0, none⟩)) := by rw [hW]; go_simp
  have s1 : W.cell? ⟨w.heap.size + 1, 1, none⟩ = some (.slice none 0 0) := by rw [hW]; go_simp
  have s2 : W.cell? ⟨w.heap.size + 1, 2, none⟩ = some (.slice none 0 0) := by rw [hW]; go_simp
  have s3 : W.cell? ⟨w.heap.size + 1, 3, none⟩ = some (.slice none 0 0) := by rw [hW]; go_simp
  have s4 : W.cell? ⟨w.heap.size + 1, 4, none⟩ = some (.bool (decide (16 <= owner))) := by rw [hW]; go_simp
  have sf : ∀ o, W.frozen? ⟨w.heap.size + 1, o, none⟩ = false := fun o => by rw [hW]; go_simp
  have HX := zH hX
  have HB := zH hbW
  have HW := zH hW
  clear hX hbW hW
  by_cases h16 : 16 <= owner
  case neg =>
    have hge : decide (owner ≥ 16) = false := decide_eq_false h16
    have hR : Hid (R = chk false (use cs [] [] []) (bodyE m)) := zH (by rw [hV.out, hV1.out (by exact fun h => h16 h.1), decide_eq_false h16])
    have hd : decide (16 <= owner) = false := decide_eq_false h16
    rw [hd] at s4 HW
    have HT : Hid (Texts 0 W [] (.slice none 0 0)) := zH (none_texts W)
    have HFM : Hid (Formed (.slice none 0 0) 0) := zH none_formed
    clear hV hV1 hV2 HO
    go_enter Tryz.func53, Tryz.ntmps53
    go_upto_region 4 with fail
    rw [<- HW.out]
    clear HW hd
    have x0 := HX.out.at 0 (.str m.sel) rfl
    have x1 := HX.out.at 1 (.bool m.cls) rfl
    have x2 := HX.out.at 2 (.row 0 1 (.slice a2 m.params.length c2) []) rfl
    have x3 := HX.out.at 3 (.row 0 1 (.slice a3 m.temps.length c3) []) rfl
    have x4 := HX.out.at 4 (.row 0 5 (.slice a4 m.body.length c4) []) rfl
    simp only [val] at x0 x1 x2 x3 x4
    clear sf HX KF HSZ
    go_region_law
      (first
      | (unfold Oper.wp
         go_simp
         first | refine (KB _ HB.out).out.mono ?_ | refine (KB _ (HB.out.trans ((zao W _).mono HB.out.size))).out.mono ?_
         rintro e wA ⟨vn, vk, rfl, hn, hbA⟩
         have HBW : Hid (Below W.heap.size W wA) := zH (by first | exact hbA | exact (zao W _).trans hbA)
         have HBA := zH (HB.out.trans (HBW.out.mono HB.out.size))
         have y0 := cell_keep HBW.out s0
         have y1 := cell_keep HBW.out s1
         have y2 := cell_keep HBW.out s2
         have y3 := cell_keep HBW.out s3
         have y4 := cell_keep HBW.out s4
         have HN := zH hn
         have HTA := zH (HT.out.below HBW.out)
         clear hbA hn KB)
      | (unfold Oper.wp
         go_simp
         first | refine (KE false _ (.slice none 0 0) [] vn vk HBA.out HTA.out HFM.out HN.out).out.mono ?_ | refine (KE false _ (.slice none 0 0) [] vn vk (HBA.out.trans ((zao wA _).mono HBA.out.size)) (HTA.out.below (zao wA _)) HFM.out (HN.out.below (zao wA _))).out.mono ?_
         rintro e wB ⟨rfl, hbB⟩
         have HBB : Hid (Below w.heap.size w wB) := zH (by first | exact HBA.out.trans (hbB.mono HBA.out.size) | exact (HBA.out.trans ((zao wA _).mono HBA.out.size)).trans (hbB.mono HBA.out.size))
         clear hbB KE))
    all_goals
      go_wp2_with fail
      go_ret
      exact ⟨by rw [hR.out]; rfl, HBB.out⟩
  have hge : decide (owner ≥ 16) = true := decide_eq_true h16
  generalize hcls : m.cls = mc at *
  cases mc with
  | true =>
    have hR : Hid (R = chk true (use cs [] [] []) (bodyE m)) := zH (by rw [hV.out, hV1.out (by simp), decide_eq_true h16])
    have hd : decide (16 <= owner) = true := decide_eq_true h16
    rw [hd] at s4 HW
    have HT : Hid (Texts 0 W [] (.slice none 0 0)) := zH (none_texts W)
    have HFM : Hid (Formed (.slice none 0 0) 0) := zH none_formed
    clear hV hV1 hV2 HO
    go_enter Tryz.func53, Tryz.ntmps53
    go_upto_region 4 with fail
    rw [<- HW.out]
    clear HW hd
    have x0 := HX.out.at 0 (.str m.sel) rfl
    have x1 := HX.out.at 1 (.bool true) rfl
    have x2 := HX.out.at 2 (.row 0 1 (.slice a2 m.params.length c2) []) rfl
    have x3 := HX.out.at 3 (.row 0 1 (.slice a3 m.temps.length c3) []) rfl
    have x4 := HX.out.at 4 (.row 0 5 (.slice a4 m.body.length c4) []) rfl
    simp only [val] at x0 x1 x2 x3 x4
    clear sf HX KF HSZ
    go_region_law
      (first
      | (unfold Oper.wp
         go_simp
         first | refine (KB _ HB.out).out.mono ?_ | refine (KB _ (HB.out.trans ((zao W _).mono HB.out.size))).out.mono ?_
         rintro e wA ⟨vn, vk, rfl, hn, hbA⟩
         have HBW : Hid (Below W.heap.size W wA) := zH (by first | exact hbA | exact (zao W _).trans hbA)
         have HBA := zH (HB.out.trans (HBW.out.mono HB.out.size))
         have y0 := cell_keep HBW.out s0
         have y1 := cell_keep HBW.out s1
         have y2 := cell_keep HBW.out s2
         have y3 := cell_keep HBW.out s3
         have y4 := cell_keep HBW.out s4
         have HN := zH hn
         have HTA := zH (HT.out.below HBW.out)
         clear hbA hn KB)
      | (unfold Oper.wp
         go_simp
         first | refine (KE true _ (.slice none 0 0) [] vn vk HBA.out HTA.out HFM.out HN.out).out.mono ?_ | refine (KE true _ (.slice none 0 0) [] vn vk (HBA.out.trans ((zao wA _).mono HBA.out.size)) (HTA.out.below (zao wA _)) HFM.out (HN.out.below (zao wA _))).out.mono ?_
         rintro e wB ⟨rfl, hbB⟩
         have HBB : Hid (Below w.heap.size w wB) := zH (by first | exact HBA.out.trans (hbB.mono HBA.out.size) | exact (HBA.out.trans ((zao wA _).mono HBA.out.size)).trans (hbB.mono HBA.out.size))
         clear hbB KE))
    all_goals
      go_wp2_with fail
      go_ret
      exact ⟨by rw [hR.out]; rfl, HBB.out⟩
  | false =>
    have hR : Hid (R = chk true (use cs [] [] FL) (bodyE m)) := zH (by rw [hV.out, hV2.out ⟨h16, rfl⟩, decide_eq_true h16])
    have hd : decide (16 <= owner) = true := decide_eq_true h16
    rw [hd] at s4 HW
    clear hV hV1 hV2 HO
    go_enter Tryz.func53, Tryz.ntmps53
    go_wp2_with fail
    rw [<- HW.out]
    refine (KF h16 _ HB.out).out.mono ?_
    rintro e wF ⟨vF, rfl, hoF, hbF⟩
    have HTF := zH (own_texts0 hoF HSZ.out)
    have HFM := zH (own_formed hoF)
    obtain ⟨fa, fc, rfl⟩ := Kit.row_form hoF
    have HBF := zH (HB.out.trans (hbF.mono HB.out.size))
    have HXF := zH (HX.out.step hbF)
    have q0 := cell_keep hbF s0
    have q1 := cell_keep hbF s1
    have q2 := cell_keep hbF s2
    have q3 := cell_keep hbF s3
    have q4 := cell_keep hbF s4
    have hlt := cell_lt s0
    have qf : ∀ o, wF.frozen? ⟨w.heap.size + 1, o, none⟩ = false := fun o => (hbF.frozen (p := ⟨w.heap.size + 1, o, none⟩) hlt).trans (sf o)
    have qf3 := qf 3
    have hblk : ∀ b, b ∈ blk (.slice fa FL.length fc) -> w.heap.size + 2 <= b := fun b hb => Nat.le_trans (by rw [HW.out]; simp) (own_blk hoF b hb).1
    have HBLK := zH hblk
    clear hoF hbF HX HB HW hd s0 s1 s2 s3 s4 sf hlt hblk
    go_upto_region 4 with fail
    obtain ⟨W', hW'⟩ : ∃ W', W' = wF.setCell ⟨w.heap.size + 1, 3, none⟩ (.slice fa FL.length fc) := ⟨_, rfl⟩
    have hbut : But (w.heap.size + 1) wF W' := by rw [hW']; exact but_set _ _ _ _
    have s0 : W'.cell? ⟨w.heap.size + 1, 0, none⟩ = some (.pointer (some ⟨U, 0, none⟩)) := by rw [hW']; go_simp
    have s1 : W'.cell? ⟨w.heap.size + 1, 1, none⟩ = some (.slice none 0 0) := by rw [hW']; go_simp
    have s2 : W'.cell? ⟨w.heap.size + 1, 2, none⟩ = some (.slice none 0 0) := by rw [hW']; go_simp
    have s3 : W'.cell? ⟨w.heap.size + 1, 3, none⟩ = some (.slice fa FL.length fc) := by rw [hW']; go_simp
    have s4 : W'.cell? ⟨w.heap.size + 1, 4, none⟩ = some (.bool true) := by rw [hW']; go_simp
    have sf := True.intro
    have HB : Hid (Below w.heap.size w W') := zH (HBF.out.trans (hbut.below (by omega) HBF.out.size))
    have HX : Hid (Cells w.heap.size [.str m.sel, .bool false, .row 0 1 (.slice a2 m.params.length c2) [], .row 0 1 (.slice a3 m.temps.length c3) [], .row 0 5 (.slice a4 m.body.length c4) []] W') := zH ⟨Nat.lt_of_lt_of_le HXF.out.1 hbut.size, fun j hj => hbut.cell (by omega) (HXF.out.2 j hj)⟩
    have HT : Hid (Texts 0 W' FL (.slice fa FL.length fc)) := zH (by
      obtain ⟨a, c, e, h1, h2, hc⟩ := HTF.out
      cases e
      refine ⟨_, _, rfl, h1, h2, fun hp => ?_⟩
      obtain ⟨b, o, rfl, hl, hcell⟩ := hc hp
      refine ⟨b, o, rfl, hl, fun j hj => hbut.cell ?_ (hcell j hj)⟩
      have := HBLK.out b (by simp [blk, Value.ownBlock])
      omega)
    rw [<- hW']
    clear hbut hW' HXF HBF HTF q0 q1 q2 q3 q4 qf qf3 HBLK
    have x0 := HX.out.at 0 (.str m.sel) rfl
    have x1 := HX.out.at 1 (.bool false) rfl
    have x2 := HX.out.at 2 (.row 0 1 (.slice a2 m.params.length c2) []) rfl
    have x3 := HX.out.at 3 (.row 0 1 (.slice a3 m.temps.length c3) []) rfl
    have x4 := HX.out.at 4 (.row 0 5 (.slice a4 m.body.length c4) []) rfl
    simp only [val] at x0 x1 x2 x3 x4
    clear sf HX KF HSZ
    go_region_law
      (first
      | (unfold Oper.wp
         go_simp
         first | refine (KB _ HB.out).out.mono ?_ | refine (KB _ (HB.out.trans ((zao W' _).mono HB.out.size))).out.mono ?_
         rintro e wA ⟨vn, vk, rfl, hn, hbA⟩
         have HBW : Hid (Below W'.heap.size W' wA) := zH (by first | exact hbA | exact (zao W' _).trans hbA)
         have HBA := zH (HB.out.trans (HBW.out.mono HB.out.size))
         have y0 := cell_keep HBW.out s0
         have y1 := cell_keep HBW.out s1
         have y2 := cell_keep HBW.out s2
         have y3 := cell_keep HBW.out s3
         have y4 := cell_keep HBW.out s4
         have HN := zH hn
         have HTA := zH (HT.out.below HBW.out)
         clear hbA hn KB)
      | (unfold Oper.wp
         go_simp
         first | refine (KE true _ (.slice fa FL.length fc) FL vn vk HBA.out HTA.out HFM.out HN.out).out.mono ?_ | refine (KE true _ (.slice fa FL.length fc) FL vn vk (HBA.out.trans ((zao wA _).mono HBA.out.size)) (HTA.out.below (zao wA _)) HFM.out (HN.out.below (zao wA _))).out.mono ?_
         rintro e wB ⟨rfl, hbB⟩
         have HBB : Hid (Below w.heap.size w wB) := zH (by first | exact HBA.out.trans (hbB.mono HBA.out.size) | exact (HBA.out.trans ((zao wA _).mono HBA.out.size)).trans (hbB.mono HBA.out.size))
         clear hbB KE))
    all_goals
      go_wp2_with fail
      go_ret
      exact ⟨by rw [hR.out]; rfl, HBB.out⟩
end SpecChk
end Go.Proofs.YtnlgdkfenipmfaaGreatDoor
