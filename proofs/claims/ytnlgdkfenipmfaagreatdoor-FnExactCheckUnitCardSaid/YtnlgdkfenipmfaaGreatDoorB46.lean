/-
  SpecCheck ChkPlain
-/
import Derived.Test.YtnlgdkfenipmfaaGreatDoorB26
namespace Go.Proofs.YtnlgdkfenipmfaaGreatDoor
namespace SpecChk
open Go.RowKit
open Strs Tree Go.Proofs.YtnlgdkfenipmfaaGreatDoor.Data Chk
def classesP (cs : List C) : Nat -> List C -> ByteArray
  | _, [] => ByteArray.empty
  | i, c :: rest => first (classP cs (cs.take i) c) (classesP cs (i + 1) rest)
def methsP (cs : List C) (owner : Int) : List M -> ByteArray
  | [] => ByteArray.empty
  | m :: ms => first (methP cs owner m) (methsP cs owner ms)
def allP (cs : List C) : Nat -> List C -> ByteArray
  | _, [] => ByteArray.empty
  | i, c :: rest => first (methsP cs (16 + (i : Int)) c.methods) (allP cs (i + 1) rest)
def unitP (u : U) : ByteArray := first (classesP u.classes 0 u.classes) (first (allP u.classes 0 u.classes) (methP u.classes (-1) u.main))
theorem index_append {xs ys : List ByteArray} {n : ByteArray} (h : 0 <= index xs n) : index (xs ++ ys) n = index xs n := by
  induction xs with
  | nil => rw [index] at h; omega
  | cons x xs ih =>
    rw [List.cons_append, index, index]
    rw [index] at h
    by_cases hx : x = n
    · rw [if_pos hx, if_pos hx]
    · rw [if_neg hx] at h
      rw [if_neg hx, if_neg hx]
      by_cases h0 : index xs n < 0
      · rw [if_pos h0] at h; omega
      · rw [ih (by omega)]
theorem cls_append {cs ds : List C} {n : ByteArray} (h : 0 <= cls cs n) : cls (cs ++ ds) n = cls cs n := by
  unfold cls at h ⊢
  by_cases h1 : 0 <= index Builtin.names n
  · rw [if_pos h1, if_pos h1]
  · rw [if_neg h1] at h
    rw [if_neg h1, if_neg h1]
    by_cases h2 : 0 <= index (cnames cs) n
    · have e : cnames (cs ++ ds) = cnames cs ++ cnames ds := List.map_append ..
      rw [e, index_append h2, if_pos h2]
    · rw [if_neg h2] at h; omega
theorem cls_take {cs : List C} {n : ByteArray} {j i : Nat} (hj : j <= i) (h : 0 <= cls (cs.take j) n) : cls (cs.take i) n = cls (cs.take j) n := by
  have e : cs.take i = cs.take j ++ (cs.take i).drop j := by
    conv => lhs; rw [<- List.take_append_drop j (cs.take i)]
    rw [List.take_take, Nat.min_eq_left hj]
  rw [e]
  exact cls_append h
theorem classP_parent {cs bs : List C} {c : C} (h : classP cs bs c = ByteArray.empty) : shut (cls bs c.parent) = false := by
  unfold classP at h
  split at h
  · exfalso
    have := congrArg (fun b : ByteArray => b.data.toList) h
    simp [classThere] at this
  · split at h
    · exfalso
      have := congrArg (fun b : ByteArray => b.data.toList) h
      simp [notExtended] at this
    · rename_i hs
      simpa using hs
theorem down_take (cs : List C) (i : Nat) (hi : i <= cs.length) (h : ∀ j c, cs[j]? = some c -> j < i -> classP cs (cs.take j) c = ByteArray.empty) : Down (cs.take i) := by
  intro j d hd
  rw [List.getElem?_take] at hd
  split at hd
  · rename_i hji
    have hs := classP_parent (h j d hd hji)
    unfold shut at hs
    rw [Bool.or_eq_false_iff, decide_eq_false_iff_not] at hs
    have h0 : 0 <= cls (cs.take j) d.parent := by omega
    rw [cls_take (Nat.le_of_lt hji) h0]
    have := cls_lt (cs.take j) d.parent
    rw [List.length_take] at this
    omega
  · cases hd
theorem unit_small {u : U} (h : unitOk u = true) : u.classes.length <= 8 /\ ∀ d, d ∈ u.classes -> d.fields.length <= 4 := by
  unfold unitOk at h
  simp only [Bool.and_eq_true, decide_eq_true_iff, List.all_eq_true] at h
  refine ⟨h.1.1.1.1.1, fun d hd => ?_⟩
  have := h.2 d hd
  unfold classOk at this
  simp only [Bool.and_eq_true, decide_eq_true_iff] at this
  exact this.1.1.1.2
theorem unit_parts {u : U} (h : Data.weights (plainU u) <= 1048576) : Tree.weight (bodyE u.main) <= 1048576 /\ ∀ d, d ∈ u.classes -> (d.name.size <= 1048576 /\ d.parent.size <= 1048576) /\ (∀ x, x ∈ d.fields -> x.size <= 1048576) /\ ∀ m, m ∈ d.methods -> m.sel.size <= 1048576 /\ Tree.weight (bodyE m) <= 1048576 := by
  rw [plainU_weight, plainM_weight] at h
  refine ⟨by omega, fun d hd => ?_⟩
  obtain ⟨i, hi, rfl⟩ := List.getElem_of_mem hd
  have h1 := plainCs_weight u.classes i hi
  rw [plainC_weight] at h1
  refine ⟨⟨by omega, by omega⟩, fun x hx => ?_, fun m hm => ?_⟩
  · have := weight_names hx
    omega
  · obtain ⟨k, hk, rfl⟩ := List.getElem_of_mem hm
    have h2 := plainMs_weight u.classes[i].methods k hk
    rw [plainM_weight] at h2
    exact ⟨by omega, by omega⟩
set_option maxRecDepth 10000 in
set_option maxHeartbeats 16000000 in
theorem check_unit {lo : Nat} {w : World} {u : U} {ds : List D} (he : erases ds = plainU u) (hh : Holdss lo w ds) (hs : Stricts ds) (hw : Data.weights (erases ds) <= 1048576) :
    Calls Tryz.prog 19 #[agg ds] w fun r w' => r = .returned (.tuple #[.string (if unitOk u then unitP u else ByteArray.empty), .bool (unitOk u)]) /\ Below w.heap.size w w' := by
  have hsm := fun h => unit_small (u := u) h
  obtain ⟨hmw, hparts⟩ := unit_parts (u := u) (he ▸ hw)
  have KI := fun (w' : World) (hb : Below w.heap.size w w') => zH (is_unit he (hh.below hb) hs hw)
  obtain ⟨v0, v2, v3, v4, hag, hcls, hmain⟩ := unit_open he (hh.keep (Nat.zero_le _) (fun _ _ _ _ hc => hc)) hs
  rw [hag] at KI ⊢
  clear he hh hs hw hag ds
  obtain ⟨ca, cc, rfl, ⟨hc1, hc2⟩, hcc⟩ := id hcls
  unfold maxLen at hc2
  obtain ⟨a2, c2, rfl, -⟩ := id hmain.params
  obtain ⟨a3, c3, rfl, -⟩ := id hmain.temps
  obtain ⟨a4, c4, rfl, -⟩ := id hmain.body
  obtain ⟨cs, m⟩ := u
  simp only at *
  have hU : Hid (unitP ⟨cs, m⟩ = first (classesP cs 0 cs) (first (allP cs 0 cs) (methP cs (-1) m))) := zH rfl
  generalize unitP ⟨cs, m⟩ = R at *
  generalize unitOk ⟨cs, m⟩ = B at *
  have hX : Cells w.heap.size [.row 0 4 (.slice ca cs.length cc) [], .str m.sel, .bool m.cls, .row 0 1 (.slice a2 m.params.length c2) [], .row 0 1 (.slice a3 m.temps.length c3) [], .row 0 5 (.slice a4 m.body.length c4) []] (w.alloc (.cells #[.slice ca cs.length cc, .string m.sel, .bool m.cls, .slice a2 m.params.length c2, .slice a3 m.temps.length c3, .slice a4 m.body.length c4] 30)) := zab w [.row 0 4 (.slice ca cs.length cc) [], .str m.sel, .bool m.cls, .row 0 1 (.slice a2 m.params.length c2) [], .row 0 1 (.slice a3 m.temps.length c3) [], .row 0 5 (.slice a4 m.body.length c4) []] _
  have hb0 : Below w.heap.size w (w.alloc (.cells #[.slice ca cs.length cc, .string m.sel, .bool m.cls, .slice a2 m.params.length c2, .slice a3 m.temps.length c3, .slice a4 m.body.length c4] 30)) := (zB _ _).alloc (zL _) _
  have HX0 := zH hX
  have HB0 := zH hb0
  have HCL := zH hcls
  have HCC := zH hcc
  have HMA := zH hmain
  have HSM := zH hsm
  have HPA := zH hparts
  have HMW := zH hmw
  have KI0 := KI _ hb0
  clear hX hb0 hcls hcc hmain hsm hparts hmw KI
  go_enter Tryz.func19, Tryz.ntmps19
  go_wp2_with fail
  refine KI0.out.mono ?_
  rintro e w1 ⟨rfl, hb1⟩
  have HX := zH (HX0.out.step hb1)
  have HB := zH (HB0.out.trans (hb1.mono HB0.out.size))
  clear hb1 HX0 HB0 KI0
  cases B with
  | false =>
    go_wp2_with fail
    go_ret2
    exact ⟨rfl, HB.out⟩
  | true =>
    obtain ⟨hN, hF⟩ := HSM.out rfl
    have HF := zH hF
    clear hF HSM
    have KP := fun (i : Nat) (c : C) (hc : cs[i]? = some c) (hD : Down (cs.take i)) (w' : World) (hu : Un w' w.heap.size cs) => zH (problem_any cs hN HF.out (fun d hd => (HPA.out d hd).2.1) (fun d hd => (HPA.out d hd).1) (fun d hd x hx => ((HPA.out d hd).2.2 x hx).1) i c hc hD hu)
    have KM := fun (hD : Down cs) (owner : Int) (ho : owner = -1 \/ (16 <= owner /\ owner < 16 + (cs.length : Int))) (x : M) (hx : Tree.weight (bodyE x) <= 1048576) (w' : World) (hu : Un w' w.heap.size cs) (x2 x3 x4 : Value) (hm : MAt 0 w' x x2 x3 x4) => zH (method_any cs hN HF.out (fun d hd => (HPA.out d hd).2.1) hD owner ho x hx hu hm)
    have HUN : Hid (∀ wr, Below w.heap.size w wr -> wr.cell? ⟨w.heap.size, 0, none⟩ = some (.slice ca cs.length cc) -> Un wr w.heap.size cs) := zH (fun wr hb hc => ⟨_, hc, HCL.out.below hb⟩)
    generalize hNN : cs.length = N at *
    have HNN := zH hNN
    clear hNN
    go_wp2_with fail
    go_loopw [4] (fun k wr => ∃ q : Nat, q <= N /\ k = .int .i64 q /\ classesP cs 0 cs = classesP cs q (cs.drop q) /\ (∀ j c, cs[j]? = some c -> j < q -> classP cs (cs.take j) c = ByteArray.empty) /\ Below w.heap.size w wr /\ Cells w.heap.size [.row 0 4 (.slice ca N cc) [], .str m.sel, .bool m.cls, .row 0 1 (.slice a2 m.params.length c2) [], .row 0 1 (.slice a3 m.temps.length c3) [], .row 0 5 (.slice a4 m.body.length c4) []] wr) (fun k _ => N - (intOf k).toNat)
    case atStart => exact ⟨0, Nat.zero_le _, rfl, rfl, fun j c _ h => by omega, HB.out, HX.out⟩
    case round =>
      clear HB HX
      obtain ⟨q, hq, rfl, hcp, hall, hbr, hxr⟩ := hrel
      have HCP := zH hcp
      have HALL := zH hall
      have HB := zH hbr
      have HX := zH hxr
      have x0 := hxr.at 0 (.row 0 4 (.slice ca N cc) []) rfl
      simp only [val] at x0
      clear hcp hall hbr hxr
      by_cases hlt : q < N
      case pos =>
        obtain ⟨c, hc⟩ : ∃ c, cs[q]? = some c := ⟨_, List.getElem?_eq_getElem (by rw [HNN.out]; exact hlt)⟩
        have hdr : cs.drop q = c :: cs.drop (q + 1) := by
          obtain ⟨h1, h2⟩ := List.getElem?_eq_some_iff.1 hc
          rw [List.drop_eq_getElem_cons h1, h2]
        have HC2 : Hid (classesP cs 0 cs = first (classP cs (cs.take q) c) (classesP cs (q + 1) (cs.drop (q + 1)))) := zH (by rw [HCP.out, hdr, classesP])
        have hD : Down (cs.take q) := down_take cs q (by rw [HNN.out]; exact hq) HALL.out
        have K1 := KP q c hc hD wr (HUN.out wr HB.out x0)
        have HAL2 : Hid (classP cs (cs.take q) c = ByteArray.empty -> ∀ j d, cs[j]? = some d -> j < q + 1 -> classP cs (cs.take j) d = ByteArray.empty) := zH (fun h j d hd hj => by
          by_cases hjq : j = q
          · subst hjq
            rw [hc] at hd
            cases hd
            exact h
          · exact HALL.out j d hd (by omega))
        clear hc hdr hD HCP HALL KP KM
        generalize classP cs (cs.take q) c = z at *
        go_wp2_with fail
        refine K1.out.mono ?_
        rintro e w2 ⟨rfl, hb2⟩
        have HB2 := zH (HB.out.trans (hb2.mono HB.out.size))
        have HX2 := zH (HX.out.step hb2)
        clear hb2 K1 x0
        by_cases hz : z.data.toList = []
        case pos =>
          have hze := zaj hz
          have HC3 := zH (HC2.out.trans (if_pos hz))
          have HAL3 := zH (HAL2.out (ba_empty hz))
          clear HC2 HAL2
          go_wp2_with fail
          go_roundw
          case rel => exact ⟨q + 1, by omega, by go_num, HC3.out, HAL3.out, HB2.out, HX2.out⟩
          case measure => simp [intOf]; omega
        case neg =>
          have hze := zae hz
          have hR : Hid (R = z) := zH (by rw [hU.out, HC2.out, first_some hz, first_some hz])
          clear HC2 HAL2
          go_wp2_with fail
          go_ret2
          exact ⟨by rw [hR.out]; rfl, HB2.out⟩
      have hD : Down cs := by
        have := down_take cs cs.length (zL _) (fun j c hc _ => HALL.out j c hc (by have := (List.getElem?_eq_some_iff.1 hc).1; rw [HNN.out] at this; omega))
        rwa [List.take_length] at this
      have hU2 : Hid (R = first (allP cs 0 cs) (methP cs (-1) m)) := zH (by rw [hU.out, HCP.out, List.drop_of_length_le (by rw [HNN.out]; omega), classesP]; rfl)
      have KM2 := fun (owner : Int) => KM hD owner
      clear hD HCP HALL KP KM hU
      go_wp2_with fail
      clear x0 hlt hq
      go_loopw [6] (fun k wr => ∃ q : Nat, q <= N /\ k = .int .i64 q /\ R = first (allP cs q (cs.drop q)) (methP cs (-1) m) /\ Below w.heap.size w wr /\ Cells w.heap.size [.row 0 4 (.slice ca N cc) [], .str m.sel, .bool m.cls, .row 0 1 (.slice a2 m.params.length c2) [], .row 0 1 (.slice a3 m.temps.length c3) [], .row 0 5 (.slice a4 m.body.length c4) []] wr) (fun k _ => N - (intOf k).toNat)
      case atStart => exact ⟨0, Nat.zero_le _, rfl, hU2.out, HB.out, HX.out⟩
      case round =>
        clear HB HX hU2
        obtain ⟨q, hq, rfl, hr, hbr, hxr⟩ := hrel
        have HR := zH hr
        have HB := zH hbr
        have HX := zH hxr
        have x0 := hxr.at 0 (.row 0 4 (.slice ca N cc) []) rfl
        have x1 := hxr.at 1 (.str m.sel) rfl
        have x2 := hxr.at 2 (.bool m.cls) rfl
        have x3 := hxr.at 3 (.row 0 1 (.slice a2 m.params.length c2) []) rfl
        have x4 := hxr.at 4 (.row 0 1 (.slice a3 m.temps.length c3) []) rfl
        have x5 := hxr.at 5 (.row 0 5 (.slice a4 m.body.length c4) []) rfl
        simp only [val] at x0 x1 x2 x3 x4 x5
        clear hr hbr hxr
        by_cases hlt : q < N
        case neg =>
          have hR : Hid (R = methP cs (-1) m) := zH (by rw [HR.out, List.drop_of_length_le (by rw [HNN.out]; omega), allP]; rfl)
          have K2 := KM2 (-1) (.inl rfl) m HMW.out wr (HUN.out wr HB.out x0) _ _ _ (HMA.out.below HB.out)
          clear HR KM2
          generalize methP cs (-1) m = z at *
          go_wp2_with fail
          refine K2.out.mono ?_
          rintro e w2 ⟨rfl, hb2⟩
          have HB2 := zH (HB.out.trans (hb2.mono HB.out.size))
          clear hb2 K2 x0 x1 x2 x3 x4 x5
          go_wp2_with fail
          go_ret2
          exact ⟨by rw [hR.out]; rfl, HB2.out⟩
        obtain ⟨c, hc⟩ : ∃ c, cs[q]? = some c := ⟨_, List.getElem?_eq_getElem (by rw [HNN.out]; exact hlt)⟩
        have hdr : cs.drop q = c :: cs.drop (q + 1) := by
          obtain ⟨h1, h2⟩ := List.getElem?_eq_some_iff.1 hc
          rw [List.drop_eq_getElem_cons h1, h2]
        have HC2 : Hid (R = first (methsP cs (16 + (q : Int)) c.methods) (first (allP cs (q + 1) (cs.drop (q + 1))) (methP cs (-1) m))) := zH (by rw [HR.out, hdr, allP, first_assoc])
        have hcm := List.mem_of_getElem? hc
        have HWM : Hid (∀ x, x ∈ c.methods -> Tree.weight (bodyE x) <= 1048576) := zH (fun x hx => ((HPA.out c hcm).2.2 x hx).2)
        obtain ⟨bc, oc, hca, hcl2⟩ := HCC.out (by omega)
        subst hca
        obtain ⟨vf, vm, c0, c1, cf2, cf3, -, -, hms⟩ := hcl2 q c hc
        obtain ⟨ma, mc, rfl, ⟨hm1, hm2⟩, hmc⟩ := hms
        unfold maxLen at hm2
        have HMC := zH hmc
        have C3 := zH cf3
        have d3 := cell_keep HB.out cf3
        clear hc hdr hcm hcl2 c0 c1 cf2 cf3 hmc HR
        go_wp2_with fail
        clear d3 x0 x1 x2 x3 x4 x5
        generalize hM : c.methods.length = M at *
        have HM := zH hM
        clear hM
        go_loopw [7] (fun k wr => ∃ j : Nat, j <= M /\ k = .int .i64 j /\ R = first (methsP cs (16 + (q : Int)) (c.methods.drop j)) (first (allP cs (q + 1) (cs.drop (q + 1))) (methP cs (-1) m)) /\ Below w.heap.size w wr /\ Cells w.heap.size [.row 0 4 (.slice (some ⟨bc, oc, none⟩) N cc) [], .str m.sel, .bool m.cls, .row 0 1 (.slice a2 m.params.length c2) [], .row 0 1 (.slice a3 m.temps.length c3) [], .row 0 5 (.slice a4 m.body.length c4) []] wr) (fun k _ => M - (intOf k).toNat)
        case atStart => exact ⟨0, Nat.zero_le _, rfl, HC2.out, HB.out, HX.out⟩
        case round =>
          clear HB HX HC2
          obtain ⟨j, hj, rfl, hr, hbr, hxr⟩ := hrel
          have HR := zH hr
          have HB := zH hbr
          have HX := zH hxr
          have x0 := hxr.at 0 (.row 0 4 (.slice (some ⟨bc, oc, none⟩) N cc) []) rfl
          simp only [val] at x0
          have d3 := cell_keep HB.out C3.out
          clear hr hbr hxr
          by_cases hjM : j < M
          case neg =>
            have hR : Hid (R = first (allP cs (q + 1) (cs.drop (q + 1))) (methP cs (-1) m)) := zH (by rw [HR.out, List.drop_of_length_le (by rw [HM.out]; omega), methsP]; rfl)
            clear HR HMC KM2
            go_wp2_with fail
            go_roundw
            case rel => exact ⟨q + 1, by omega, by go_num, hR.out, HB.out, HX.out⟩
            case measure => simp [intOf]; omega
          obtain ⟨bm, om, hma, hmc⟩ := HMC.out (by omega)
          subst hma
          obtain ⟨y, hy⟩ : ∃ y, c.methods[j]? = some y := ⟨_, List.getElem?_eq_getElem (by rw [HM.out]; exact hjM)⟩
          obtain ⟨y2, y3, y4, e0, e1, e2, e3, e4, hym⟩ := hmc j y hy
          have hdr : c.methods.drop j = y :: c.methods.drop (j + 1) := by
            obtain ⟨h1, h2⟩ := List.getElem?_eq_some_iff.1 hy
            rw [List.drop_eq_getElem_cons h1, h2]
          have HR2 : Hid (R = first (methP cs (16 + (q : Int)) y) (first (methsP cs (16 + (q : Int)) (c.methods.drop (j + 1))) (first (allP cs (q + 1) (cs.drop (q + 1))) (methP cs (-1) m)))) := zH (by rw [HR.out, hdr, methsP, first_assoc])
          obtain ⟨z2, q2, rfl, -⟩ := id hym.params
          obtain ⟨z3, q3, rfl, -⟩ := id hym.temps
          obtain ⟨z4, q4, rfl, -⟩ := id hym.body
          have K2 := KM2 (16 + (q : Int)) (.inr ⟨by omega, by omega⟩) y (HWM.out y (List.mem_of_getElem? hy)) wr (HUN.out wr HB.out x0) _ _ _ (hym.below HB.out)
          replace e0 := cell_keep HB.out e0
          replace e1 := cell_keep HB.out e1
          replace e2 := cell_keep HB.out e2
          replace e3 := cell_keep HB.out e3
          replace e4 := cell_keep HB.out e4
          clear hy hmc hym hdr HR KM2
          generalize methP cs (16 + (q : Int)) y = z at *
          go_wp2_with fail
          refine K2.out.mono ?_
          rintro e w2 ⟨rfl, hb2⟩
          have HB2 := zH (HB.out.trans (hb2.mono HB.out.size))
          have HX2 := zH (HX.out.step hb2)
          clear hb2 K2 x0 d3 e0 e1 e2 e3 e4
          by_cases hz : z.data.toList = []
          case pos =>
            have hze := zaj hz
            have HR3 := zH (HR2.out.trans (if_pos hz))
            clear HR2
            go_wp2_with fail
            go_roundw
            case rel => exact ⟨j + 1, by omega, by go_num, HR3.out, HB2.out, HX2.out⟩
            case measure => simp [intOf]; omega
          case neg =>
            have hze := zae hz
            have HR3 := zH (HR2.out.trans (if_neg hz))
            clear HR2
            go_wp2_with fail
            go_ret2
            exact ⟨by rw [HR3.out]; rfl, HB2.out⟩
end SpecChk
namespace SpecChk
open Go.RowKit
open Strs Tree Go.Proofs.YtnlgdkfenipmfaaGreatDoor.Data Chk
def Good (bs : List C) : Prop := ∀ (i : Nat) (d : C), bs[i]? = some d -> 0 <= cls bs d.parent /\ cls bs d.parent < 16 + (i : Int)
def φof (bs : List C) (n : ByteArray) : Option (List ByteArray) := if shut (cls bs n) then none else some (flds bs (bs.length + 1) (cls bs n))
theorem glob_pos (bs : List C) (n : ByteArray) : glob bs n ≠ 0 ↔ (0 <= cls bs n \/ Tok.has five n = true) := by
  rw [five_split]
  unfold glob
  generalize cls bs n = q
  generalize Tok.has four n = x
  by_cases hs : n = tSuper <;> cases x <;> by_cases hc : 0 <= q <;> simp [hc, hs]
theorem cnames_append (a b : List C) : cnames (a ++ b) = cnames a ++ cnames b := List.map_append ..
theorem index_snoc {xs : List ByteArray} {n c : ByteArray} (h : index xs n < 0) : index (xs ++ [c]) n = if c = n then (xs.length : Int) else -1 := by
  induction xs with
  | nil => rw [List.nil_append, index, index]; rfl
  | cons x xs ih =>
    rw [index] at h
    rw [List.cons_append, index]
    by_cases hx : x = n
    · rw [if_pos hx] at h; omega
    · rw [if_neg hx] at h
      rw [if_neg hx]
      have h0 : index xs n < 0 := by
        by_cases h1 : index xs n < 0
        · exact h1
        · rw [if_neg h1] at h; omega
      rw [ih h0]
      by_cases hc : c = n
      · rw [if_pos hc, if_pos hc, if_neg (by omega), List.length_cons]
        omega
      · rw [if_neg hc, if_neg hc, if_pos (by omega)]
theorem cls_snoc {bs : List C} {c : C} {n : ByteArray} (h : cls bs n < 0) : cls (bs ++ [c]) n = if c.name = n then 16 + (bs.length : Int) else -1 := by
  have h1 : ¬ 0 <= index Builtin.names n := fun hh => by
    unfold cls at h; rw [if_pos hh] at h; omega
  have h2 : ¬ 0 <= index (cnames bs) n := fun hh => by
    unfold cls at h; rw [if_neg h1, if_pos hh] at h; omega
  unfold cls
  rw [if_neg h1, cnames_append]
  show (if 0 <= index (cnames bs ++ [c.name]) n then 16 + index (cnames bs ++ [c.name]) n else -1) = _
  rw [index_snoc (by omega)]
  by_cases hc : c.name = n
  · rw [if_pos hc, if_pos hc, cnames_len, if_pos (by omega)]
  · rw [if_neg hc, if_neg hc, if_neg (by omega)]
theorem glob_snoc {bs : List C} {c : C} (h : glob bs c.name = 0) : glob (bs ++ [c]) = put (glob bs) c.name 2 := by
  have h0 : cls bs c.name < 0 := by
    by_cases hh : 0 <= cls bs c.name
    · exact absurd h ((glob_pos bs c.name).2 (.inl hh))
    · omega
  funext m
  unfold put
  by_cases hm : m = c.name
  · rw [if_pos hm, hm]
    unfold glob
    rw [cls_snoc h0, if_pos rfl, decide_eq_true (by omega), Bool.true_or, if_pos rfl]
  · rw [if_neg hm]
    unfold glob
    by_cases hc : 0 <= cls bs m
    · rw [cls_append hc]
    · have e := cls_snoc (bs := bs) (c := c) (n := m) (by omega)
      rw [if_neg (fun h : c.name = m => hm h.symm)] at e
      rw [e, decide_eq_false hc, decide_eq_false (by omega : ¬ (0 : Int) <= -1)]
theorem flds_stable {bs ds : List C} (hg : Good bs) : ∀ (m : Nat) (y : Int) (f f' : Nat), y < 16 + (m : Int) -> m <= bs.length -> m + 1 <= f -> m + 1 <= f' -> flds (bs ++ ds) f y = flds bs f' y := by
  intro m
  induction m with
  | zero =>
    intro y f f' hy _ hf hf'
    obtain ⟨f, rfl⟩ : ∃ k, f = k + 1 := ⟨f - 1, by omega⟩
    obtain ⟨f', rfl⟩ : ∃ k, f' = k + 1 := ⟨f' - 1, by omega⟩
    rw [flds, flds]
    by_cases h : y = 1 \/ y = 2 \/ y = 3 \/ y = 4
    · rw [if_pos h, if_pos h]
    · rw [if_neg h, if_neg h, if_pos (by omega), if_pos (by omega)]
  | succ m ih =>
    intro y f f' hy hm hf hf'
    obtain ⟨f, rfl⟩ : ∃ k, f = k + 1 := ⟨f - 1, by omega⟩
    obtain ⟨f', rfl⟩ : ∃ k, f' = k + 1 := ⟨f' - 1, by omega⟩
    by_cases hy16 : y < 16
    · rw [flds, flds]
      by_cases h : y = 1 \/ y = 2 \/ y = 3 \/ y = 4
      · rw [if_pos h, if_pos h]
      · rw [if_neg h, if_neg h, if_pos hy16, if_pos hy16]
    · have hi : (y - 16).toNat < bs.length := by omega
      conv => lhs; rw [flds, if_neg (by omega), if_neg hy16, List.getElem?_append_left hi, List.getElem?_eq_getElem hi]
      conv => rhs; rw [flds, if_neg (by omega), if_neg hy16, List.getElem?_eq_getElem hi]
      simp only
      have hd := hg _ _ (List.getElem?_eq_getElem hi)
      rw [cls_append hd.1, ih _ f f' (by omega) (by omega) (by omega) (by omega)]
theorem cls_name {bs : List C} {c : C} (h : cls bs c.name < 0) : cls (bs ++ [c]) c.name = 16 + (bs.length : Int) := by rw [cls_snoc h, if_pos rfl]
theorem good_snoc {bs : List C} {c : C} (hg : Good bs) (hs : shut (cls bs c.parent) = false) : Good (bs ++ [c]) := by
  have h0 : 0 <= cls bs c.parent := by
    unfold shut at hs
    rw [Bool.or_eq_false_iff, decide_eq_false_iff_not] at hs
    omega
  intro i d hd
  by_cases hi : i < bs.length
  · rw [List.getElem?_append_left hi] at hd
    have h1 := hg i d hd
    rw [cls_append h1.1]
    exact h1
  · have hi2 : i = bs.length := by
      have := (List.getElem?_eq_some_iff.1 hd).1
      rw [List.length_append, List.length_singleton] at this
      omega
    subst hi2
    rw [List.getElem?_append_right (by omega)] at hd
    simp at hd
    subst hd
    rw [cls_append h0]
    exact ⟨h0, cls_lt bs c.parent⟩
theorem φ_snoc {bs : List C} {c : C} (hg : Good bs) (h0 : cls bs c.name < 0) (hs : shut (cls bs c.parent) = false) (n : ByteArray) : φof (bs ++ [c]) n = if n = c.name then some (flds bs (bs.length + 1) (cls bs c.parent) ++ c.fields) else φof bs n := by
  have hp0 : 0 <= cls bs c.parent := by
    unfold shut at hs
    rw [Bool.or_eq_false_iff, decide_eq_false_iff_not] at hs
    omega
  by_cases hn : n = c.name
  · subst hn
    rw [if_pos rfl]
    unfold φof
    rw [cls_name h0, List.length_append, List.length_singleton]
    have hsh : shut (16 + (bs.length : Int)) = false := by
      unfold shut
      rw [decide_eq_false (by omega), decide_eq_false (by omega : ¬ 16 + (bs.length : Int) < 16), Bool.and_false, Bool.or_false]
    rw [hsh, if_neg (by decide), flds, if_neg (by omega), if_neg (by omega)]
    rw [show (16 + (bs.length : Int) - 16).toNat = bs.length by omega, List.getElem?_append_right (by omega), Nat.sub_self]
    simp only [List.getElem?_cons_zero]
    rw [cls_append hp0, flds_stable hg bs.length _ (bs.length + 1) (bs.length + 1) (cls_lt _ _) (zL _) (zL _) (zL _)]
  · rw [if_neg hn]
    unfold φof
    by_cases hc : 0 <= cls bs n
    · rw [cls_append hc, List.length_append, List.length_singleton, flds_stable hg bs.length _ _ (bs.length + 1) (cls_lt _ _) (zL _) (by omega) (zL _)]
    · have e1 : cls bs n = -1 := by have := cls_ge bs n; omega
      have e := cls_snoc (bs := bs) (c := c) (n := n) (by omega)
      rw [if_neg (fun h : c.name = n => hn h.symm)] at e
      rw [e, e1]
      rfl
end SpecChk
end Go.Proofs.YtnlgdkfenipmfaaGreatDoor
