/-
  SpecClsP
-/
import Derived.Test.YtnlgdkfenipmfaaGreatDoorB25
namespace Go.Proofs.YtnlgdkfenipmfaaGreatDoor
namespace SpecChk
open Go.RowKit
open Strs Tree Go.Proofs.YtnlgdkfenipmfaaGreatDoor.Data Chk
def fieldsP (cs : List C) : List ByteArray -> List ByteArray -> ByteArray × List ByteArray
  | all, [] => (ByteArray.empty, all)
  | all, f :: fs => if Tok.has all f || Tok.has five f || decide (0 <= cls cs f) then (fieldUse f, all) else fieldsP cs (all ++ [f]) fs
def metP (pre : List M) (m : M) : Bool := pre.any fun x => decide (x.sel = m.sel) && (x.cls == m.cls)
def repP : List M -> List M -> ByteArray
  | _, [] => ByteArray.empty
  | pre, m :: ms => if metP pre m then methodThere m.sel else repP (pre ++ [m]) ms
def shut (y : Int) : Bool := decide (y < 0) || (decide (4 < y) && decide (y < 16))
def classP (cs bs : List C) (c : C) : ByteArray :=
  if decide (0 <= cls bs c.name) || Tok.has five c.name then classThere c.name
  else if shut (cls bs c.parent) then notExtended c.parent
  else if (fieldsP cs (flds bs (bs.length + 1) (cls bs c.parent)) c.fields).1.data.toList ≠ [] then (fieldsP cs (flds bs (bs.length + 1) (cls bs c.parent)) c.fields).1
  else if 8 < (fieldsP cs (flds bs (bs.length + 1) (cls bs c.parent)) c.fields).2.length then manyFields c.name
  else repP [] c.methods
theorem cls_lt (cs : List C) (n : ByteArray) : cls cs n < 16 + (cs.length : Int) := by
  have h1 := index_lt Builtin.names n
  have h2 := index_lt (cnames cs) n
  have h3 : Builtin.names.length = 16 := rfl
  rw [cnames_len] at h2
  rw [h3] at h1
  unfold cls
  split
  · omega
  · split <;> omega
theorem fieldUse_ne (n : ByteArray) : (fieldUse n).data.toList ≠ [] := by
  unfold fieldUse
  rw [ByteArray.data_append, ByteArray.data_append, Array.toList_append, Array.toList_append]
  simp
theorem methodThere_ne (n : ByteArray) : (methodThere n).data.toList ≠ [] := by
  unfold methodThere
  rw [ByteArray.data_append, ByteArray.data_append, Array.toList_append, Array.toList_append]
  simp
theorem metP_yes {ms : List M} {k j : Nat} {m x : M} (hx : ms[j]? = some x) (hj : j < k) (h1 : x.sel = m.sel) (h2 : x.cls = m.cls) : metP (ms.take k) m = true := by
  unfold metP
  rw [List.any_eq_true]
  refine ⟨x, List.mem_of_getElem? (i := j) ?_, by simp [h1, h2]⟩
  rw [List.getElem?_take, if_pos hj]
  exact hx
theorem metP_no {ms : List M} {k : Nat} {m : M} (h : ∀ j x, ms[j]? = some x -> j < k -> ¬ (x.sel = m.sel /\ x.cls = m.cls)) : metP (ms.take k) m = false := by
  unfold metP
  rw [List.any_eq_false]
  intro x hx
  obtain ⟨j, hj⟩ := List.mem_iff_getElem?.1 hx
  rw [List.getElem?_take] at hj
  split at hj
  · rename_i h1
    have := h j x hj h1
    simpa using this
  · cases hj
set_option maxRecDepth 10000 in
set_option maxHeartbeats 16000000 in
theorem problem_any (cs : List C) (hN : cs.length <= 8) (hF : ∀ d, d ∈ cs -> d.fields.length <= 4) (hFS : ∀ d, d ∈ cs -> ∀ x, x ∈ d.fields -> x.size <= 1048576) (hNS : ∀ d, d ∈ cs -> d.name.size <= 1048576 /\ d.parent.size <= 1048576) (hMS : ∀ d, d ∈ cs -> ∀ x, x ∈ d.methods -> x.sel.size <= 1048576) (i : Nat) (c : C) (hc : cs[i]? = some c) (hD : Down (cs.take i)) {w : World} {U : Nat} (hu : Un w U cs) :
    Calls Tryz.prog 52 #[.pointer (some ⟨U, 0, none⟩), .int .i64 i] w fun r w' => r = .returned (.string (classP cs (cs.take i) c)) /\ Below w.heap.size w w' := by
  obtain ⟨v, hcu, a, cap, rfl, ⟨hlc, hcm⟩, hca⟩ := id hu
  unfold maxLen at hcm
  have hUlt : U < w.heap.size := cell_lt hcu
  obtain ⟨hil, hci⟩ := List.getElem?_eq_some_iff.1 hc
  have hcM : c ∈ cs := List.mem_of_getElem? hc
  obtain ⟨b, o, rfl, hcl⟩ := hca (by omega)
  obtain ⟨vf, vm, c0, c1, c2, c3, ht, hfm, hms⟩ := hcl i c hc
  obtain ⟨fa, fc, rfl, ⟨hf1, hf2⟩, -, htc⟩ := id ht
  obtain ⟨ma, mc, rfl, ⟨hm1, hm2⟩, hmc⟩ := id hms
  unfold maxLen at hf2 hm2
  have hfl := hF c hcM
  have hns := hNS c hcM
  have hbl : (cs.take i).length = i := by rw [List.length_take]; omega
  obtain ⟨W, hW⟩ : ∃ W, W = (w.alloc (.cells #[.string c.name, .string c.parent, .slice fa c.fields.length fc, .slice ma c.methods.length mc] 65)).alloc (.cells #[.slice (some ⟨b, o, none⟩) i cap, .string ⟨#[]⟩, .bool false, .slice none 0 0, .slice none 0 0, .slice none 0 0] 30) := ⟨_, rfl⟩
  have hbW : Below w.heap.size w W := by rw [hW]; exact ((zB _ _).alloc (zL _) _).alloc (by simp) _
  have hX : Cells w.heap.size [.str c.name, .str c.parent, .row 0 1 (.slice fa c.fields.length fc) [], .row 0 1 (.slice ma c.methods.length mc) []] W := by
    have := (zab w [.str c.name, .str c.parent, .row 0 1 (.slice fa c.fields.length fc) [], .row 0 1 (.slice ma c.methods.length mc) []] 65).step ((zB _ _).alloc (zL _) (.cells #[.slice (some ⟨b, o, none⟩) i cap, .string ⟨#[]⟩, .bool false, .slice none 0 0, .slice none 0 0, .slice none 0 0] 30))
    rw [hW]
    exact this
  have hub : Un W (w.heap.size + 1) (cs.take i) := by
    refine ⟨.slice (some ⟨b, o, none⟩) i cap, by rw [hW]; go_simp, ?_⟩
    have h : ClsAt 0 w (.slice (some ⟨b, o, none⟩) cs.length cap) cs := by
      obtain ⟨v', h1, h2⟩ := hu
      rw [hcu] at h1
      cases h1
      exact h2
    exact (h.take i (by omega)).below hbW
  have HU := zH hu
  have HUB := zH hub
  have HX := zH hX
  have HB := zH hbW
  have HW := zH hW
  have HT := zH ht
  have HFM := zH hfm
  have HTC : Hid (0 < c.fields.length -> ∃ b o, fa = some ⟨b, o, none⟩ /\ ∀ j x, c.fields[j]? = some x -> w.cell? ⟨b, o + j, none⟩ = some (.string x)) := zH (fun hp => by
    obtain ⟨b, o, e, -, h⟩ := htc hp
    refine ⟨b, o, e, fun j x hx => ?_⟩
    obtain ⟨h1, rfl⟩ := List.getElem?_eq_some_iff.1 hx
    exact h j h1)
  have HMC := zH hmc
  have HSZ : Hid (∀ x, x ∈ c.fields -> x.size <= 1048576) := zH (hFS c hcM)
  have HMS : Hid (∀ x, x ∈ c.methods -> x.sel.size <= 1048576) := zH (hMS c hcM)
  have KN := fun (w' : World) (hb : Below W.heap.size W w') => zH (class_any (w.heap.size + 1) (cs.take i) c.name w' (HUB.out.below hb) (by omega))
  have KP := fun (w' : World) (hb : Below W.heap.size W w') => zH (class_any (w.heap.size + 1) (cs.take i) c.parent w' (HUB.out.below hb) (by omega))
  have KU := fun (n : ByteArray) (w' : World) (hb : Below w.heap.size w w') => zH (class_any U cs n w' (HU.out.below hb) (by omega))
  have KF := fun (w' : World) (hb : Below W.heap.size W w') => zH (fields_any (cs.take i) (by omega) (fun d hd => hF d (List.mem_of_mem_take hd)) hD i (cls (cs.take i) c.parent) (cls_ge _ _) (by have := cls_lt (cs.take i) c.parent; rw [hbl] at this; exact this) (by omega) w' (w.heap.size + 1) (HUB.out.below hb))
  have K5 : ∀ (w' : World) (n : ByteArray), Hid (Calls Tryz.prog 44 #[.slice (some ⟨w'.heap.size, 0, none⟩) 5 5, .string n] (w'.alloc (.cells (five.map Value.string).toArray 9)) fun e w2 => e = .returned (.bool (Tok.has five n)) /\ w'.alloc (.cells (five.map Value.string).toArray 9) = w2) := fun w' n => zH (SpecTok.has_any _ five n _ (lit_at w' five 5 rfl (by omega)))
  have KH : ∀ (w' : World) (v : Value) (xs : List ByteArray) (n : ByteArray), w'.ownsRow w.heap.size 9 1 v xs.length (xs.map Value.string) -> Hid (Calls Tryz.prog 44 #[v, .string n] w' fun e w2 => e = .returned (.bool (Tok.has xs n)) /\ w' = w2) := fun w' v xs n h => zH (SpecTok.has_any v xs n w' (at_own h))
  have HFL : Hid ((flds (cs.take i) (i + 1) (cls (cs.take i) c.parent)).length <= 33 /\ ∀ x, x ∈ flds (cs.take i) (i + 1) (cls (cs.take i) c.parent) -> x.size <= 1048576) := zH ⟨by
    have := flds_len (cs.take i) (fun d hd => hF d (List.mem_of_mem_take hd)) (i + 1) (cls (cs.take i) c.parent)
    omega, fun x hx => flds_size (cs.take i) 1048576 (by omega) (fun d hd => hFS d (List.mem_of_mem_take hd)) _ _ x hx⟩
  have hV : Hid (classP cs (cs.take i) c = if decide (0 <= cls (cs.take i) c.name) || Tok.has five c.name then classThere c.name
    else if shut (cls (cs.take i) c.parent) then notExtended c.parent
    else if (fieldsP cs (flds (cs.take i) (i + 1) (cls (cs.take i) c.parent)) c.fields).1.data.toList ≠ [] then (fieldsP cs (flds (cs.take i) (i + 1) (cls (cs.take i) c.parent)) c.fields).1
    else if 8 < (fieldsP cs (flds (cs.take i) (i + 1) (cls (cs.take i) c.parent)) c.fields).2.length then manyFields c.name
    else repP [] c.methods) := zH (by unfold classP; rw [hbl])
  generalize classP cs (cs.take i) c = R at *
  generalize flds (cs.take i) (i + 1) (cls (cs.take i) c.parent) = FL at *
  generalize cls (cs.take i) c.name = yn at *
  generalize hyp : cls (cs.take i) c.parent = yp at *
  clear hyp
  clear hu hub hX hbW hW ht hfm htc hmc hF hFS hNS hMS hD hca hcl hms hci hcM hbl hc
  generalize hNN : cs.length = N at *
  have HNN := zH hNN
  clear hNN
  obtain ⟨hn1, hn2⟩ := hns
  by_cases hyn : 0 <= yn
  case pos =>
    have hR : Hid (R = ⟨#[99, 108, 97, 115, 115, 32]⟩ ++ c.name ++ ⟨#[32, 105, 115, 32, 116, 104, 101, 114, 101, 32, 97, 108, 114, 101, 97, 100, 121]⟩) := zH (by rw [hV.out, decide_eq_true hyn, Bool.true_or, if_pos rfl]; rfl)
    obtain ⟨hadd, hadd2⟩ := add2 ⟨#[99, 108, 97, 115, 115, 32]⟩ ⟨#[32, 105, 115, 32, 116, 104, 101, 114, 101, 32, 97, 108, 114, 101, 97, 100, 121]⟩ c.name (by decide) (by decide) hn1
    have hy2 : decide (yn ≥ 0) = true := by simpa using hyn
    clear hV KP KU KF K5 KH HFL HSZ HMS HT HFM HTC HMC HU HUB
    go_enter Tryz.func52, Tryz.ntmps52
    go_upto_region 3 with fail
    rw [<- HW.out]
    clear HW c0 c1 c2 c3 hcu
    have x0 := HX.out.at 0 (.str c.name) rfl
    have x1 := HX.out.at 1 (.str c.parent) rfl
    have x2 := HX.out.at 2 (.row 0 1 (.slice fa c.fields.length fc) []) rfl
    have x3 := HX.out.at 3 (.row 0 1 (.slice ma c.methods.length mc) []) rfl
    simp only [val] at x0 x1 x2 x3
    go_wp2_with fail
    refine (KN _ (zB _ _)).out.mono ?_
    rintro e w1 ⟨rfl, hb1⟩
    have HB1 := zH (HB.out.trans (hb1.mono HB.out.size))
    have HX1 := zH (HX.out.step hb1)
    have HBW1 := zH hb1
    clear hb1 x0 x1 x2 x3 HX HB
    have x0 := HX1.out.at 0 (.str c.name) rfl
    have x1 := HX1.out.at 1 (.str c.parent) rfl
    have x2 := HX1.out.at 2 (.row 0 1 (.slice fa c.fields.length fc) []) rfl
    have x3 := HX1.out.at 3 (.row 0 1 (.slice ma c.methods.length mc) []) rfl
    simp only [val] at x0 x1 x2 x3
    have hlt1 : w.heap.size < w1.heap.size := HX1.out.1
    go_wp2_with fail
    go_ret
    exact ⟨by rw [hR.out]; rfl, HB1.out⟩
  have hy2 : decide (yn ≥ 0) = false := by simpa using hyn
  generalize h5v : Tok.has five c.name = x5 at *
  have H5V := zH h5v
  clear h5v
  cases x5 with
  | true =>
    have hR : Hid (R = ⟨#[99, 108, 97, 115, 115, 32]⟩ ++ c.name ++ ⟨#[32, 105, 115, 32, 116, 104, 101, 114, 101, 32, 97, 108, 114, 101, 97, 100, 121]⟩) := zH (by rw [hV.out, decide_eq_false hyn, Bool.false_or, if_pos rfl]; rfl)
    obtain ⟨hadd, hadd2⟩ := add2 ⟨#[99, 108, 97, 115, 115, 32]⟩ ⟨#[32, 105, 115, 32, 116, 104, 101, 114, 101, 32, 97, 108, 114, 101, 97, 100, 121]⟩ c.name (by decide) (by decide) hn1
    clear hV KP KU KF KH HFL HSZ HMS HT HFM HTC HMC HU HUB
    go_enter Tryz.func52, Tryz.ntmps52
    go_upto_region 3 with fail
    rw [<- HW.out]
    clear HW c0 c1 c2 c3 hcu
    have x0 := HX.out.at 0 (.str c.name) rfl
    have x1 := HX.out.at 1 (.str c.parent) rfl
    have x2 := HX.out.at 2 (.row 0 1 (.slice fa c.fields.length fc) []) rfl
    have x3 := HX.out.at 3 (.row 0 1 (.slice ma c.methods.length mc) []) rfl
    simp only [val] at x0 x1 x2 x3
    go_wp2_with fail
    refine (KN _ (zB _ _)).out.mono ?_
    rintro e w1 ⟨rfl, hb1⟩
    have HB1 := zH (HB.out.trans (hb1.mono HB.out.size))
    have HX1 := zH (HX.out.step hb1)
    have HBW1 := zH hb1
    clear hb1 x0 x1 x2 x3 HX HB
    have x0 := HX1.out.at 0 (.str c.name) rfl
    have x1 := HX1.out.at 1 (.str c.parent) rfl
    have x2 := HX1.out.at 2 (.row 0 1 (.slice fa c.fields.length fc) []) rfl
    have x3 := HX1.out.at 3 (.row 0 1 (.slice ma c.methods.length mc) []) rfl
    simp only [val] at x0 x1 x2 x3
    have hlt1 : w.heap.size < w1.heap.size := HX1.out.1
    go_wp2_with fail
    refine (K5 w1 c.name).out.mono ?_
    rintro e w2 ⟨rfl, rfl⟩
    rw [H5V.out]
    have hb2 : Below w1.heap.size w1 (w1.alloc (.cells (five.map Value.string).toArray 9)) := (zB _ _).alloc (zL _) _
    have HX2 := zH (HX1.out.step hb2)
    have HB2 := zH (HB1.out.trans (hb2.mono HB1.out.size))
    clear hb2 x0 x1 x2 x3 K5
    have x0 := HX2.out.at 0 (.str c.name) rfl
    have x1 := HX2.out.at 1 (.str c.parent) rfl
    have x2 := HX2.out.at 2 (.row 0 1 (.slice fa c.fields.length fc) []) rfl
    have x3 := HX2.out.at 3 (.row 0 1 (.slice ma c.methods.length mc) []) rfl
    simp only [val] at x0 x1 x2 x3
    go_wp2_with fail
    go_ret
    exact ⟨by rw [hR.out]; rfl, HB2.out⟩
  | false =>
    have hV2 : Hid (R = if shut yp then notExtended c.parent else if (fieldsP cs FL c.fields).1.data.toList ≠ [] then (fieldsP cs FL c.fields).1 else if 8 < (fieldsP cs FL c.fields).2.length then manyFields c.name else repP [] c.methods) := zH (by rw [hV.out, decide_eq_false hyn, Bool.false_or, if_neg (by decide)])
    clear hV
    go_enter Tryz.func52, Tryz.ntmps52
    go_upto_region 3 with fail
    rw [<- HW.out]
    clear HW c0 c1 c2 c3 hcu
    have x0 := HX.out.at 0 (.str c.name) rfl
    have x1 := HX.out.at 1 (.str c.parent) rfl
    have x2 := HX.out.at 2 (.row 0 1 (.slice fa c.fields.length fc) []) rfl
    have x3 := HX.out.at 3 (.row 0 1 (.slice ma c.methods.length mc) []) rfl
    simp only [val] at x0 x1 x2 x3
    go_wp2_with fail
    refine (KN _ (zB _ _)).out.mono ?_
    rintro e w1 ⟨rfl, hb1⟩
    have HB1 := zH (HB.out.trans (hb1.mono HB.out.size))
    have HX1 := zH (HX.out.step hb1)
    have HBW1 := zH hb1
    clear hb1 x0 x1 x2 x3 HX HB
    have x0 := HX1.out.at 0 (.str c.name) rfl
    have x1 := HX1.out.at 1 (.str c.parent) rfl
    have x2 := HX1.out.at 2 (.row 0 1 (.slice fa c.fields.length fc) []) rfl
    have x3 := HX1.out.at 3 (.row 0 1 (.slice ma c.methods.length mc) []) rfl
    simp only [val] at x0 x1 x2 x3
    have hlt1 : w.heap.size < w1.heap.size := HX1.out.1
    go_wp2_with fail
    refine (K5 w1 c.name).out.mono ?_
    rintro e w2 ⟨rfl, rfl⟩
    rw [H5V.out]
    have hb2 : Below w1.heap.size w1 (w1.alloc (.cells (five.map Value.string).toArray 9)) := (zB _ _).alloc (zL _) _
    have HX2 := zH (HX1.out.step hb2)
    have HB2 := zH (HB1.out.trans (hb2.mono HB1.out.size))
    have HBW2 := zH (HBW1.out.trans (hb2.mono HBW1.out.size))
    clear hb2 x0 x1 x2 x3 HX1 HB1 HBW1 H5V hyn hy2 KN
    have x0 := HX2.out.at 0 (.str c.name) rfl
    have x1 := HX2.out.at 1 (.str c.parent) rfl
    have x2 := HX2.out.at 2 (.row 0 1 (.slice fa c.fields.length fc) []) rfl
    have x3 := HX2.out.at 3 (.row 0 1 (.slice ma c.methods.length mc) []) rfl
    simp only [val] at x0 x1 x2 x3
    go_wp2_with fail
    refine (KP _ HBW2.out).out.mono ?_
    rintro e w3 ⟨rfl, hb3⟩
    have HX3 := zH (HX2.out.step hb3)
    have HB3 := zH (HB2.out.trans (hb3.mono HB2.out.size))
    have HBW3 := zH (HBW2.out.trans (hb3.mono HBW2.out.size))
    clear hb3 x0 x1 x2 x3 HX2 HB2 HBW2 KP
    have x0 := HX3.out.at 0 (.str c.name) rfl
    have x1 := HX3.out.at 1 (.str c.parent) rfl
    have x2 := HX3.out.at 2 (.row 0 1 (.slice fa c.fields.length fc) []) rfl
    have x3 := HX3.out.at 3 (.row 0 1 (.slice ma c.methods.length mc) []) rfl
    simp only [val] at x0 x1 x2 x3
    by_cases hsh : shut yp = true
    case pos =>
      have hR : Hid (R = ⟨#[99, 108, 97, 115, 115, 32]⟩ ++ c.parent ++ ⟨#[32, 99, 97, 110, 32, 110, 111, 116, 32, 98, 101, 32, 101, 120, 116, 101, 110, 100, 101, 100]⟩) := zH (by rw [hV2.out, if_pos hsh]; rfl)
      obtain ⟨hadd, hadd2⟩ := add2 ⟨#[99, 108, 97, 115, 115, 32]⟩ ⟨#[32, 99, 97, 110, 32, 110, 111, 116, 32, 98, 101, 32, 101, 120, 116, 101, 110, 100, 101, 100]⟩ c.parent (by decide) (by decide) hn2
      clear hV2 KU KF K5 KH HFL HSZ HMS HT HFM HTC HMC HU HUB
      unfold shut at hsh
      rw [Bool.or_eq_true, Bool.and_eq_true, decide_eq_true_iff, decide_eq_true_iff, decide_eq_true_iff] at hsh
      rcases hsh with hsh | ⟨hs1, hs2⟩
      · go_wp2_with fail
        go_ret
        exact ⟨by rw [hR.out]; rfl, HB3.out⟩
      · have hs3 : ¬ yp < 0 := by omega
        go_wp2_with fail
        go_ret
        exact ⟨by rw [hR.out]; rfl, HB3.out⟩
    have hV : Hid (R = if (fieldsP cs FL c.fields).1.data.toList ≠ [] then (fieldsP cs FL c.fields).1 else if 8 < (fieldsP cs FL c.fields).2.length then manyFields c.name else repP [] c.methods) := zH (by rw [hV2.out, if_neg hsh])
    clear hV2
    unfold shut at hsh
    rw [Bool.or_eq_true, Bool.and_eq_true, decide_eq_true_iff, decide_eq_true_iff, decide_eq_true_iff] at hsh
    have hs0 : ¬ yp < 0 := fun h => hsh (.inl h)
    obtain hs | ⟨hs, hs'⟩ : (¬ 4 < yp) \/ (4 < yp /\ ¬ yp < 16) := by omega
    all_goals
      clear hsh
      go_wp2_with fail
      refine (KF _ HBW3.out).out.mono ?_
      rintro e w4 ⟨vF, rfl, hoF, hb4⟩
      have HX4 := zH (HX3.out.step hb4)
      have HB4 := zH (HB3.out.trans (hb4.mono HB3.out.size))
      have HO4 := zH (own_mono (base' := w.heap.size) hoF HB3.out.size)
      clear hb4 hoF x0 x1 x2 x3 HX3 HB3 HBW3 KF HUB
      have x0 := HX4.out.at 0 (.str c.name) rfl
      have x1 := HX4.out.at 1 (.str c.parent) rfl
      have x2 := HX4.out.at 2 (.row 0 1 (.slice fa c.fields.length fc) []) rfl
      have x3 := HX4.out.at 3 (.row 0 1 (.slice ma c.methods.length mc) []) rfl
      simp only [val] at x0 x1 x2 x3
      go_wp2_with fail
      go_loopw [8, 9] (fun al k wr => ∃ (q : Nat) (all : List ByteArray), q <= c.fields.length /\ k = .int .i64 q /\ wr.ownsRow w.heap.size 9 1 al all.length (all.map Value.string) /\ fieldsP cs FL c.fields = fieldsP cs all (c.fields.drop q) /\ all.length <= 33 + q /\ (∀ x, x ∈ all -> x.size <= 1048576) /\ Below w.heap.size w wr /\ Cells w.heap.size [.str c.name, .str c.parent, .row 0 1 (.slice fa c.fields.length fc) [], .row 0 1 (.slice ma c.methods.length mc) []] wr) (fun _ k _ => c.fields.length - (intOf k).toNat)
      case atStart => exact ⟨0, FL, Nat.zero_le _, rfl, HO4.out, rfl, by have := HFL.out.1; omega, HFL.out.2, HB4.out, HX4.out⟩
      case round =>
        clear HO4 HX4 HB4 x0 x1 x2 x3 HFL
        obtain ⟨q, all, hq, rfl, hoa, hfp, hal, has_, hbr, hxr⟩ := hrel
        have HOA := zH hoa
        have HFP := zH hfp
        have HAL := zH hal
        have HAS := zH has_
        have HB := zH hbr
        have HX := zH hxr
        obtain ⟨la, lc, rfl⟩ := Kit.row_form hoa
        have hlx : w.heap.size < wr.heap.size := hxr.1
        have x0 := HX.out.at 0 (.str c.name) rfl
        have x1 := HX.out.at 1 (.str c.parent) rfl
        have x2 := HX.out.at 2 (.row 0 1 (.slice fa c.fields.length fc) []) rfl
        have x3 := HX.out.at 3 (.row 0 1 (.slice ma c.methods.length mc) []) rfl
        simp only [val] at x0 x1 x2 x3
        clear hoa hfp hal has_ hbr hxr
        have hal2 : all.length <= 40 := by have := HAL.out; omega
        by_cases hlt : q < c.fields.length
        case neg =>
          have HE : Hid (fieldsP cs FL c.fields = (ByteArray.empty, all)) := zH (by rw [HFP.out, List.drop_of_length_le (by omega), fieldsP])
          have HV2 : Hid (R = if 8 < all.length then manyFields c.name else repP [] c.methods) := zH (by
            rw [hV.out, HE.out]; exact if_neg (fun h => h rfl))
          clear hV HE HFP HTC HT HFM KU K5 KH HOA HAS HAL
          by_cases h8 : 8 < all.length
          case pos =>
            have hR : Hid (R = ⟨#[99, 108, 97, 115, 115, 32]⟩ ++ c.name ++ ⟨#[32, 104, 97, 115, 32, 116, 111, 111, 32, 109, 97, 110, 121, 32, 102, 105, 101, 108, 100, 115]⟩) := zH (by rw [HV2.out, if_pos h8]; rfl)
            obtain ⟨hadd, hadd2⟩ := add2 ⟨#[99, 108, 97, 115, 115, 32]⟩ ⟨#[32, 104, 97, 115, 32, 116, 111, 111, 32, 109, 97, 110, 121, 32, 102, 105, 101, 108, 100, 115]⟩ c.name (by decide) (by decide) hn1
            have h8' : (8 : Int) < (all.length : Int) := by omega
            clear HV2 HMC h8
            go_wp2_with fail
            go_ret
            exact ⟨by rw [hR.out]; rfl, HB.out⟩
          have HV3 : Hid (R = repP [] c.methods) := zH (by rw [HV2.out, if_neg h8])
          have h8' : ¬ (8 : Int) < (all.length : Int) := by omega
          clear HV2 h8
          go_wp2_with fail
          clear h8' x0 x1 x2 x3
          generalize hM : c.methods.length = M at *
          have HM := zH hM
          clear hM
          go_loopw [11] (fun k wr => ∃ q : Nat, q <= M /\ k = .int .i64 q /\ R = repP (c.methods.take q) (c.methods.drop q) /\ Below w.heap.size w wr /\ Cells w.heap.size [.str c.name, .str c.parent, .row 0 1 (.slice fa c.fields.length fc) [], .row 0 1 (.slice ma M mc) []] wr) (fun k _ => M - (intOf k).toNat)
          case atStart => exact ⟨0, Nat.zero_le _, rfl, HV3.out, HB.out, HX.out⟩
          case round =>
            clear HV3 HB HX hq hlt hlx hal2
            obtain ⟨q, hq, rfl, hr, hbr, hxr⟩ := hrel
            have HR := zH hr
            have HB := zH hbr
            have HX := zH hxr
            have x3 := hxr.at 3 (.row 0 1 (.slice ma M mc) []) rfl
            simp only [val] at x3
            clear hr hbr hxr
            by_cases hlt : q < M
            case neg =>
              have hR : Hid (R = ByteArray.empty) := zH (by rw [HR.out, List.drop_of_length_le (by rw [HM.out]; omega), repP])
              clear HR HMC
              go_wp2_with fail
              go_ret
              exact ⟨by rw [hR.out]; rfl, HB.out⟩
            obtain ⟨bm, om, hma, hmc⟩ := HMC.out (by omega)
            subst hma
            obtain ⟨m, hm⟩ : ∃ m, c.methods[q]? = some m := ⟨_, List.getElem?_eq_getElem (by rw [HM.out]; exact hlt)⟩
            obtain ⟨-, -, -, d0, d1, -⟩ := hmc q m hm
            have hms : m.sel.size <= 1048576 := HMS.out m (List.mem_of_getElem? hm)
            have hdr : c.methods.drop q = m :: c.methods.drop (q + 1) := by
              obtain ⟨h1, h2⟩ := List.getElem?_eq_some_iff.1 hm
              rw [List.drop_eq_getElem_cons h1, h2]
            have htk : c.methods.take (q + 1) = c.methods.take q ++ [m] := by
              obtain ⟨h1, h2⟩ := List.getElem?_eq_some_iff.1 hm
              rw [List.take_succ_eq_append_getElem h1, h2]
            have HRY : Hid (metP (c.methods.take q) m = true -> R = methodThere m.sel) := zH (fun h => by rw [HR.out, hdr, repP, if_pos h])
            have HRN : Hid (metP (c.methods.take q) m = false -> R = repP (c.methods.take (q + 1)) (c.methods.drop (q + 1))) := zH (fun h => by rw [HR.out, hdr, repP, h, htk]; rfl)
            have d0' := cell_keep HB.out d0
            have d1' := cell_keep HB.out d1
            have HMM := zH hmc
            clear HR hm hdr htk hmc HMC d0 d1
            go_wp2_with fail
            go_loopw [12] (fun k wr2 => ∃ j : Nat, j <= q /\ k = .int .i64 j /\ (∀ j' x, c.methods[j']? = some x -> j' < j -> ¬ (x.sel = m.sel /\ x.cls = m.cls)) /\ Below wr.heap.size wr wr2) (fun k _ => q - (intOf k).toNat)
            case atStart => exact ⟨0, Nat.zero_le _, rfl, fun j' x _ h => by omega, zB _ _⟩
            case round =>
              obtain ⟨j, hj, rfl, hno, hbj⟩ := hrel
              have HNO := zH hno
              have HB2 := zH (HB.out.trans (hbj.mono HB.out.size))
              have HX2 := zH (HX.out.step hbj)
              have HBJ := zH hbj
              have y3 := cell_keep hbj x3
              have d0 := cell_keep hbj d0'
              have d1 := cell_keep hbj d1'
              clear hno hbj x3 d0' d1'
              by_cases hjq : j < q
              case neg =>
                have hR : Hid (R = repP (c.methods.take (q + 1)) (c.methods.drop (q + 1))) := zH (HRN.out (metP_no fun j' x hx h => HNO.out j' x hx (by omega)))
                clear HRY HRN HNO HMM
                go_wp2_with fail
                go_roundw
                case rel => exact ⟨q + 1, by omega, by go_num, hR.out, HB2.out, HX2.out⟩
                case measure => simp [intOf]; omega
              obtain ⟨x, hx⟩ : ∃ x, c.methods[j]? = some x := ⟨_, List.getElem?_eq_getElem (by rw [HM.out]; omega)⟩
              obtain ⟨-, -, -, e0, e1, -⟩ := HMM.out j x hx
              replace e0 := cell_keep HB2.out e0
              replace e1 := cell_keep HB2.out e1
              have hjM : j < M := by omega
              have HNX : Hid (¬ (x.sel = m.sel /\ x.cls = m.cls) -> ∀ j' y, c.methods[j']? = some y -> j' < j + 1 -> ¬ (y.sel = m.sel /\ y.cls = m.cls)) := zH (fun h j' y hy hlt' => by
                by_cases hjj : j' = j
                · subst hjj
                  rw [hx] at hy
                  cases hy
                  exact h
                · exact HNO.out j' y hy (by omega))
              have HYX : Hid (x.sel = m.sel -> x.cls = m.cls -> R = methodThere m.sel) := zH (fun h1 h2 => HRY.out (metP_yes hx hjq h1 h2))
              clear hx HRN HNO HRY
              by_cases hse : x.sel = m.sel
              case neg =>
                have hsb := ba_ne hse
                have HQ := zH (HNX.out (fun h => hse h.1))
                clear HNX HYX hse
                go_wp2_with fail
                go_quiet (fail)
                go_wp2_with fail
                go_roundw
                case rel => exact ⟨j + 1, by omega, by go_num, HQ.out, below_drewN HBJ.out _⟩
                case measure => simp [intOf]; omega
              have hsb := ba_same hse
              by_cases hce : x.cls = m.cls
              case neg =>
                have hcb : (x.cls == m.cls) = false := by rw [beq_eq_false_iff_ne]; exact hce
                have HQ := zH (HNX.out (fun h => hce h.2))
                clear HNX HYX hse hce
                go_wp2_with fail
                go_quiet (fail)
                go_wp2_with fail
                go_roundw
                case rel => exact ⟨j + 1, by omega, by go_num, HQ.out, below_drewN HBJ.out _⟩
                case measure => simp [intOf]; omega
              have hcb : (x.cls == m.cls) = true := by rw [hce]; simp
              have hR : Hid (R = ⟨#[109, 101, 116, 104, 111, 100, 32]⟩ ++ m.sel ++ ⟨#[32, 105, 115, 32, 116, 104, 101, 114, 101, 32, 97, 108, 114, 101, 97, 100, 121]⟩) := zH (HYX.out hse hce)
              obtain ⟨hadd, hadd2⟩ := add2 ⟨#[109, 101, 116, 104, 111, 100, 32]⟩ ⟨#[32, 105, 115, 32, 116, 104, 101, 114, 101, 32, 97, 108, 114, 101, 97, 100, 121]⟩ m.sel (by decide) (by decide) hms
              clear HNX HYX hse hce
              go_wp2_with fail
              go_quiet (fail)
              go_wp2_with fail
              go_ret
              exact ⟨by rw [hR.out]; rfl, below_drewN HB2.out _⟩
        obtain ⟨bf, of, hfa, htc⟩ := HTC.out (by omega)
        subst hfa
        obtain ⟨f, hf⟩ : ∃ f, c.fields[q]? = some f := ⟨_, List.getElem?_eq_getElem hlt⟩
        have hfs : f.size <= 1048576 := HSZ.out f (List.mem_of_getElem? hf)
        have hdr : c.fields.drop q = f :: c.fields.drop (q + 1) := by
          obtain ⟨h1, h2⟩ := List.getElem?_eq_some_iff.1 hf
          rw [List.drop_eq_getElem_cons h1, h2]
        have df := cell_keep HB.out (htc q f hf)
        have HBAD : Hid ((Tok.has all f || Tok.has five f || decide (0 <= cls cs f)) = true -> R = fieldUse f) := zH (fun h => by
          have e : fieldsP cs FL c.fields = (fieldUse f, all) := by rw [HFP.out, hdr, fieldsP, if_pos h]
          rw [hV.out, e]; exact if_pos (fieldUse_ne f))
        have HGOOD : Hid ((Tok.has all f || Tok.has five f || decide (0 <= cls cs f)) = false -> fieldsP cs FL c.fields = fieldsP cs (all ++ [f]) (c.fields.drop (q + 1))) := zH (fun h => by rw [HFP.out, hdr, fieldsP, h]; rfl)
        have K1 := KH wr _ all f HOA.out
        have K2 := fun (w' : World) => K5 w' f
        have K3 := KU f
        clear hf hdr htc HFP KH KU K5 HTC
        generalize Tok.has all f = a1 at *
        generalize Tok.has five f = a2 at *
        generalize cls cs f = y at *
        have HU2 : Hid (fieldUse f = ⟨#[102, 105, 101, 108, 100, 32]⟩ ++ f ++ ⟨#[32, 105, 115, 32, 105, 110, 32, 117, 115, 101]⟩) := zH rfl
        rw [HU2.out] at HBAD
        clear HU2
        obtain ⟨hadd, hadd2⟩ := add2 ⟨#[102, 105, 101, 108, 100, 32]⟩ ⟨#[32, 105, 115, 32, 105, 110, 32, 117, 115, 101]⟩ f (by decide) (by decide) hfs
        cases a1 with
        | true =>
          have hR := zH (HBAD.out (by simp))
          clear HBAD HGOOD K2 K3 HMC HT HFM HAS HAL HOA hV HMS HSZ
          go_wp2_with fail
          refine K1.out.mono ?_
          rintro e w5 ⟨rfl, rfl⟩
          go_wp2_with fail
          go_ret
          exact ⟨by rw [hR.out]; rfl, HB.out⟩
        | false =>
        cases a2 with
        | true =>
          have hR := zH (HBAD.out (by simp))
          clear HBAD HGOOD K3 HMC HT HFM HAS HAL HOA hV HMS HSZ
          go_wp2_with fail
          refine K1.out.mono ?_
          rintro e w5 ⟨rfl, rfl⟩
          go_wp2_with fail
          refine (K2 wr).out.mono ?_
          rintro e w5 ⟨rfl, rfl⟩
          have hb5 : Below wr.heap.size wr (wr.alloc (.cells (five.map Value.string).toArray 9)) := (zB _ _).alloc (zL _) _
          have HB5 := zH (HB.out.trans (hb5.mono HB.out.size))
          have HX5 := zH (HX.out.step hb5)
          clear hb5 K1 K2
          go_wp2_with fail
          go_ret
          exact ⟨by rw [hR.out]; rfl, HB5.out⟩
        | false =>
        by_cases hy : 0 <= y
        case pos =>
          have hR := zH (HBAD.out (by simpa using hy))
          have hy2 : decide (y ≥ 0) = true := by simpa using hy
          clear HBAD HGOOD HMC HT HFM HAS HAL HOA hV HMS HSZ
          go_wp2_with fail
          refine K1.out.mono ?_
          rintro e w5 ⟨rfl, rfl⟩
          go_wp2_with fail
          refine (K2 wr).out.mono ?_
          rintro e w5 ⟨rfl, rfl⟩
          have hb5 : Below wr.heap.size wr (wr.alloc (.cells (five.map Value.string).toArray 9)) := (zB _ _).alloc (zL _) _
          have HB5 := zH (HB.out.trans (hb5.mono HB.out.size))
          have HX5 := zH (HX.out.step hb5)
          clear hb5 K1 K2
          go_wp2_with fail
          refine (K3 _ HB5.out).out.mono ?_
          rintro e w6 ⟨rfl, hb6⟩
          have HB6 := zH (HB5.out.trans (hb6.mono HB5.out.size))
          clear hb6 K3
          go_wp2_with fail
          go_ret
          exact ⟨by rw [hR.out]; rfl, HB6.out⟩
        have hg : Hid (fieldsP cs FL c.fields = fieldsP cs (all ++ [f]) (c.fields.drop (q + 1))) := zH (HGOOD.out (by simpa using hy))
        have hy2 : decide (y ≥ 0) = false := by simpa using hy
        clear HBAD HGOOD hadd hadd2
        go_wp2_with fail
        refine K1.out.mono ?_
        rintro e w5 ⟨rfl, rfl⟩
        go_wp2_with fail
        refine (K2 wr).out.mono ?_
        rintro e w5 ⟨rfl, rfl⟩
        have hb5 : Below wr.heap.size wr (wr.alloc (.cells (five.map Value.string).toArray 9)) := (zB _ _).alloc (zL _) _
        have HB5 := zH (HB.out.trans (hb5.mono HB.out.size))
        have HX5 := zH (HX.out.step hb5)
        have HO5 := zH (own_keep HOA.out hb5)
        clear hb5 K1 K2 HOA
        go_wp2_with fail
        refine (K3 _ HB5.out).out.mono ?_
        rintro e w6 ⟨rfl, hb6⟩
        have HB6 := zH (HB5.out.trans (hb6.mono HB5.out.size))
        have HX6 := zH (HX5.out.step hb6)
        have HO6 := zH (own_keep HO5.out hb6)
        have HT6 := zH (own_texts0 HO6.out (fun x hx => Nat.le_trans (HAS.out x hx) (by unfold maxLen; omega)))
        have HF6 := zH (own_formed HO6.out)
        have hlit := own_lit0 w6 9 1
        have HLIT := zH (own_mono (base' := w.heap.size) hlit HB6.out.size)
        have HBL : Hid (Below w6.heap.size w6 (w6.alloc (.cells #[] 9))) := zH ((zB _ _).alloc (zL _) _)
        have HLIT0 := zH hlit
        clear hb6 K3 HB5 HX5 HO5 hlit HLIT
        go_wp2_with (at_builtin; go_must (refine zan rfl _ _ rfl w6.heap.size _ [] rfl HLIT0.out (.slice la all.length lc) all 0 rfl (HT6.out.below HBL.out) HF6.out (by simp; omega) HBL.out.size ?_))
        intro va wa hown hlow
        have HOW := zH hown
        have HBA := zH (HBL.out.trans hlow)
        have HN1 : Hid (Texts 0 (wa.alloc (.cells #[.string f] 9)) [f] (.slice (some ⟨wa.heap.size, 0, none⟩) 1 1)) := zH (one_texts wa f (by unfold maxLen; omega))
        have HBA1 : Hid (Below w6.heap.size w6 (wa.alloc (.cells #[.string f] 9))) := zH (HBA.out.alloc HBA.out.size _)
        have HOW1 : Hid ((wa.alloc (.cells #[.string f] 9)).ownsRow w6.heap.size 9 1 va all.length (all.map Value.string)) := zH (own_keep (by simpa using HOW.out) ((zB _ _).alloc (zL _) _))
        clear hown hlow HOW HLIT0 HBL
        go_wp2_with (at_builtin; go_must (refine zan rfl _ _ rfl w6.heap.size _ all rfl HOW1.out (.slice (some ⟨wa.heap.size, 0, none⟩) 1 1) [f] 0 rfl HN1.out (.inr ⟨_, _, _, rfl⟩) (by simp; omega) HBA1.out.size ?_))
        intro vb wb hown hlow
        obtain ⟨ra, rc, rfl⟩ := Kit.row_form hown
        have HOB : Hid (wb.ownsRow w.heap.size 9 1 (.slice ra (all.length + 1) rc) (all ++ [f]).length ((all ++ [f]).map Value.string)) := zH (own_mono (by simpa using hown) HB6.out.size)
        have HBB := zH (HB6.out.trans ((HBA1.out.trans hlow).mono HB6.out.size))
        have HXB := zH (HX6.out.step (HBA1.out.trans hlow))
        clear hown hlow HBA HBA1 HOW1 HN1 HT6 HF6 HO6
        go_wp2_with fail
        go_roundw
        case rel => exact ⟨q + 1, all ++ [f], by omega, by go_num, HOB.out, hg.out, by have := HAL.out; simp; omega, fun x hx => by (rcases List.mem_append.1 hx with h1 | h1; exact HAS.out x h1; simp at h1; subst h1; exact hfs), HBB.out, HXB.out⟩
        case measure => simp [intOf]; omega
end SpecChk
end Go.Proofs.YtnlgdkfenipmfaaGreatDoor
