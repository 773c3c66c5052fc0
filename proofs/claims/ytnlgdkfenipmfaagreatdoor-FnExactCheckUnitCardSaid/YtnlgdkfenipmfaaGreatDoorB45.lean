/-
  ImplLib ImplRep
-/
import Derived.Test.YtnlgdkfenipmfaaGreatDoorB30
import Derived.Test.YtnlgdkfenipmfaaGreatDoorB26
import Derived.Shelf.SlMaps.Clone
namespace Go.Proofs.YtnlgdkfenipmfaaGreatDoor
namespace ImplLib
open Go.RowKit
open Strs Tree Go.Proofs.YtnlgdkfenipmfaaGreatDoor.Data Chk SpecChk SMap
set_option maxHeartbeats 1000000 in
theorem index_any (v : Value) (xs : List ByteArray) (s : ByteArray) (w : World) (h : At w v xs) :
    Calls Tryz.prog 198 #[v, .string s] w fun e w' => e = .returned (.int .i64 (index xs s)) /\ w = w' := by
  obtain ⟨a, cap, rfl, hm, hc⟩ := h
  unfold maxLen at hm
  have HC := zH hc; clear hc
  generalize hn : xs.length = n at *
  have HN := zH hn; clear hn
  go_enter Tryz.func198, Tryz.ntmps198
  go_wp2_with fail
  go_loop [8] (fun j => ∃ i : Nat, i <= n /\ j = .int .i64 i /\ s ∉ xs.take i) (fun j => n - (intOf j).toNat)
  case atStart => exact ⟨0, by omega, rfl, by simp⟩
  case round =>
    obtain ⟨i, hi, rfl, hno⟩ := hrel
    have HNO := zH hno; clear hno
    by_cases hlt : i < n
    · obtain ⟨b, off, rfl, hcell⟩ := HC.out (by omega)
      have hil : i < xs.length := by rw [HN.out]; exact hlt
      have hci := hcell i hlt
      have HX : Hid (xs.getD i ByteArray.empty = xs[i]) := by show _ = _; simp [List.getD, hil]
      rw [HX.out] at hci
      clear hcell
      by_cases he : xs[i] = s
      · have HR : Hid (index xs s = i) := zH (index_at hil he HNO.out)
        have he2 : (s.toList == xs[i].toList) = true := by rw [he]; simp
        clear HX he
        generalize xs[i] = x at *
        go_wp2_with fail
        go_ret
        exact ⟨by rw [HR.out]; rfl, rfl⟩
      · have hf : (s.toList == xs[i].toList) = false := ba_ne (fun e => he e.symm)
        have HF : Hid (s ∉ xs.take (i + 1)) := zH (by
          rw [List.take_succ_eq_append_getElem hil, List.mem_append, List.mem_singleton]
          rintro (h | h)
          · exact HNO.out h
          · exact he h.symm)
        clear he HX
        generalize xs[i] = x at *
        go_wp2_with fail
        go_round
        case rel => exact ⟨i + 1, by omega, by go_num, HF.out⟩
        case measure => simp [intOf]; omega
    · have HR : Hid (index xs s = -1) := zH (index_no (by
        have := HNO.out
        rwa [List.take_of_length_le (by rw [HN.out]; omega)] at this))
      go_wp2_with fail
      go_ret
      exact ⟨by rw [HR.out]; rfl, rfl⟩
theorem has_index (xs : List ByteArray) (s : ByteArray) : Tok.has xs s = decide (index xs s ≥ 0) := by
  rw [Bool.eq_iff_iff, has_iff, decide_eq_true_iff]
  exact index_mem.symm
set_option maxHeartbeats 1000000 in
theorem contains_any (v : Value) (xs : List ByteArray) (s : ByteArray) (w : World) (h : At w v xs) :
    Calls Tryz.prog 154 #[v, .string s] w fun e w' => e = .returned (.bool (Tok.has xs s)) /\ w = w' := by
  have K := zH (index_any v xs s w h)
  have HV := zH (has_index xs s)
  generalize index xs s = q at *
  generalize Tok.has xs s = r at *
  clear h
  go_enter Tryz.func154, Tryz.ntmps154
  go_wp2_with fail
  refine K.out.mono ?_
  rintro e w1 ⟨rfl, rfl⟩
  go_wp2_with fail
  go_ret
  exact ⟨by rw [HV.out]; rfl, rfl⟩
set_option maxHeartbeats 1000000 in
theorem clip_any (a : Option Addr) (n c : Nat) (w : World) (hn : n <= c) (hc : c <= maxLen) (ha : a = none -> n = 0 /\ c = 0) (hp : ∀ x, a = some x -> x.spot = none) :
    Calls Tryz.prog 155 #[.slice a n c] w fun e w' => e = .returned (.slice a n n) /\ w = w' := by
  unfold maxLen at hc
  cases a with
  | none =>
    obtain ⟨rfl, rfl⟩ := ha rfl
    go_enter Tryz.func155, Tryz.ntmps155
    go_wp2_with fail
    go_ret
    exact ⟨rfl, rfl⟩
  | some x =>
    obtain ⟨b, o, s⟩ := x
    have := hp _ rfl
    simp only at this
    subst this
    go_enter Tryz.func155, Tryz.ntmps155
    go_wp2_with fail
    all_goals
      go_ret
      exact ⟨rfl, rfl⟩
set_option maxRecDepth 100000 in
set_option maxHeartbeats 1000000 in
theorem clone_any (b : Nat) (es : Array MapEntry) (clock : Nat) (w : World) (hb : w.heap[b]? = some (.map es clock)) :
    Calls Tryz.prog 111 #[.map (some b)] w fun e w' => e = .returned (.map (some w.heap.size)) /\ w' = w.alloc (.map es clock) := by
  have hq := fun w => run_eql_map_nil_sl (P := Tryz.prog) w 102 _ _ (some b) Tryz.underlying102
  go_enter Tryz.func111, Tryz.ntmps111
  go_wp2
  rw [run_callFunc_extern Tryz.func153 (by kernel_rfl) (by kernel_rfl) (by kernel_rfl) (e := Extern.MapsClone.clone) (by kernel_rfl), run_maps_clone_sl w 102 hb]
  simp only [Result.andThen]
  rw [Oper.upon_value]
  go_wp2
  rw [run_typeAssert_map_sl _ 102 20 _ _ _ Tryz.underlying102]
  simp only [Result.andThen]
  rw [Oper.upon_value]
  go_wp2
  go_ret
  exact ⟨rfl, rfl⟩
end ImplLib
namespace ImplRep
open Go.RowKit
open Strs Tree Go.Proofs.YtnlgdkfenipmfaaGreatDoor.Data Chk SpecChk SMap ImplFirst
def encM (c : ByteArray × Bool) : Value := .agg #[.string c.1, .bool c.2]
theorem zeroB (w : World) : (zeroValue 4).run Tryz.prog w = .ok (.bool false) w := by kernel_rfl
theorem under : Tryz.prog.underlying 246 = some (.struct (Tryz.prog.fieldsOf 246)) := by kernel_rfl
theorem held : Tryz.prog.stoodInHeld 246 = false := by kernel_rfl
theorem fields : (Tryz.prog.fieldsOf 246).toList.map (fun f => (f.name, f.type, f.offset)) = [("selector", 9, 0), ("class", 4, 1)] := by kernel_rfl
theorem part0 (w : World) (a : ByteArray) (b : Bool) : (part 9 #[.string a, .bool b] 0).run Tryz.prog w = .ok (.string a) w := by kernel_rfl
theorem part1 (w : World) (a : ByteArray) (b : Bool) : (part 4 #[.string a, .bool b] 1).run Tryz.prog w = .ok (.bool b) w := by kernel_rfl
theorem two_fields : ∃ f g : Field, (Tryz.prog.fieldsOf 246).toList = [f, g] /\ f.name = "selector" /\ f.type = 9 /\ f.offset = 0 /\ g.name = "class" /\ g.type = 4 /\ g.offset = 1 := by
  have h := fields
  generalize (Tryz.prog.fieldsOf 246).toList = l at h
  match l, h with
  | [], h => cases h
  | [_], h => simp at h
  | _ :: _ :: _ :: _, h => simp at h
  | [f, g], h =>
    simp at h
    exact ⟨f, g, rfl, h.1.1, h.1.2.1, h.1.2.2, h.2.1, h.2.2.1, h.2.2.2⟩
theorem eq_str_g {P : Program} {t : TypeId} (ht : P.underlying t = some .string) (d : Nat) (w : World) (a b : ByteArray) : (Op.equalIn (d + 1) t (.string a) (.string b)).run P w = .ok (decide (a = b)) w := by
  have h : (a == b) = decide (a = b) := by
    rw [Bool.eq_iff_iff, decide_eq_true_iff]
    exact MapKept.bytes_beq a b
  rw [<- h]
  simp [Op.equalIn, run_underlying ht]
theorem eq_bool_g {P : Program} {t : TypeId} (ht : P.underlying t = some .bool) (d : Nat) (w : World) (a b : Bool) : (Op.equalIn (d + 1) t (.bool a) (.bool b)).run P w = .ok (decide (a = b)) w := by
  cases a <;> cases b <;> simp [Op.equalIn, run_underlying ht]
theorem eq_str (w : World) (a b : ByteArray) : (Op.equalIn 9999 9 (.string a) (.string b)).run Tryz.prog w = .ok (decide (a = b)) w := eq_str_g Tryz.underlying9 9998 w a b
theorem eq_bool (w : World) (a b : Bool) : (Op.equalIn 9999 4 (.bool a) (.bool b)).run Tryz.prog w = .ok (decide (a = b)) w := eq_bool_g Tryz.underlying4 9998 w a b
theorem plaw (w : World) : PMap.Law Tryz.prog encM (fun _ => True) 244 246 4 (.bool false) w := by
  obtain ⟨f, g, hl, f1, f2, f3, g1, g2, g3⟩ := two_fields
  refine ⟨Tryz.underlying244, ⟨_, under, fun a b => rfl⟩, fun em k _ => ?_, fun k k' _ _ => ?_, fun k _ => ?_, zeroB w⟩
  · show (Instr.checkKey em (9999 + 1) 246 (.agg #[.string k.1, .bool k.2])).run Tryz.prog w = _
    unfold Instr.checkKey
    simp only [Sem.run_bind, run_underlying under, Result.andThen]
    rw [<- Array.forIn_toList, hl]
    have c1 : ∀ a, (Instr.checkKey em (9998 + 1) 9 (.string a)).run Tryz.prog w = .ok () w := by
      intro a
      unfold Instr.checkKey
      simp only [Sem.run_bind, run_underlying Tryz.underlying9, Result.andThen]
      rfl
    have c2 : ∀ a, (Instr.checkKey em (9998 + 1) 4 (.bool a)).run Tryz.prog w = .ok () w := by
      intro a
      unfold Instr.checkKey
      simp only [Sem.run_bind, run_underlying Tryz.underlying4, Result.andThen]
      rfl
    simp [f1, f2, f3, g1, g2, g3, part0, part1, c1, c2]
  · obtain ⟨a, b⟩ := k
    obtain ⟨a', b'⟩ := k'
    have e1 := eq_str w a a'
    have e2 := eq_bool w b b'
    show (Op.equalIn (9999 + 1) 246 (.agg #[.string a, .bool b]) (.agg #[.string a', .bool b'])).run Tryz.prog w = _
    rw [run_equalIn_agg w _ _ _ _ under held, hl]
    clear hl
    have hr : decide ((a, b) = (a', b')) = (decide (a = a') && decide (b = b')) := by simp
    rw [hr]
    generalize decide (a = a') = d1 at e1 ⊢
    generalize decide (b = b') = d2 at e2 ⊢
    simp [Op.eqFields, f1, f2, f3, g1, g2, g3, part0, part1, e1]
    cases d1
    · rfl
    · simp [e2]
      cases d2 <;> rfl
  · have h : Instr.sameBits 10000 (encM k) (encM k) = true := by
      show Instr.sameBits (9999 + 1) (.agg #[.string k.1, .bool k.2]) (.agg #[.string k.1, .bool k.2]) = true
      unfold Instr.sameBits
      have hb : (k.1 == k.1) = true := (MapKept.bytes_beq _ _).2 rfl
      simp [Instr.sameBits, hb]
    simp only [Instr.keyThatStays, h, if_true]
    rfl
theorem lawP (w : World) : Law2 Tryz.prog encM 244 246 4 (.bool false) w :=
  ⟨(plaw w).map, fun em k => (plaw w).check em k trivial, fun k _ _ h => (plaw w).find (k := k) trivial h (fun _ _ => trivial), fun k => (plaw w).stays k trivial, (plaw w).zero⟩
def metK (pre : List M) (k : ByteArray × Bool) : Bool := pre.any fun x => decide (x.sel = k.1) && (x.cls == k.2)
def seenOf (pre : List M) : ByteArray × Bool -> Option Value := fun k => if metK pre k then some (.bool true) else none
theorem seen_get (pre : List M) (k : ByteArray × Bool) : (seenOf pre k).getD (.bool false) = .bool (metK pre k) := by
  unfold seenOf
  cases metK pre k <;> rfl
theorem seen_snoc (pre : List M) (m : M) (k : ByteArray × Bool) : seenOf (pre ++ [m]) k = if k = (m.sel, m.cls) then some (.bool true) else seenOf pre k := by
  unfold seenOf metK
  rw [List.any_append]
  by_cases h : k = (m.sel, m.cls)
  · rw [if_pos h, h]
    simp
  · rw [if_neg h]
    have : ([m].any fun x => decide (x.sel = k.1) && (x.cls == k.2)) = false := by
      rw [List.any_eq_false]
      intro x hx
      simp at hx
      subst hx
      intro h2
      apply h
      simp at h2
      exact Prod.ext h2.1.symm h2.2.symm
    rw [this, Bool.or_false]
theorem enter_rep (args : Array Value) (w : World) : (callFunc 199 args).run Tryz.prog w = .ok (.enter 199 args) w := by kernel_rfl
def RepAns (m : M) (pre : List M) (MB : Nat) (w : World) (r : Ending) (w' : World) : Prop := r = .returned (.string (if metP pre m then methodThere m.sel else ByteArray.empty)) /\ But MB w w' /\ (metP pre m = false -> Mp encM w' MB (seenOf (pre ++ [m])))
set_option maxRecDepth 100000 in
set_option maxHeartbeats 4000000 in
theorem rep_one (m : M) (pre : List M) (hs : m.sel.size <= 1048576) (w : World) (b o Mc MB : Nat) (c0 : w.cell? ⟨b, o, none⟩ = some (.string m.sel)) (c1 : w.cell? ⟨b, o + 1, none⟩ = some (.bool m.cls)) (hc : w.cell? ⟨Mc, 0, none⟩ = some (.map (some MB))) (hm : Mp encM w MB (seenOf pre)) :
    Calls Tryz.prog 199 #[.pointer (some ⟨b, o, none⟩), .pointer (some ⟨Mc, 0, none⟩)] w (RepAns m pre MB w) := by
  have hA : Hid (∀ r w', RepAns m pre MB w r w' = (r = .returned (.string (if metP pre m then methodThere m.sel else ByteArray.empty)) /\ But MB w w' /\ (metP pre m = false -> Mp encM w' MB (seenOf (pre ++ [m]))))) := zH (fun _ _ => rfl)
  have hV : Hid (metP pre m = metK pre (m.sel, m.cls)) := zH rfl
  have hsn := seen_snoc pre m
  have hbl : b < w.heap.size := cell_lt c0
  have hcl : Mc < w.heap.size := cell_lt hc
  obtain ⟨W, hW⟩ : ∃ W, W = (w.alloc (.cells #[.string m.sel, .bool m.cls] 246)).drew := ⟨_, rfl⟩
  have hb0 : Below w.heap.size w W := by rw [hW]; exact ((zB _ _).alloc (zL _) _).drew
  have k0 : W.cell? ⟨w.heap.size, 0, none⟩ = some (.string m.sel) := by rw [hW]; go_simp
  have k1 : W.cell? ⟨w.heap.size, 1, none⟩ = some (.bool m.cls) := by rw [hW]; go_simp
  have c0' := cell_keep hb0 c0
  have hc' := cell_keep hb0 hc
  have hm' := hm.step hb0
  have hl := hm'.look (lawP W) (m.sel, m.cls) false
  rw [seen_get, <- hV.out] at hl
  replace hl : (Instr.lookup 244 (.map (some MB)) (.agg #[.string m.sel, .bool m.cls]) false).run Tryz.prog W = .ok (.bool (metP pre m)) W := hl
  have HM := zH hm'
  have HB := zH hb0
  have HW := zH hW
  have HSN := zH hsn
  obtain ⟨hadd, hadd2⟩ := add2 ⟨#[109, 101, 116, 104, 111, 100, 32]⟩ ⟨#[32, 105, 115, 32, 116, 104, 101, 114, 101, 32, 97, 108, 114, 101, 97, 100, 121]⟩ m.sel (by decide) (by decide) hs
  have HT : Hid (methodThere m.sel = ⟨#[109, 101, 116, 104, 111, 100, 32]⟩ ++ m.sel ++ ⟨#[32, 105, 115, 32, 116, 104, 101, 114, 101, 32, 97, 108, 114, 101, 97, 100, 121]⟩) := zH rfl
  clear hm hm' hb0 hW hsn hV
  generalize metP pre m = B at *
  go_enter Tryz.func199, Tryz.ntmps199
  go_wp2_with fail
  go_region
  rw [<- HW.out]
  clear c0 c1 hc hbl hcl HW
  cases B with
  | true =>
    go_wp2_with fail
    go_ret
    rw [hA.out]
    exact ⟨by rw [HT.out]; rfl, zau HB.out, fun h => by cases h⟩
  | false =>
    clear hadd hadd2 HT
    go_wp2_with (at_mapUpdate; refine wp_store2 rfl _ _ _ _ (.inl rfl) _ _ (lawP W) HM.out (m.sel, m.cls) (.bool true) rfl rfl rfl ?_)
    intro w2 hm2 hb2
    have HM2 : Hid (Mp encM w2 MB (seenOf (pre ++ [m]))) := zH (hm2.cast (fun k => HSN.out k))
    have HB2 := zH ((zau HB.out).trans hb2)
    clear hm2 hb2 HM HB HSN k0 k1 c0' hc' hl
    go_wp2_with fail
    go_ret
    rw [hA.out]
    exact ⟨rfl, HB2.out, fun _ => HM2.out⟩
def MRow (w : World) (ma : Option Addr) (ms : List M) : Prop := ∀ k m, ms[k]? = some m -> ∃ b o, ma = some ⟨b, o, none⟩ /\ w.cell? ⟨b, o + k * 5, none⟩ = some (.string m.sel) /\ w.cell? ⟨b, o + k * 5 + 1, none⟩ = some (.bool m.cls)
def repOne (ms : List M) (i : Nat) : ByteArray := match ms[i]? with | some m => if metP (ms.take i) m then methodThere m.sel else ByteArray.empty | none => ByteArray.empty
theorem firsts_rep (ms : List M) : ∀ n i, ms.length - i = n -> firsts (repOne ms) i n = repP (ms.take i) (ms.drop i) := by
  intro n
  induction n with
  | zero => intro i h; rw [List.drop_of_length_le (by omega), firsts, repP]
  | succ n ih =>
    intro i h
    have hi : i < ms.length := by omega
    rw [firsts, ih (i + 1) (by omega), List.drop_eq_getElem_cons hi, repP]
    unfold repOne
    rw [List.getElem?_eq_getElem hi]
    simp only
    by_cases hp : metP (ms.take i) ms[i] = true
    · rw [if_pos hp, if_pos hp]
      exact first_some (methodThere_ne _) _
    · rw [if_neg hp, if_neg hp, List.take_succ_eq_append_getElem hi]
      rfl
theorem args2 (s p : Value) : ((#[] : Array Value).push p ++ #[s]) = #[p, s] := by simp
set_option maxRecDepth 100000 in
set_option maxHeartbeats 4000000 in
theorem repeated_any (ms : List M) (hs : ∀ m, m ∈ ms -> m.sel.size <= 1048576) (w : World) (ma : Option Addr) (mc : Nat) (hl : ms.length <= maxLen) (hr : MRow w ma ms) :
    Calls Tryz.prog 156 #[.slice ma ms.length mc] w fun r w' => r = .returned (.string (repP [] ms)) /\ Below w.heap.size w w' := by
  obtain ⟨W, hW⟩ : ∃ W, W = (w.alloc (.map #[] 0)).alloc (.cells #[.map (some w.heap.size)] 244) := ⟨_, rfl⟩
  have hb0 : Below w.heap.size w W := by rw [hW]; exact ((zB _ _).alloc (zL _) _).alloc (by simp) _
  have hc : W.cell? ⟨w.heap.size + 1, 0, none⟩ = some (.map (some w.heap.size)) := by rw [hW]; go_simp
  have hm : Mp encM W w.heap.size (seenOf []) := by
    have h := (mp_new (enc := encM) w).step ((zB _ _).alloc (zL _) (.cells #[.map (some w.heap.size)] 244))
    rw [hW]
    exact h.cast (fun k => rfl)
  have hm63 := hl
  have key : ∀ i w', i < ms.length -> (Below w.heap.size w w' /\ w'.cell? ⟨w.heap.size + 1, 0, none⟩ = some (.map (some w.heap.size)) /\ Mp encM w' w.heap.size (seenOf (ms.take i))) ->
      ∃ x, ma = some x /\ Calls Tryz.prog 199 ((#[] : Array Value).push (.pointer (some (x.add (i * 5)))) ++ #[.pointer (some ⟨w.heap.size + 1, 0, none⟩)]) w' fun r w'' => r = .returned (.string (repOne ms i)) /\ Below w.heap.size w' w'' /\ ((repOne ms i).data.toList = [] -> (Below w.heap.size w w'' /\ w''.cell? ⟨w.heap.size + 1, 0, none⟩ = some (.map (some w.heap.size)) /\ Mp encM w'' w.heap.size (seenOf (ms.take (i + 1))))) := by
    intro i w' hi hI
    obtain ⟨hb, hc', hm'⟩ := hI
    have hx := List.getElem?_eq_getElem hi
    obtain ⟨b, o, rfl, c0, c1⟩ := hr i _ hx
    have e : repOne ms i = if metP (ms.take i) ms[i] then methodThere ms[i].sel else ByteArray.empty := by unfold repOne; rw [hx]
    have hc := rep_one ms[i] (ms.take i) (hs _ (List.getElem_mem hi)) w' b (o + i * 5) (w.heap.size + 1) w.heap.size (cell_keep hb c0) (cell_keep hb c1) hc' hm'
    refine ⟨_, rfl, ?_⟩
    rw [args2, add_at]
    refine Calls.mono hc ?_
    intro r w'' hw
    obtain ⟨h1, h2, h3⟩ := hw
    have hbb : Below w.heap.size w' w'' := h2.below (zL _) hb.size
    refine ⟨by rw [h1, e], hbb, fun hz => ⟨hb.trans hbb, h2.cell (by omega) hc', ?_⟩⟩
    rw [List.take_succ_eq_append_getElem hi]
    refine h3 ?_
    by_cases hp : metP (ms.take i) ms[i] = true
    · rw [e, if_pos hp] at hz
      exact absurd hz (methodThere_ne _)
    · simpa using hp
  have KF := zH (first_meth 199 #[] #[.pointer (some ⟨w.heap.size + 1, 0, none⟩)] enter_rep ma ms.length mc (repOne ms) _ (Below w.heap.size) (zB _) (fun _ _ _ => Below.trans) W ⟨hb0, hc, hm⟩ hl key)
  have hfr := firsts_rep ms ms.length 0 rfl
  have HFR : Hid (firsts (repOne ms) 0 ms.length = repP [] ms) := zH hfr
  have HB := zH hb0
  have HW := zH hW
  clear key hb0 hc hm hW hr hs hfr hm63
  rw [HFR.out, HW.out] at KF
  generalize repP [] ms = R at *
  have hmm := @run_makeMap Tryz.prog
  go_enter Tryz.func156, Tryz.ntmps156
  go_wp2_with fail
  refine KF.out.mono ?_
  rintro r w1 ⟨rfl, hb, -⟩
  rw [<- HW.out] at hb
  have HB2 := zH (HB.out.trans hb)
  clear hb KF HB HW
  go_wp2_with fail
  go_ret
  exact ⟨rfl, HB2.out⟩
end ImplRep
end Go.Proofs.YtnlgdkfenipmfaaGreatDoor
