/-
  ImplClsS
-/
import Derived.Test.YtnlgdkfenipmfaaGreatDoorB44
namespace Go.Proofs.YtnlgdkfenipmfaaGreatDoor
namespace ImplScope
open Go.RowKit
open Strs Tree Go.Proofs.YtnlgdkfenipmfaaGreatDoor.Data Chk SpecChk SMap ImplFirst ImplLib ImplMeth
structure Bt (T F : Nat) (w w' : World) : Prop where
  os : w'.os = w.os
  tape : w'.tape = w.tape
  output : w'.output = w.output
  size : w.heap.size <= w'.heap.size
  block : ∀ k, k < w.heap.size -> k ≠ T -> k ≠ F -> w'.heap[k]? = w.heap[k]?
theorem Bt.refl (T F : Nat) (w : World) : Bt T F w w := ⟨rfl, rfl, rfl, zL _, fun _ _ _ _ => rfl⟩
theorem Bt.trans {T F : Nat} {a b c : World} (h : Bt T F a b) (k : Bt T F b c) : Bt T F a c :=
  ⟨k.os.trans h.os, k.tape.trans h.tape, k.output.trans h.output, Nat.le_trans h.size k.size, fun i hi h1 h2 => (k.block i (Nat.lt_of_lt_of_le hi h.size) h1 h2).trans (h.block i hi h1 h2)⟩
theorem bt_below {T F : Nat} {w w' : World} (h : Below w.heap.size w w') : Bt T F w w' := ⟨h.os, h.tape, h.output, h.size, fun k hk _ _ => h.block k hk⟩
theorem bt_left {T F : Nat} {w w' : World} (h : But T w w') : Bt T F w w' := ⟨h.os, h.tape, h.output, h.size, fun k hk h1 _ => h.block k hk h1⟩
theorem bt_right {T F : Nat} {w w' : World} (h : But F w w') : Bt T F w w' := ⟨h.os, h.tape, h.output, h.size, fun k hk _ h2 => h.block k hk h2⟩
theorem Bt.below {T F : Nat} {w w' : World} (h : Bt T F w w') {B : Nat} (hT : B <= T) (hF : B <= F) (hw : B <= w.heap.size) : Below B w w' := ⟨h.os, h.tape, h.output, h.size, fun k hk => h.block k (by omega) (by omega) (by omega)⟩
theorem FMap.look_none {w : World} {F : Nat} {φ : ByteArray -> Option (List ByteArray)} (h : FMap w F φ) {k : ByteArray} (hk : φ k = none) (w' : World) (c : Bool) (hb : Below w.heap.size w w') :
    (Instr.lookup 103 (.map (some F)) (.string k) c).run Tryz.prog w' = .ok (if c then .tuple #[.slice none 0 0, .bool false] else .slice none 0 0) w' := by
  obtain ⟨Mf, h1, h2, h3⟩ := h
  have hl := (h1.step hb).look (lawF w') k c
  rw [h2 k hk] at hl
  exact hl
theorem FMap.store {w w' : World} {F : Nat} {φ ψ : ByteArray -> Option (List ByteArray)} {Mf : ByteArray -> Option Value} (h1 : Mp Value.string w F Mf) (h2 : ∀ k, φ k = none -> Mf k = none) (h3 : ∀ k xs, φ k = some xs -> ∃ v, Mf k = some v /\ Texts 0 w xs v /\ Formed v xs.length) (hb : But F w w') {k : ByteArray} {xs : List ByteArray} {v : Value} (ht : Texts 0 w xs v) (hf : Formed v xs.length)
    (hψ : ∀ n, ψ n = if n = k then some xs else φ n) (hm : Mp Value.string w' F (fun n => if n = k then some v else Mf n)) : FMap w' F ψ := by
  have hk := (hb.keptF h1.za2 0).1
  refine ⟨_, hm, fun n hn => ?_, fun n ys hn => ?_⟩
  · rw [hψ n] at hn
    by_cases e : n = k
    · rw [if_pos e] at hn; cases hn
    · rw [if_neg e] at hn
      show (if n = k then some v else Mf n) = none
      rw [if_neg e]
      exact h2 n hn
  · rw [hψ n] at hn
    by_cases e : n = k
    · rw [if_pos e] at hn
      cases hn
      refine ⟨v, ?_, ht.keep (zL _) hk, hf⟩
      show (if n = k then some v else Mf n) = some v
      rw [if_pos e]
    · rw [if_neg e] at hn
      obtain ⟨u, e1, e2, e3⟩ := h3 n ys hn
      refine ⟨u, ?_, e2.keep (zL _) hk, e3⟩
      show (if n = k then some v else Mf n) = some u
      rw [if_neg e]
      exact e1
theorem wpList_append_clip {w : World} {ops : Array Oper} {rest : List Oper} {o : Oper} {a : Act} {Q : Exit -> Act -> World -> Prop} (hgd : o.guard = none) (s x : Operand)
    (ho : o.op = .call { callee := .builtin .append, args := #[s, x], argTypes := #[25, 25] })
    (ad : Option Addr) (c : Nat) (xs : List ByteArray) (hs : a.eval s = .slice ad xs.length xs.length) (ht : Texts 0 w xs (.slice ad xs.length c)) (hf : Formed (.slice ad xs.length c) xs.length) (f : ByteArray) (g : Nat) (hx : a.eval x = .slice (some ⟨g, 0, none⟩) 1 1) (hcell : w.cell? ⟨g, 0, none⟩ = some (.string f)) (hb : xs.length <= 1000)
    (h : ∀ v' w', w'.ownsRow w.heap.size 9 1 v' (xs ++ [f]).length ((xs ++ [f]).map Value.string) -> Below w.heap.size w w' -> wpList Tryz.prog ops Q rest (a.put o.dst v') w') : wpList Tryz.prog ops Q (o :: rest) a w := by
  obtain ⟨i0, hi, hz0, hz1, hz2⟩ := info_parts infoTx
  obtain ⟨ad', c', he, -, -, hc⟩ := ht
  cases he
  refine wpList_append_grows w hgd s x 25 ho 9 i0 (.string ByteArray.empty) 1 16 Tryz.underlying25 hi hz0 hz1 hz2 rfl (by decide) ad xs.length xs.length (xs.map Value.string) hs (fun hn => ?_) (by simp) (fun b hbb j u hj => ?_) ⟨g, 0, none⟩ 1 1 [.string f] hx rfl (fun j u hj => ?_) (fun u hu => ?_) (by omega) (by unfold maxLen; omega) (by omega) ?_
  · rcases hf with ⟨e, e'⟩ | ⟨b, o', c'', e⟩
    · exact ⟨e', e'⟩
    · cases e; cases hn
  · have hl := (List.getElem?_eq_some_iff.1 hj).1
    have hv := (List.getElem?_eq_some_iff.1 hj).2
    rw [List.length_map] at hl
    rw [List.getElem_map] at hv
    obtain ⟨b', o', e, -, hd⟩ := hc (by omega)
    rw [e] at hbb
    cases hbb
    rw [add_at, hd j hl, hv]
  · have hj0 : j = 0 := by
      have := (List.getElem?_eq_some_iff.1 hj).1
      simpa using this
    subst hj0
    simp at hj
    rw [add_at, <- hj]
    exact hcell
  · simp at hu
    subst hu
    rfl
  · intro v' w' hown hgr
    exact h v' w' (by rw [List.length_append, List.map_append]; exact hown) ((zB _ _).grown hgr (zL _) (fun k hk => by cases hk))
def fieldsAll (FL fs : List ByteArray) (q : Nat) (all : List ByteArray) : Prop := all = FL ++ fs.take q
def ClsAns (bs : List C) (c : C) (T F : Nat) (w : World) (z : ByteArray) (r : Ending) (w' : World) : Prop :=
  r = .returned (.string z) /\ Bt T F w w' /\ (z.data.toList = [] -> Mp Value.string w' T (mapOf (glob (bs ++ [c]))) /\ FMap w' F (φof (bs ++ [c])))
set_option maxRecDepth 100000 in
set_option maxHeartbeats 16000000 in
theorem class_ok (cs bs : List C) (c : C) (hg : SpecChk.Good bs) (hbn : bs.length <= 8) (hbf : ∀ d, d ∈ bs -> d.fields.length <= 4) (hbs : ∀ d, d ∈ bs -> ∀ x, x ∈ d.fields -> x.size <= 1048576) (hcf : c.fields.length <= 4) (hcs : ∀ x, x ∈ c.fields -> x.size <= 1048576) (hn1 : c.name.size <= 1048576) (hn2 : c.parent.size <= 1048576) (hms : ∀ m, m ∈ c.methods -> m.sel.size <= 1048576)
    (w : World) (Cb G T F db dO : Nat) (v2 : Value) (ma : Option Addr) (mc : Nat) (hTF : T ≠ F) (hck : Ckr w Cb G T F) (hG : Mp Value.string w G (mapOf (glob cs))) (hT : Mp Value.string w T (mapOf (glob bs))) (hF : FMap w F (φof bs)) (hcc : CCell w db dO c v2 ma mc) (hst : CSt w c v2 ma mc) :
    Calls Tryz.prog 113 #[.pointer (some ⟨Cb, 0, none⟩), .pointer (some ⟨db, dO, none⟩)] w (ClsAns bs c T F w (classP cs bs c)) := by
  have hA : Hid (∀ r w', ClsAns bs c T F w (classP cs bs c) r w' = (r = .returned (.string (classP cs bs c)) /\ Bt T F w w' /\ ((classP cs bs c).data.toList = [] -> Mp Value.string w' T (mapOf (glob (bs ++ [c]))) /\ FMap w' F (φof (bs ++ [c]))))) := zH (fun _ _ => rfl)
  have hlT := fun (w' : World) (hb : Below w.heap.size w w') => by
    have := (hT.step hb).look (lawU w') c.name true
    rw [mapOf_get, mapOf_some] at this
    exact this
  have hV1 : Hid (glob bs c.name ≠ 0 -> classP cs bs c = classThere c.name) := zH (fun h => by
    unfold classP
    have h1 := (glob_pos bs c.name).1 h
    rw [if_pos (by rw [Bool.or_eq_true, decide_eq_true_iff]; exact h1)])
  have hV2 : Hid (¬ glob bs c.name ≠ 0 -> shut (cls bs c.parent) = true -> classP cs bs c = notExtended c.parent) := zH (fun h h2 => by
    unfold classP
    have h1 := fun e => h ((glob_pos bs c.name).2 e)
    rw [if_neg (by rw [Bool.or_eq_true, decide_eq_true_iff]; exact h1), if_pos h2])
  have CC := zH hcc
  have CK := zH hck
  generalize hRR : classP cs bs c = R at *
  have HRR := zH hRR
  clear hRR
  by_cases h0 : glob bs c.name ≠ 0
  case pos =>
    have hR : Hid (R = ⟨#[99, 108, 97, 115, 115, 32]⟩ ++ c.name ++ ⟨#[32, 105, 115, 32, 116, 104, 101, 114, 101, 32, 97, 108, 114, 101, 97, 100, 121]⟩) := zH (hV1.out h0)
    obtain ⟨hadd, hadd2⟩ := add2 ⟨#[99, 108, 97, 115, 115, 32]⟩ ⟨#[32, 105, 115, 32, 116, 104, 101, 114, 101, 32, 97, 108, 114, 101, 97, 100, 121]⟩ c.name (by decide) (by decide) hn1
    have hl0 := hlT w (zB _ _)
    have hlk := fun k => hlT (w.drewN k) (drl w k)
    rw [decide_eq_true h0] at hl0
    have hlk2 : ∀ k, (Instr.lookup 102 (.map (some T)) (.string c.name) true).run Tryz.prog (w.drewN k) = .ok (.tuple #[.int .i64 (glob bs c.name : Int), .bool true]) (w.drewN k) := fun k => by
      have := hlk k
      rw [decide_eq_true h0] at this
      exact this
    have d0 := CC.out.c0
    have s1 := CK.out.c1
    clear hlT hlk h0 hV1 hV2 HRR hck hG hT hF hcc hst hg hbf hbs hcs hms
    generalize glob bs c.name = gv at *
    go_enter Tryz.func113, Tryz.ntmps113
    go_wp2_with fail
    go_quiet (fail)
    go_wp2_with fail
    go_ret
    rw [hA.out]
    exact ⟨by rw [hR.out]; rfl, bt_below (drl w _), fun h => absurd (hR.out ▸ h) (by rw [ByteArray.data_append, ByteArray.data_append, Array.toList_append, Array.toList_append]; simp)⟩
  have hz0 : glob bs c.name = 0 := by
    by_cases e : glob bs c.name = 0
    · exact e
    · exact absurd e h0
  have hl0 := hlT w (zB _ _)
  rw [decide_eq_false h0, hz0] at hl0
  have hlk2 : ∀ k, (Instr.lookup 102 (.map (some T)) (.string c.name) true).run Tryz.prog (w.drewN k) = .ok (.tuple #[.int .i64 ((0 : Nat) : Int), .bool false]) (w.drewN k) := fun k => by
    have := hlT (w.drewN k) (drl w k)
    rw [decide_eq_false h0, hz0] at this
    exact this
  have hcn0 : cls bs c.name < 0 := by
    by_cases hh : 0 <= cls bs c.name
    · exact absurd ((glob_pos bs c.name).2 (.inl hh)) h0
    · omega
  have hV3 : Hid (shut (cls bs c.parent) = true -> R = notExtended c.parent) := zH (hV2.out h0)
  have hV4 : Hid (shut (cls bs c.parent) = false -> R = if (fieldsP cs (flds bs (bs.length + 1) (cls bs c.parent)) c.fields).1.data.toList ≠ [] then (fieldsP cs (flds bs (bs.length + 1) (cls bs c.parent)) c.fields).1
    else if 8 < (fieldsP cs (flds bs (bs.length + 1) (cls bs c.parent)) c.fields).2.length then manyFields c.name else repP [] c.methods) := zH (fun hsh => by
    rw [<- HRR.out]
    unfold classP
    have h1 := fun e => h0 ((glob_pos bs c.name).2 e)
    rw [if_neg (by rw [Bool.or_eq_true, decide_eq_true_iff]; exact h1), if_neg (by rw [hsh]; decide)])
  clear hlT h0 hV1 hV2 HRR
  have d0 := CC.out.c0
  have s1 := CK.out.c1
  cases hsh : shut (cls bs c.parent) with
  | true =>
    have hR : Hid (R = ⟨#[99, 108, 97, 115, 115, 32]⟩ ++ c.parent ++ ⟨#[32, 99, 97, 110, 32, 110, 111, 116, 32, 98, 101, 32, 101, 120, 116, 101, 110, 100, 101, 100]⟩) := zH (hV3.out hsh)
    obtain ⟨hadd, hadd2⟩ := add2 ⟨#[99, 108, 97, 115, 115, 32]⟩ ⟨#[32, 99, 97, 110, 32, 110, 111, 116, 32, 98, 101, 32, 101, 120, 116, 101, 110, 100, 101, 100]⟩ c.parent (by decide) (by decide) hn2
    have HLF : Hid (∀ w', Below w.heap.size w w' -> (Instr.lookup 103 (.map (some F)) (.string c.parent) true).run Tryz.prog w' = .ok (.tuple #[.slice none 0 0, .bool false]) w') := zH (fun w' hb => hF.look_none (k := c.parent) (by unfold φof; rw [hsh, if_pos rfl]) w' true hb)
    clear hV3 hV4 hsh hck hG hT hF hcc hst hg hbf hbs hcs hms hcn0 hz0
    go_enter Tryz.func113, Tryz.ntmps113
    go_wp2_with fail
    go_quiet (fail)
    go_upto_region 4 with fail
    obtain ⟨w1, hw1⟩ : ∃ w1, w1 = w.drewN nq := ⟨_, rfl⟩
    have hb1 : Below w.heap.size w w1 := by rw [hw1]; exact drl w nq
    rw [<- hw1]
    clear hw1 hl0 hlk2 d0 s1
    have HB1 := zH hb1
    have d0 := (CC.out.step hb1).c0
    have d1 := (CC.out.step hb1).c1
    have s2 := (CK.out.step hb1).c2
    have hl0 := HLF.out w1 hb1
    have hlk := fun k => HLF.out (w1.drewN k) (hb1.trans ((drl w1 k).mono hb1.size))
    clear hb1 HLF CC CK
    go_quiet (fail)
    go_wp2_with fail
    go_ret
    rw [hA.out]
    exact ⟨by rw [hR.out]; rfl, bt_below (HB1.out.trans ((drl w1 _).mono HB1.out.size)), fun h => absurd (hR.out ▸ h) (by rw [ByteArray.data_append, ByteArray.data_append, Array.toList_append, Array.toList_append]; simp)⟩
  | false =>
    have hφ : φof bs c.parent = some (flds bs (bs.length + 1) (cls bs c.parent)) := by unfold φof; rw [hsh]; rfl
    have hPS : Hid (∀ n, φof (bs ++ [c]) n = if n = c.name then some (flds bs (bs.length + 1) (cls bs c.parent) ++ c.fields) else φof bs n) := zH (φ_snoc hg hcn0 hsh)
    have hGS : Hid (glob (bs ++ [c]) = put (glob bs) c.name 2) := zH (glob_snoc hz0)
    have hV := zH (hV4.out hsh)
    have HFL : Hid ((flds bs (bs.length + 1) (cls bs c.parent)).length <= 37 /\ ∀ x, x ∈ flds bs (bs.length + 1) (cls bs c.parent) -> x.size <= 1048576) := zH ⟨by
      have := flds_len bs hbf (bs.length + 1) (cls bs c.parent)
      omega, fun x hx => flds_size bs 1048576 (by omega) hbs _ _ x hx⟩
    generalize flds bs (bs.length + 1) (cls bs c.parent) = FL at *
    obtain ⟨v, ⟨ht, hf⟩, hlf⟩ := hF.look hφ
    have HLF : Hid (∀ w', Below w.heap.size w w' -> (Instr.lookup 103 (.map (some F)) (.string c.parent) true).run Tryz.prog w' = .ok (.tuple #[v, .bool true]) w') := zH (fun w' hb => hlf w' true hb)
    have HLG : Hid (∀ w' f, Below w.heap.size w w' -> (Instr.lookup 102 (.map (some G)) (.string f) true).run Tryz.prog w' = .ok (.tuple #[.int .i64 (glob cs f : Int), .bool (decide (glob cs f ≠ 0))]) w') := zH (fun w' f hb => by
      have := (hG.step hb).look (lawU w') f true
      rw [mapOf_get, mapOf_some] at this
      exact this)
    obtain ⟨ca, cc, he2, ⟨hc1, hc2⟩, -, htc⟩ := hst.fields
    subst he2
    unfold maxLen at hc2
    have HTC : Hid (0 < c.fields.length -> ∃ b o, ca = some ⟨b, o, none⟩ /\ ∀ j x, c.fields[j]? = some x -> w.cell? ⟨b, o + j, none⟩ = some (.string x)) := zH (fun hp => by
      obtain ⟨b, o, e, -, h⟩ := htc hp
      refine ⟨b, o, e, fun j x hx => ?_⟩
      obtain ⟨h1, rfl⟩ := List.getElem?_eq_some_iff.1 hx
      exact h j h1)
    obtain ⟨xa, xc, rfl, -⟩ := id ht
    have HT0 := zH ht
    have HF0 := zH hf
    have HCS := zH hcs
    have HTm := zH hT
    have HFm := zH hF
    have HST := zH hst
    have HMS := zH hms
    clear hV3 hV4 hsh hφ hck hG hT hF hcc hst hg hbf hbs hcs hms hcn0 hz0 ht hf hlf htc
    go_enter Tryz.func113, Tryz.ntmps113
    go_wp2_with fail
    go_quiet (fail)
    go_upto_region 4 with fail
    obtain ⟨w1, hw1⟩ : ∃ w1, w1 = w.drewN nq := ⟨_, rfl⟩
    have hb1 : Below w.heap.size w w1 := by rw [hw1]; exact drl w nq
    rw [<- hw1]
    clear hw1 hl0 hlk2 d0 s1
    have HB1 := zH hb1
    have d1 := (CC.out.step hb1).c1
    have s2 := (CK.out.step hb1).c2
    have hl0 := HLF.out w1 hb1
    have hlk := fun k => HLF.out (w1.drewN k) (hb1.trans ((drl w1 k).mono hb1.size))
    clear hb1 HLF
    go_quiet (fail)
    go_upto_region 7 with fail
    obtain ⟨w2, hw2⟩ : ∃ w2, w2 = w1.drewN nq := ⟨_, rfl⟩
    have hb2 : Below w.heap.size w w2 := by rw [hw2]; exact HB1.out.trans ((drl w1 nq).mono HB1.out.size)
    rw [<- hw2]
    clear hw2 hl0 hlk d1 s2 HB1
    have HB2 := zH hb2
    have d2 := (CC.out.step hb2).c2
    clear hb2
    go_wp2_with fail
    clear d2
    generalize hN : c.fields.length = N at *
    have HN := zH hN
    clear hN
    go_loopw [7, 57] (fun fv j wr => ∃ (q : Nat) (all : List ByteArray), q <= N /\ j = .int .i64 q /\ Texts 0 wr all fv /\ Formed fv all.length /\ fieldsP cs FL c.fields = fieldsP cs all (c.fields.drop q) /\ all.length <= 37 + q /\ (∀ x, x ∈ all -> x.size <= 1048576) /\ (N - q = 0 -> True) /\ fieldsAll FL c.fields q all /\ Below w.heap.size w wr) (fun _ j _ => N - (intOf j).toNat)
    case atStart => exact ⟨0, FL, Nat.zero_le _, rfl, HT0.out.below HB2.out, HF0.out, rfl, by have := HFL.out.1; omega, HFL.out.2, fun _ => trivial, (by unfold fieldsAll; simp), HB2.out⟩
    case round =>
      clear HB2 HT0 HF0 HFL
      obtain ⟨q, all, hq, rfl, ht, hf, hfp, hal, has_, -, hfa, hbr⟩ := hrel
      obtain ⟨la, lc, rfl, ⟨hlc1, hlc2⟩, -⟩ := id ht
      unfold maxLen at hlc2
      have HT := zH ht
      have HF := zH hf
      have HFP := zH hfp
      have HAL := zH hal
      have HAS := zH has_
      have HFA := zH hfa
      have HB := zH hbr
      have hal2 : all.length <= 41 := by omega
      clear ht hf hfp hal has_ hfa
      have s0 := (CK.out.step hbr).c0
      clear hbr
      by_cases hlt : q < N
      case pos =>
        obtain ⟨bf, of, hca, htc⟩ := HTC.out (by omega)
        subst hca
        obtain ⟨f, hfx⟩ : ∃ f, c.fields[q]? = some f := ⟨_, List.getElem?_eq_getElem (by rw [HN.out]; exact hlt)⟩
        have hfs : f.size <= 1048576 := HCS.out f (List.mem_of_getElem? hfx)
        have hdr : c.fields.drop q = f :: c.fields.drop (q + 1) := by
          obtain ⟨h1, h2⟩ := List.getElem?_eq_some_iff.1 hfx
          rw [List.drop_eq_getElem_cons h1, h2]
        have hcf2 := cell_keep HB.out (htc q f hfx)
        have hlg := HLG.out wr f HB.out
        have hcond : (Tok.has all f || Tok.has five f || decide (0 <= cls cs f)) = (Tok.has all f || decide (glob cs f ≠ 0)) := by
          have h1 := glob_pos cs f
          rw [Bool.or_assoc]
          congr 1
          rw [Bool.eq_iff_iff, Bool.or_eq_true, decide_eq_true_iff, decide_eq_true_iff, h1]
          exact Or.comm
        have HBAD : Hid ((Tok.has all f || decide (glob cs f ≠ 0)) = true -> R = fieldUse f) := zH (fun h => by
          have e : fieldsP cs FL c.fields = (fieldUse f, all) := by rw [HFP.out, hdr, fieldsP, hcond, if_pos h]
          rw [hV.out, e]; exact if_pos (fieldUse_ne f))
        have HGOOD : Hid ((Tok.has all f || decide (glob cs f ≠ 0)) = false -> fieldsP cs FL c.fields = fieldsP cs (all ++ [f]) (c.fields.drop (q + 1))) := zH (fun h => by rw [HFP.out, hdr, fieldsP, hcond, h]; rfl)
        have HFA2 : Hid (fieldsAll FL c.fields (q + 1) (all ++ [f])) := zH (by
          have h := HFA.out
          unfold fieldsAll at h ⊢
          obtain ⟨h1, h2⟩ := List.getElem?_eq_some_iff.1 hfx
          rw [List.take_succ_eq_append_getElem h1, h2, h, List.append_assoc])
        have KH := zH (contains_any _ all f wr (texts_at HT.out))
        have HUV : Hid (fieldUse f = ⟨#[102, 105, 101, 108, 100, 32]⟩ ++ f ++ ⟨#[32, 105, 115, 32, 105, 110, 32, 117, 115, 101]⟩) := zH rfl
        obtain ⟨hadd, hadd2⟩ := add2 ⟨#[102, 105, 101, 108, 100, 32]⟩ ⟨#[32, 105, 115, 32, 105, 110, 32, 117, 115, 101]⟩ f (by decide) (by decide) hfs
        clear htc hfx hdr hcond HFP HFA HLG
        have HNE : Hid (R = fieldUse f -> ¬ R.data.toList = []) := zH (fun h => by rw [h]; exact fieldUse_ne f)
        by_cases hg0 : glob cs f = 0
        case neg =>
          rw [decide_eq_true hg0] at hlg
          have hR := zH (HBAD.out (by rw [decide_eq_true hg0, Bool.or_true]))
          clear HBAD HGOOD hg0 KH
          generalize glob cs f = gv at *
          go_wp2_with fail
          go_ret
          rw [hA.out]
          exact ⟨by rw [hR.out, HUV.out]; rfl, bt_below HB.out, fun h => absurd h (HNE.out hR.out)⟩
        rw [decide_eq_false (by simp [hg0]), hg0] at hlg
        generalize hx1 : Tok.has all f = x1 at *
        clear hx1
        cases x1 with
        | true =>
          have hR := zH (HBAD.out (by simp))
          clear HBAD HGOOD hg0
          go_wp2_with fail
          refine KH.out.mono ?_
          rintro e w3 ⟨rfl, rfl⟩
          clear KH
          go_wp2_with fail
          go_ret
          rw [hA.out]
          exact ⟨by rw [hR.out, HUV.out]; rfl, bt_below HB.out, fun h => absurd h (HNE.out hR.out)⟩
        | false =>
          have HG := zH (HGOOD.out (by rw [hg0]; decide))
          clear HBAD HGOOD hg0 hadd hadd2 HUV HNE
          have KCl := zH (clip_any la all.length lc wr hlc1 (by unfold maxLen; omega) (fun e => by
            rcases HF.out with ⟨e1, e2⟩ | ⟨b, o', c'', e1⟩
            · exact ⟨e2, (Value.slice.inj e1).2.2⟩
            · have := (Value.slice.inj e1).1; rw [e] at this; cases this) (fun x e => by
            rcases HF.out with ⟨e1, e2⟩ | ⟨b, o', c'', e1⟩
            · have := (Value.slice.inj e1).1; rw [e] at this; cases this
            · have := (Value.slice.inj e1).1; rw [e] at this; cases this; rfl))
          go_wp2_with fail
          refine KH.out.mono ?_
          rintro e w3 ⟨rfl, rfl⟩
          clear KH
          go_wp2_with fail
          refine KCl.out.mono ?_
          rintro e w3 ⟨rfl, rfl⟩
          clear KCl
          have hb3 : Below wr.heap.size wr (wr.alloc (.cells #[.string f] 9)) := (zB _ _).alloc (zL _) _
          have HT3 := zH (HT.out.below hb3)
          have HC3 : Hid ((wr.alloc (.cells #[.string f] 9)).cell? ⟨wr.heap.size, 0, none⟩ = some (.string f)) := zH (by go_simp)
          have HB3 := zH (HB.out.trans (hb3.mono HB.out.size))
          clear hb3
          go_wp2_with (at_builtin; go_must (refine wpList_append_clip rfl _ _ rfl la lc all rfl HT3.out HF.out f wr.heap.size rfl HC3.out (by omega) ?_))
          intro vb wb hown hlow
          have HTB := zH (own_texts0 (xs := all ++ [f]) (by simpa using hown) (fun x hx => by
            rcases List.mem_append.1 hx with h1 | h1
            · exact Nat.le_trans (HAS.out x h1) (by unfold maxLen; omega)
            · simp at h1; subst h1; unfold maxLen; omega))
          have HFB : Hid (Formed vb (all ++ [f]).length) := zH (by have := own_formed hown; simpa using this)
          have HBB := zH (HB3.out.trans (hlow.mono (by have := HB.out.size; simp; omega)))
          clear hown hlow HT3 HC3 HB3 HT HF hcf2 hlg s0
          go_wp2_with fail
          go_roundw
          case rel => exact ⟨q + 1, all ++ [f], by omega, by go_num, HTB.out, HFB.out, HG.out, by have := HAL.out; simp; omega, fun x hx => by (rcases List.mem_append.1 hx with h1 | h1; exact HAS.out x h1; simp at h1; subst h1; exact hfs), fun _ => trivial, HFA2.out, HBB.out⟩
          case measure => simp [intOf]; omega
      have hqN : q = N := by omega
      have HE : Hid (fieldsP cs FL c.fields = (ByteArray.empty, all)) := zH (by rw [HFP.out, List.drop_of_length_le (by rw [HN.out]; omega), fieldsP])
      have HV2 : Hid (R = if 8 < all.length then manyFields c.name else repP [] c.methods) := zH (by
        rw [hV.out, HE.out]; exact if_neg (fun h => h rfl))
      have HALL : Hid (all = FL ++ c.fields) := zH (by
        have h := HFA.out
        unfold fieldsAll at h
        rw [h, List.take_of_length_le (by rw [HN.out]; omega)])
      have d0 := (CC.out.step HB.out).c0
      clear hV HE HFP HFA HTC HLG HAS HAL s0 hqN
      by_cases h8 : 8 < all.length
      case pos =>
        have hR : Hid (R = ⟨#[99, 108, 97, 115, 115, 32]⟩ ++ c.name ++ ⟨#[32, 104, 97, 115, 32, 116, 111, 111, 32, 109, 97, 110, 121, 32, 102, 105, 101, 108, 100, 115]⟩) := zH (by rw [HV2.out, if_pos h8]; rfl)
        obtain ⟨hadd, hadd2⟩ := add2 ⟨#[99, 108, 97, 115, 115, 32]⟩ ⟨#[32, 104, 97, 115, 32, 116, 111, 111, 32, 109, 97, 110, 121, 32, 102, 105, 101, 108, 100, 115]⟩ c.name (by decide) (by decide) hn1
        have h8' : (8 : Int) < (all.length : Int) := by omega
        clear HV2 h8
        go_wp2_with fail
        go_ret
        rw [hA.out]
        exact ⟨by rw [hR.out]; rfl, bt_below HB.out, fun h => absurd (hR.out ▸ h) (by rw [ByteArray.data_append, ByteArray.data_append, Array.toList_append, Array.toList_append]; simp)⟩
      have hR : Hid (R = repP [] c.methods) := zH (by rw [HV2.out, if_neg h8])
      have h8' : ¬ (8 : Int) < (all.length : Int) := by omega
      have s1 := (CK.out.step HB.out).c1
      clear HV2 h8
      go_upto_region 17 with fail
      have hbd : Below wr.heap.size wr wr.drew := (zB _ _).drew
      have hM0 := HTm.out.step (HB.out.trans (hbd.mono HB.out.size))
      have hF0 := HFm.out.step (HB.out.trans (hbd.mono HB.out.size))
      obtain ⟨w5, hrun5, hm5, hb5⟩ := hM0.store (lawU wr.drew) c.name (.int .i64 2)
      have HM5 : Hid (Mp Value.string w5 T (mapOf (glob (bs ++ [c])))) := zH (hm5.cast (fun k => by rw [hGS.out, mapOf_put _ _ _ (by omega)]; rfl))
      have HK5 : Hid (Soft.KeptF 0 wr w5) := zH ((Soft.keptF_below hbd).trans (hb5.keptF hM0.za2 0))
      have HF5 : Hid (FMap w5 F (φof bs)) := zH (hF0.but hb5 hM0.za2 (fun e => hTF e.symm))
      have HBT5 : Hid (Bt T F w w5) := zH ((bt_below (HB.out.trans (hbd.mono HB.out.size))).trans (bt_left hb5))
      have HKw : Hid (Soft.KeptF 0 w w5) := zH ((Soft.keptF_below HB.out).trans HK5.out)
      have HT5 := zH (HT.out.keep (zL _) HK5.out.1)
      have S2 : Hid (w5.cell? ⟨Cb, 2, none⟩ = some (.map (some F))) := zH (HKw.out.1 _ _ _ (Nat.zero_le _) CK.out.c2)
      have D0 : Hid (w5.cell? ⟨db, dO, none⟩ = some (.string c.name)) := zH (HKw.out.1 _ _ _ (Nat.zero_le _) CC.out.c0)
      clear hbd hM0 hF0 hm5 hb5 HTm HFm HT HK5
      go_region
      all_goals
        clear s1 d0 h8' hrun5
        have s2 := S2.out
        have d0 := D0.out
        go_upto_region 18 with fail
        obtain ⟨Mf, g1, g2, g3⟩ := HF5.out
        have hbd : Below w5.heap.size w5 w5.drew := (zB _ _).drew
        obtain ⟨w6, hrun6, hm6, hb6⟩ := (g1.step hbd).store (lawF w5.drew) c.name (.slice la all.length lc)
        have HK6 : Hid (Soft.KeptF 0 w w6) := zH (HKw.out.trans ((Soft.keptF_below hbd).trans (hb6.keptF (g1.step hbd).za2 0)))
        have HM6 : Hid (Mp Value.string w6 T (mapOf (glob (bs ++ [c])))) := zH ((HM5.out.step hbd).but hb6 hTF)
        have HBT6 : Hid (Bt T F w w6) := zH ((HBT5.out.trans (bt_below hbd)).trans (bt_right hb6))
        have HF6 : Hid (FMap w6 F (φof (bs ++ [c]))) := zH (FMap.store (g1.step hbd) g2 (fun k xs hk => by
          obtain ⟨u, e1, e2, e3⟩ := g3 k xs hk
          exact ⟨u, e1, e2.below hbd, e3⟩) hb6 (HT5.out.below hbd) HF.out (fun n => by rw [hPS.out n, HALL.out]) hm6)
        clear hbd g1 g2 g3 hm6 hb6 HM5 HF5 HBT5 HKw HT5
        go_region
        all_goals
          clear s2 d0 hrun6
          have d3 : w6.cell? ⟨db, dO + 3, none⟩ = some (.slice ma c.methods.length mc) := HK6.out.1 _ _ _ (Nat.zero_le _) CC.out.c3
          have K := zH (ImplRep.repeated_any c.methods HMS.out w6 ma mc (by have := HST.out.room; omega) (fun k m hk => by
            obtain ⟨b, o, x2, x3, x4, e, hmc, -, -⟩ := HST.out.meths k m hk
            exact ⟨b, o, e, HK6.out.1 _ _ _ (Nat.zero_le _) hmc.c0, HK6.out.1 _ _ _ (Nat.zero_le _) hmc.c1⟩))
          rw [<- hR.out] at K
          go_wp2_with fail
          refine K.out.mono ?_
          rintro e w7 ⟨rfl, hb7⟩
          have HB7 := zH hb7
          clear hb7 K d3
          go_wp2_with fail
          go_ret
          rw [hA.out]
          exact ⟨rfl, HBT6.out.trans (bt_below HB7.out), fun _ => ⟨HM6.out.step HB7.out, HF6.out.step HB7.out⟩⟩
end ImplScope
end Go.Proofs.YtnlgdkfenipmfaaGreatDoor
