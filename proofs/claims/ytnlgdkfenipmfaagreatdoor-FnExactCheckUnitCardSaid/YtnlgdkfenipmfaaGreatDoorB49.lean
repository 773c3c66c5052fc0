/-
  ImplUnitM ImplUnitC ImplCheckU FnExactCheckUnitWalk
-/
import Derived.Test.YtnlgdkfenipmfaaGreatDoorB8
import Derived.Test.YtnlgdkfenipmfaaGreatDoorB48
namespace Go.Proofs.YtnlgdkfenipmfaaGreatDoor
namespace ImplScope
open Go.RowKit
open Strs Tree Go.Proofs.YtnlgdkfenipmfaaGreatDoor.Data Chk SpecChk SMap ImplFirst ImplLib ImplMeth
theorem has_super : Tok.has five tSuper = true := has_iff.2 (.tail _ (.head _))
theorem four_super : Tok.has four tSuper = false := by
  rw [<- Bool.not_eq_true, has_iff]
  intro h
  unfold four at h
  simp only [List.mem_cons, List.not_mem_nil, or_false] at h
  rcases h with h | h | h | h <;> exact absurd h (by decide)
theorem text_super : tSuper ∉ [tText] := by
  intro h
  rw [List.mem_singleton] at h
  exact absurd h (by decide)
def ClsOk (cs : List C) (i : Nat) : Prop := ∀ (j : Nat) (c : C), cs[j]? = some c -> j < i -> classP cs (cs.take j) c = ByteArray.empty
theorem classP_name {cs bs : List C} {c : C} (h : classP cs bs c = ByteArray.empty) : cls bs c.name < 0 /\ Tok.has five c.name = false := by
  unfold classP at h
  split at h
  · exfalso
    have := congrArg (fun b : ByteArray => b.data.toList) h
    simp [classThere] at this
  · rename_i hs
    rw [Bool.or_eq_true, decide_eq_true_iff, not_or] at hs
    exact ⟨by omega, by simpa using hs.2⟩
theorem fieldsP_super (cs : List C) : ∀ (fs all : List ByteArray), (fieldsP cs all fs).1.data.toList = [] -> tSuper ∉ fs
  | [], _, _ => List.not_mem_nil
  | f :: fs, all, h => by
    rw [fieldsP] at h
    split at h
    · exact absurd h (fieldUse_ne f)
    · rename_i hn
      intro hm
      rcases List.mem_cons.1 hm with e | e
      · apply hn
        rw [<- e]
        rw [Bool.or_eq_true, Bool.or_eq_true]
        exact .inl (.inr has_super)
      · exact fieldsP_super cs fs _ h e
theorem classP_fields {cs bs : List C} {c : C} (h : classP cs bs c = ByteArray.empty) : tSuper ∉ c.fields := by
  have hn := classP_name h
  have hp := classP_parent h
  unfold classP at h
  rw [if_neg (by rw [Bool.or_eq_true, decide_eq_true_iff, hn.2]; simp; omega), if_neg (by rw [hp]; decide)] at h
  by_cases hf : (fieldsP cs (flds bs (bs.length + 1) (cls bs c.parent)) c.fields).1.data.toList = []
  · exact fieldsP_super cs _ _ hf
  · rw [if_pos hf] at h
    rw [h] at hf
    exact absurd rfl hf
theorem take_split (cs : List C) {i : Nat} {c : C} (h : cs[i]? = some c) : cs = (cs.take i ++ [c]) ++ cs.drop (i + 1) := by
  obtain ⟨h1, rfl⟩ := List.getElem?_eq_some_iff.1 h
  rw [<- List.take_succ_eq_append_getElem h1, List.take_append_drop]
theorem name_cls {cs : List C} {i : Nat} {c : C} (h : cs[i]? = some c) (hc : classP cs (cs.take i) c = ByteArray.empty) : cls cs c.name = 16 + (i : Int) := by
  have h1 := cls_name (classP_name hc).1
  have hi := (List.getElem?_eq_some_iff.1 h).1
  rw [List.length_take, Nat.min_eq_left (Nat.le_of_lt hi)] at h1
  conv => lhs; rw [take_split cs h]
  rw [cls_append (by rw [h1]; omega), h1]
theorem φ_at {cs : List C} {i : Nat} {c : C} (h : cs[i]? = some c) (hc : classP cs (cs.take i) c = ByteArray.empty) : φof cs c.name = some (flds cs (cs.length + 1) (16 + (i : Int))) := by
  unfold φof
  rw [name_cls h hc]
  have hsh : shut (16 + (i : Int)) = false := by
    unfold shut
    rw [decide_eq_false (by omega), decide_eq_false (by omega : ¬ 16 + (i : Int) < 16), Bool.and_false, Bool.or_false]
  rw [hsh, if_neg (by decide)]
theorem good_take {cs : List C} {i : Nat} (hi : i <= cs.length) (h : ClsOk cs i) : SpecChk.Good (cs.take i) := by
  intro j d hd
  have h2 := down_take cs i hi h j d hd
  rw [List.getElem?_take] at hd
  split at hd
  · rename_i hji
    have hs := classP_parent (h j d hd hji)
    unfold shut at hs
    rw [Bool.or_eq_false_iff, decide_eq_false_iff_not] at hs
    have h0 : 0 <= cls (cs.take j) d.parent := by omega
    refine ⟨?_, h2⟩
    rw [cls_take (Nat.le_of_lt hji) h0]
    exact h0
  · cases hd
theorem no_super {cs : List C} (h : ClsOk cs cs.length) : ¬ 0 <= cls cs tSuper := by
  intro h0
  unfold cls at h0
  have hb : ¬ 0 <= index Builtin.names tSuper := by decide
  rw [if_neg hb] at h0
  by_cases h2 : 0 <= index (cnames cs) tSuper
  · have hm := index_mem.1 h2
    obtain ⟨c, hc, he⟩ := List.mem_map.1 hm
    obtain ⟨i, hi, rfl⟩ := List.getElem_of_mem hc
    have := (classP_name (h i _ (List.getElem?_eq_getElem hi) hi)).2
    rw [he, has_super] at this
    cases this
  · rw [if_neg h2] at h0
    omega
theorem flds_super {cs : List C} (h : ClsOk cs cs.length) : ∀ (f : Nat) (k : Int), tSuper ∉ flds cs f k
  | 0, _ => by rw [flds]; exact List.not_mem_nil
  | f + 1, k => by
    rw [flds]
    split
    · exact text_super
    · split
      · exact List.not_mem_nil
      · split
        · rename_i d hd
          rw [List.mem_append, not_or]
          refine ⟨flds_super h f _, ?_⟩
          exact classP_fields (h _ _ hd (List.getElem?_eq_some_iff.1 hd).1)
        · exact List.not_mem_nil
theorem sup_use {cs : List C} (h : ClsOk cs cs.length) (FL : List ByteArray) (hf : tSuper ∉ FL) : Sup (use cs [] [] FL) := by
  intro n
  have hs := no_super h
  unfold use glob
  constructor
  · intro he
    split at he
    · omega
    · split at he
      · omega
      · split at he
        · omega
        · split at he
          · assumption
          · omega
  · intro he
    subst he
    have e1 : (Tok.has [] tSuper || Tok.has FL tSuper) = false := by
      rw [Bool.or_eq_false_iff]
      refine ⟨rfl, ?_⟩
      rw [<- Bool.not_eq_true, has_iff]
      exact hf
    rw [e1, if_neg (by decide), show Tok.has [] tSuper = false from rfl, if_neg (by decide), decide_eq_false hs, four_super, Bool.or_false, if_neg (by decide), if_pos rfl]
theorem sup_glob {cs : List C} (h : ClsOk cs cs.length) : Sup (glob cs) := by
  rw [<- use_glob]
  exact sup_use h [] List.not_mem_nil
def clsOne (cs : List C) (i : Nat) : ByteArray := match cs[i]? with | some c => classP cs (cs.take i) c | none => ByteArray.empty
theorem firsts_cls (cs : List C) : ∀ n i, cs.length - i = n -> firsts (clsOne cs) i n = classesP cs i (cs.drop i) := by
  intro n
  induction n with
  | zero => intro i h; rw [List.drop_of_length_le (by omega), firsts, classesP]
  | succ n ih =>
    intro i h
    have hi : i < cs.length := by omega
    rw [firsts, ih (i + 1) (by omega), List.drop_eq_getElem_cons hi, classesP]
    unfold clsOne
    rw [List.getElem?_eq_getElem hi]
def allOne (cs : List C) (i : Nat) : ByteArray := match cs[i]? with | some c => methsP cs (16 + (i : Int)) c.methods | none => ByteArray.empty
theorem firsts_all (cs : List C) : ∀ n i, cs.length - i = n -> firsts (allOne cs) i n = allP cs i (cs.drop i) := by
  intro n
  induction n with
  | zero => intro i h; rw [List.drop_of_length_le (by omega), firsts, allP]
  | succ n ih =>
    intro i h
    have hi : i < cs.length := by omega
    rw [firsts, ih (i + 1) (by omega), List.drop_eq_getElem_cons hi, allP]
    unfold allOne
    rw [List.getElem?_eq_getElem hi]
theorem main_chk (cs : List C) (m : M) : methP cs (-1) m = chk false (glob cs) (bodyE m) := by
  unfold methP SpecChk.seen
  rw [if_neg (by omega), use_glob, decide_eq_false (by omega)]
theorem rt_of {e : E} (h : isExpr e = true) : Rt e := by
  unfold isExpr at h
  rw [Bool.and_eq_true] at h
  exact ⟨true, h.2⟩
end ImplScope
namespace ImplScope
open Go.RowKit
open Strs Tree Go.Proofs.YtnlgdkfenipmfaaGreatDoor.Data Chk SpecChk SMap ImplFirst ImplLib ImplMeth
structure UAt (w : World) (B : Nat) (u : U) (ca : Option Addr) (cc : Nat) (v2 v3 v4 : Value) : Prop where
  c0 : w.cell? ⟨B, 0, none⟩ = some (.slice ca u.classes.length cc)
  mc : MCell w B 1 u.main v2 v3 v4
  ms : MSt w u.main v2 v3 v4
  room : u.classes.length <= cc /\ cc <= maxLen
  cl : ∀ k c, u.classes[k]? = some c -> ∃ b o v2 ma mc, ca = some ⟨b, o, none⟩ /\ CCell w b (o + k * 4) c v2 ma mc /\ CSt w c v2 ma mc
theorem UAt.below {w w' : World} {B : Nat} {u : U} {ca : Option Addr} {cc : Nat} {v2 v3 v4 : Value} (h : UAt w B u ca cc v2 v3 v4) (hb : Below w.heap.size w w') : UAt w' B u ca cc v2 v3 v4 :=
  ⟨cell_keep hb h.c0, h.mc.step hb, h.ms.below hb, h.room, fun k c hk => by
    obtain ⟨b, o, x2, ma, mc, e, h1, h2⟩ := h.cl k c hk
    exact ⟨b, o, x2, ma, mc, e, h1.step hb, h2.below hb⟩⟩
theorem Bt.cell {T F : Nat} {w w' : World} (h : Bt T F w w') {b o : Nat} {v : Value} (hT : b ≠ T) (hF : b ≠ F) (hc : w.cell? ⟨b, o, none⟩ = some v) : w'.cell? ⟨b, o, none⟩ = some v := by
  have he := h.block b (cell_lt hc) hT hF
  unfold World.cell? at hc ⊢
  simp only at hc ⊢
  rw [he]
  exact hc
theorem FMap.za2 {w : World} {F : Nat} {φ : ByteArray -> Option (List ByteArray)} (h : FMap w F φ) (o : Nat) (v : Value) : w.cell? ⟨F, o, none⟩ ≠ some v := by
  obtain ⟨Mf, h1, -, -⟩ := h
  exact h1.za2 o v
theorem Ckr.bt {w w' : World} {Cb G T F : Nat} (h : Ckr w Cb G T F) (hb : Bt T F w w') (hT : Cb ≠ T) (hF : Cb ≠ F) : Ckr w' Cb G T F := ⟨hb.cell hT hF h.c0, hb.cell hT hF h.c1, hb.cell hT hF h.c2⟩
theorem argsC (s p : Value) : ((#[s] : Array Value).push p ++ #[]) = #[s, p] := by simp
theorem enter_cls (args : Array Value) (w : World) : (callFunc 113 args).run Tryz.prog w = .ok (.enter 113 args) w := by kernel_rfl
theorem enter_ms (args : Array Value) (w : World) : (callFunc 114 args).run Tryz.prog w = .ok (.enter 114 args) w := by kernel_rfl
structure Small (u : U) : Prop where
  n : u.classes.length <= 8
  fl : ∀ d, d ∈ u.classes -> d.fields.length <= 4
  fs : ∀ d, d ∈ u.classes -> ∀ x, x ∈ d.fields -> x.size <= 1048576
  nm : ∀ d, d ∈ u.classes -> d.name.size <= 1048576 /\ d.parent.size <= 1048576
  sl : ∀ d, d ∈ u.classes -> ∀ m, m ∈ d.methods -> m.sel.size <= 1048576
  rt : ∀ d, d ∈ u.classes -> ∀ m, m ∈ d.methods -> Rt (bodyE m)
  rm : Rt (bodyE u.main)
  wm : Tree.weight (bodyE u.main) <= 1048576
theorem small_of {u : U} (h : unitOk u = true) (hw : Data.weights (plainU u) <= 1048576) : Small u := by
  obtain ⟨h1, h2⟩ := unit_small h
  obtain ⟨h3, h4⟩ := unit_parts hw
  unfold unitOk at h
  simp only [Bool.and_eq_true, decide_eq_true_iff, List.all_eq_true] at h
  refine ⟨h1, h2, fun d hd => (h4 d hd).2.1, fun d hd => (h4 d hd).1, fun d hd m hm => ((h4 d hd).2.2 m hm).1, fun d hd m hm => ?_, rt_of h.1.2, h3⟩
  have hc := h.2 d hd
  unfold classOk at hc
  simp only [Bool.and_eq_true, decide_eq_true_iff, List.all_eq_true] at hc
  have hm2 := hc.2 m hm
  unfold methodOk rightM at hm2
  simp only [Bool.and_eq_true] at hm2
  exact rt_of hm2.1.2
def Ph1 (cs : List C) (T F : Nat) (w : World) (r : Ending) (w' : World) : Prop :=
  r = .returned (.string (classesP cs 0 cs)) /\ Bt T F w w' /\ ((classesP cs 0 cs).data.toList = [] -> Mp Value.string w' T (mapOf (glob cs)) /\ FMap w' F (φof cs) /\ ClsOk cs cs.length)
theorem phase1 {u : U} (hs : Small u) {w0 w : World} {B : Nat} {ca : Option Addr} {cc : Nat} {v2 v3 v4 : Value} (hu : UAt w0 B u ca cc v2 v3 v4) (hb : Below w0.heap.size w0 w) {Cb G T F : Nat} (hT0 : w0.heap.size <= T) (hF0 : w0.heap.size <= F) (hGT : G ≠ T) (hGF : G ≠ F) (hTF : T ≠ F)
    (hck : Ckr w Cb G T F) (hG : Mp Value.string w G (mapOf (glob u.classes))) (hT : Mp Value.string w T (mapOf (glob []))) (hF : FMap w F (φof [])) :
    Calls Tryz.prog 112 #[.slice ca u.classes.length cc, .func (.func 113) #[.pointer (some ⟨Cb, 0, none⟩)] #[]] w (Ph1 u.classes T F w) := by
  have hCT : Cb ≠ T := fun e => hT.za2 0 _ (e ▸ hck.c0)
  have hCF : Cb ≠ F := fun e => hF.za2 0 _ (e ▸ hck.c0)
  generalize hcs : u.classes = cs at *
  have key : ∀ i w', i < cs.length -> (Bt T F w w' /\ Mp Value.string w' T (mapOf (glob (cs.take i))) /\ FMap w' F (φof (cs.take i)) /\ ClsOk cs i) ->
      ∃ x, ca = some x /\ Calls Tryz.prog 113 ((#[.pointer (some ⟨Cb, 0, none⟩)] : Array Value).push (.pointer (some (x.add (i * 4)))) ++ #[]) w' fun r w'' => r = .returned (.string (clsOne cs i)) /\ Bt T F w' w'' /\ ((clsOne cs i).data.toList = [] -> (Bt T F w w'' /\ Mp Value.string w'' T (mapOf (glob (cs.take (i + 1)))) /\ FMap w'' F (φof (cs.take (i + 1))) /\ ClsOk cs (i + 1))) := by
    intro i w' hi hI
    obtain ⟨hbt, hmT, hmF, hok⟩ := hI
    have hx := List.getElem?_eq_getElem hi
    have hmem := List.getElem_mem hi
    generalize cs[i] = c at hx hmem
    have hbb : Below w0.heap.size w0 w' := hb.trans (hbt.below hT0 hF0 hb.size)
    obtain ⟨b, o, x2, ma, mc, e, h1, h2⟩ := (hu.below hbb).cl i c (by rw [hcs]; exact hx)
    have hlt : (cs.take i).length <= 8 := by rw [List.length_take]; have := hs.n; rw [hcs] at this; omega
    have hin : ∀ d, d ∈ cs.take i -> d ∈ u.classes := fun d hd => by rw [hcs]; exact List.mem_of_mem_take hd
    have hcin : c ∈ u.classes := by rw [hcs]; exact hmem
    have hk := class_ok cs (cs.take i) c (good_take (Nat.le_of_lt hi) hok) hlt (fun d hd => hs.fl d (hin d hd)) (fun d hd => hs.fs d (hin d hd)) (hs.fl c hcin) (hs.fs c hcin) (hs.nm c hcin).1 (hs.nm c hcin).2 (hs.sl c hcin) w' Cb G T F b (o + i * 4) x2 ma mc hTF (hck.bt hbt hCT hCF) (hG.kept (hbt.block G hG.lt hGT hGF)) hmT hmF h1 h2
    have ho : clsOne cs i = classP cs (cs.take i) c := by unfold clsOne; rw [hx]
    have htk : cs.take (i + 1) = cs.take i ++ [c] := by
      obtain ⟨g1, g2⟩ := List.getElem?_eq_some_iff.1 hx
      rw [List.take_succ_eq_append_getElem g1, g2]
    refine ⟨_, e, ?_⟩
    rw [argsC, add_at]
    refine Calls.mono hk ?_
    intro r w'' hr
    obtain ⟨r1, r2, r3⟩ := hr
    refine ⟨by rw [r1, ho], r2, fun hz => ?_⟩
    rw [ho] at hz
    obtain ⟨r4, r5⟩ := r3 hz
    rw [htk]
    refine ⟨hbt.trans r2, r4, r5, fun j d hd hj => ?_⟩
    by_cases hji : j < i
    · exact hok j d hd hji
    · have : j = i := by omega
      subst this
      rw [hx] at hd
      cases hd
      exact ByteArray.ext (Array.toList_inj.1 hz)
  have hfr := firsts_cls cs cs.length 0 rfl
  rw [List.drop_zero] at hfr
  have hm : cs.length <= maxLen := by have := hu.room; rw [hcs] at this; omega
  have KF := first_cls 113 #[.pointer (some ⟨Cb, 0, none⟩)] #[] enter_cls ca cs.length cc (clsOne cs) (fun i w' => Bt T F w w' /\ Mp Value.string w' T (mapOf (glob (cs.take i))) /\ FMap w' F (φof (cs.take i)) /\ ClsOk cs i) (Bt T F) (Bt.refl T F) (fun _ _ _ => Bt.trans) w ⟨Bt.refl _ _ _, hT, hF, fun j c _ hj => absurd hj (Nat.not_lt_zero j)⟩ hm key
  rw [hfr] at KF
  refine Calls.mono KF ?_
  intro r w' h
  obtain ⟨h1, h2, h3⟩ := h
  refine ⟨h1, h2, fun hz => ?_⟩
  obtain ⟨-, h4, h5, h6⟩ := h3 hz
  rw [List.take_length] at h4 h5
  exact ⟨h4, h5, h6⟩
def Ph2 (cs : List C) (w : World) (r : Ending) (w' : World) : Prop := r = .returned (.string (allP cs 0 cs)) /\ Below w.heap.size w w'
theorem phase2 {u : U} (hs : Small u) {w0 w : World} {B : Nat} {ca : Option Addr} {cc : Nat} {v2 v3 v4 : Value} (hu : UAt w0 B u ca cc v2 v3 v4) (hb : Below w0.heap.size w0 w) {Cb G T F : Nat}
    (hck : Ckr w Cb G T F) (hG : Mp Value.string w G (mapOf (glob u.classes))) (hF : FMap w F (φof u.classes)) (hok : ClsOk u.classes u.classes.length) :
    Calls Tryz.prog 112 #[.slice ca u.classes.length cc, .func (.func 114) #[.pointer (some ⟨Cb, 0, none⟩)] #[]] w (Ph2 u.classes w) := by
  generalize hcs : u.classes = cs at *
  have key : ∀ i w', i < cs.length -> Below w.heap.size w w' ->
      ∃ x, ca = some x /\ Calls Tryz.prog 114 ((#[.pointer (some ⟨Cb, 0, none⟩)] : Array Value).push (.pointer (some (x.add (i * 4)))) ++ #[]) w' fun r w'' => r = .returned (.string (allOne cs i)) /\ Below w.heap.size w' w'' /\ ((allOne cs i).data.toList = [] -> Below w.heap.size w w'') := by
    intro i w' hi hI
    have hx := List.getElem?_eq_getElem hi
    have hmem := List.getElem_mem hi
    generalize cs[i] = c at hx hmem
    have hbb : Below w0.heap.size w0 w' := hb.trans (hI.mono hb.size)
    obtain ⟨b, o, x2, ma, mc, e, h1, h2⟩ := (hu.below hbb).cl i c (by rw [hcs]; exact hx)
    have hcin : c ∈ u.classes := by rw [hcs]; exact hmem
    have hsup : ∀ m, m ∈ c.methods -> Sup (use cs [] [] (if m.cls then [] else flds cs (cs.length + 1) (16 + (i : Int)))) := fun m _ => by
      refine sup_use hok _ ?_
      split
      · exact List.not_mem_nil
      · exact flds_super hok _ _
    have hk := methods_any cs c (16 + (i : Int)) (by omega) (hs.rt c hcin) hsup w' Cb G T F b (o + i * 4) x2 ma mc (φof cs) (hck.step hI) (hG.step hI) (hF.step hI) (φ_at hx (hok i c hx hi)) h1 h2
    have ho : allOne cs i = methsP cs (16 + (i : Int)) c.methods := by unfold allOne; rw [hx]
    refine ⟨_, e, ?_⟩
    rw [argsC, add_at]
    refine Calls.mono hk ?_
    intro r w'' hr
    obtain ⟨r1, r2⟩ := hr
    have r3 := r2.mono hI.size
    exact ⟨by rw [r1, ho], r3, fun _ => hI.trans r3⟩
  have hfr := firsts_all cs cs.length 0 rfl
  rw [List.drop_zero] at hfr
  have hm : cs.length <= maxLen := by have := hu.room; rw [hcs] at this; omega
  have KF := first_cls 114 #[.pointer (some ⟨Cb, 0, none⟩)] #[] enter_ms ca cs.length cc (allOne cs) (fun _ w' => Below w.heap.size w w') (Below w.heap.size) (zB _) (fun _ _ _ => Below.trans) w (zB _ _) hm key
  rw [hfr] at KF
  refine Calls.mono KF ?_
  intro r w' h
  obtain ⟨h1, h2, -⟩ := h
  exact ⟨h1, h2⟩
set_option maxRecDepth 100000 in
set_option maxHeartbeats 8000000 in
theorem unit_any {u : U} (hs : Small u) {w0 w : World} {B : Nat} {ca : Option Addr} {cc : Nat} {v2 v3 v4 : Value} (hu : UAt w0 B u ca cc v2 v3 v4) (hb : Below w0.heap.size w0 w) {Cb G T F : Nat} (hG0 : w0.heap.size <= G) (hT0 : w0.heap.size <= T) (hF0 : w0.heap.size <= F) (hGT : G ≠ T) (hGF : G ≠ F) (hTF : T ≠ F)
    (hck : Ckr w Cb G T F) (hG : Mp Value.string w G (mapOf (glob u.classes))) (hT : Mp Value.string w T (mapOf (glob []))) (hF : FMap w F (φof [])) :
    Calls Tryz.prog 57 #[.pointer (some ⟨Cb, 0, none⟩), .pointer (some ⟨B, 0, none⟩)] w fun r w' => r = .returned (.string (unitP u)) /\ Below w0.heap.size w0 w' := by
  have hCT : Cb ≠ T := fun e => hT.za2 0 _ (e ▸ hck.c0)
  have hCF : Cb ≠ F := fun e => hF.za2 0 _ (e ▸ hck.c0)
  have K1 := zH (phase1 hs hu hb hT0 hF0 hGT hGF hTF hck hG hT hF)
  have K2 := fun (w1 : World) (hb1 : Below w0.heap.size w0 w1) (hbt : Bt T F w w1) (hF1 : FMap w1 F (φof u.classes)) (hok : ClsOk u.classes u.classes.length) => zH (phase2 hs hu hb1 (hck.bt hbt hCT hCF) (hG.kept (hbt.block G hG.lt hGT hGF)) hF1 hok)
  have K3 := fun (w3 : World) (S : Nat) (hb3 : Below w0.heap.size w0 w3) (hE : Env w3 S G false (glob u.classes)) (hok : ClsOk u.classes u.classes.length) => zH (method_ok false u.main hs.rm hs.wm (glob u.classes) (sup_glob hok) w3 S G B 1 v2 v3 v4 hE (hu.below hb3).ms (hu.below hb3).mc)
  have HV : Hid (unitP u = first (classesP u.classes 0 u.classes) (first (allP u.classes 0 u.classes) (chk false (glob u.classes) (bodyE u.main)))) := zH (by unfold unitP; rw [main_chk])
  have HC := fun (w1 : World) (hbt : Bt T F w w1) => zH (hck.bt hbt hCT hCF)
  have HG := fun (w1 : World) (hbt : Bt T F w w1) => zH (hG.kept (hbt.block G hG.lt hGT hGF))
  have HB := zH hb
  have HU := zH hu
  have HBT := fun (w1 : World) (hbt : Bt T F w w1) => zH (hb.trans (hbt.below hT0 hF0 hb.size))
  have HP : Hid (∀ z r w', Ph1 u.classes T F w (.returned r) w' -> r = .string z -> z = classesP u.classes 0 u.classes) := zH (fun z r w' h e => by
    obtain ⟨h1, -, -⟩ := h
    cases h1
    cases e
    rfl)
  have hcB := (hu.below hb).c0
  clear hs hu hb hGT hGF hTF hck hG hT hF hCT hCF HP
  generalize unitP u = R at *
  go_enter Tryz.func57, Tryz.ntmps57
  go_wp2_with fail
  refine K1.out.mono ?_
  intro r w1 hr
  obtain ⟨rfl, hbt, h3⟩ := hr
  have H3 := zH h3
  have HB1 := HBT w1 hbt
  have HC1 := HC w1 hbt
  have HG1 := HG w1 hbt
  have hcB1 := (HU.out.below HB1.out).c0
  have HZ : Hid (classesP u.classes 0 u.classes = classesP u.classes 0 u.classes) := zH rfl
  by_cases hz : (classesP u.classes 0 u.classes).data.toList = []
  rotate_left
  · have HR := zH (HV.out.trans (first_some hz _))
    have hze := zae hz
    clear h3 H3 K2 K3 HZ HV K1
    generalize classesP u.classes 0 u.classes = z at *
    go_wp2_with fail
    go_ret
    exact ⟨by rw [HR.out]; rfl, HB1.out⟩
  obtain ⟨hm1, hF1, hok⟩ := H3.out hz
  have KK2 := K2 w1 HB1.out hbt hF1 hok
  have KK3 := fun (w3 : World) (S : Nat) (hb3 : Below w0.heap.size w0 w3) (hE : Env w3 S G false (glob u.classes)) => K3 w3 S hb3 hE hok
  have hze := zaj hz
  have HV1 : Hid (R = first (allP u.classes 0 u.classes) (chk false (glob u.classes) (bodyE u.main))) := zH (HV.out.trans (if_pos hz))
  clear h3 H3 K1 K2 K3 HZ HC HG HBT hbt hm1 hF1 hok hz HV
  generalize classesP u.classes 0 u.classes = z1 at *
  go_wp2_with fail
  refine KK2.out.mono ?_
  intro r w2 hr
  obtain ⟨rfl, hb2⟩ := hr
  have HB2 := zH (HB1.out.trans (hb2.mono HB1.out.size))
  have HC2 := zH (HC1.out.step hb2)
  have HG2 := zH (HG1.out.step hb2)
  have hcB2 := (HU.out.below HB2.out).c0
  clear hb2 HB1 HC1 HG1 KK2
  by_cases hz : (allP u.classes 0 u.classes).data.toList = []
  rotate_left
  · have HR := zH (HV1.out.trans (first_some hz _))
    have hze := zae hz
    clear KK3 HV1
    generalize allP u.classes 0 u.classes = z at *
    go_wp2_with fail
    go_ret
    exact ⟨by rw [HR.out]; rfl, HB2.out⟩
  have hze2 := zaj hz
  have HV2 : Hid (R = chk false (glob u.classes) (bodyE u.main)) := zH (HV1.out.trans (if_pos hz))
  clear hz HV1
  generalize allP u.classes 0 u.classes = z2 at *
  generalize chk false (glob u.classes) (bodyE u.main) = z3 at *
  have cc0 := HC2.out.c0
  go_wp2_with fail
  have hba : Below w2.heap.size w2 (w2.alloc (.cells #[.map (some G), .bool false] 167)) := (zB _ _).alloc (zL _) _
  have HB3 := zH (HB2.out.trans (hba.mono HB2.out.size))
  refine (KK3 _ w2.heap.size HB3.out ⟨by go_simp, by go_simp, HG2.out.step hba⟩).out.mono ?_
  intro r w3 hr
  obtain ⟨rfl, ht, -⟩ := hr
  have HB4 := zH (HB3.out.trans (ht.1.below hG0 HB3.out.size))
  clear ht hba KK3 HG2 HC2 hcB2 cc0
  go_wp2_with fail
  go_ret
  exact ⟨by rw [HV2.out]; rfl, HB4.out⟩
end ImplScope
namespace ImplScope
open Go.RowKit
open Strs Tree Errs Go.Proofs.YtnlgdkfenipmfaaGreatDoor.Data Chk SpecChk SMap ImplFirst ImplLib ImplMeth
set_option maxRecDepth 100000 in
set_option maxHeartbeats 8000000 in
theorem check_unit {w : World} {u : U} {ds : List D} {a : Addr} (hd : erases ds = plainU u) (ho : Own 0 w ds) (hw : Data.weights (erases ds) <= 1048576) (he : Err w a) :
    Calls Tryz.prog 21 #[agg ds] w fun r w' => r = .returned (.tuple #[.string (if unitOk u then unitP u else ByteArray.empty), .bool (unitOk u)]) /\ Below w.heap.size w w' := by
  have hw' := hw
  rw [hd] at hw'
  obtain ⟨ca, cc, v2, v3, v4, hv, hm, hwm, hcc, hcs⟩ := unit_own hd ho hw'
  have hag : agg ds = .agg #[.slice ca u.classes.length cc, .string u.main.sel, .bool u.main.cls, v2, v3, v4] := by
    show Value.agg (vals ds).toArray = _
    unfold vals
    rw [hv]
  obtain ⟨W, hW⟩ : ∃ W, W = w.alloc (.cells #[.slice ca u.classes.length cc, .string u.main.sel, .bool u.main.cls, v2, v3, v4] 30) := ⟨_, rfl⟩
  have hb0 : Below w.heap.size w W := by rw [hW]; exact (zB _ _).alloc (zL _) _
  have hz := zab w [.row 0 4 (.slice ca u.classes.length cc) [], .str u.main.sel, .bool u.main.cls, .row 0 1 v2 [], .row 0 1 v3 [], .row 0 5 v4 []] 30
  have z0 := hz.at 0 (.row 0 4 (.slice ca u.classes.length cc) []) rfl
  have z1 := hz.at 1 (.str u.main.sel) rfl
  have z2 := hz.at 2 (.bool u.main.cls) rfl
  have z3 := hz.at 3 (.row 0 1 v2 []) rfl
  have z4 := hz.at 4 (.row 0 1 v3 []) rfl
  have z5 := hz.at 5 (.row 0 5 v4 []) rfl
  have hU : UAt W w.heap.size u ca cc v2 v3 v4 := by
    rw [hW] at hb0 ⊢
    exact ⟨z0, ⟨z1, z2, z3, z4, z5⟩, hm.below hb0, hcc, fun k c hk => by
      obtain ⟨b', o', x2, ma, mc, e, h1, h2⟩ := hcs k c hk
      exact ⟨b', o', x2, ma, mc, e, h1.step hb0, h2.below hb0⟩⟩
  have KI := zH (is_unit hd (ho.below hb0) hw (he.keep hb0))
  have KN := fun (w1 : World) (hb : Below W.heap.size W w1) => zH (newChecker_any u.classes w1 w.heap.size ca cc (hU.below hb).c0 hcc (fun k c hk => by
    obtain ⟨b', o', x2, ma, mc, e, h1, h2⟩ := (hU.below hb).cl k c hk
    exact ⟨b', o', e, h1.c0⟩))
  have KU := fun (hok : unitOk u = true) (w1 : World) (hb : Below W.heap.size W w1) (Cb G T F : Nat) (hG0 : W.heap.size <= G) (hT0 : W.heap.size <= T) (hF0 : W.heap.size <= F) hGT hGF hTF hck hG hT hF => zH (unit_any (small_of hok hw') hU hb (Cb := Cb) (G := G) (T := T) (F := F) hG0 hT0 hF0 hGT hGF hTF hck hG hT hF)
  have HB := zH hb0
  have HW := zH hW
  rw [hag] at KI ⊢
  clear hd ho hw he hag hm hwm hcs hb0 hz hU hv hW hw' z0 z1 z2 z3 z4 z5
  generalize unitP u = R at *
  generalize u.classes.length = N at *
  cases hok : unitOk u with
  | false =>
    rw [hok] at KI
    clear KU KN hok
    go_enter Tryz.func21, Tryz.ntmps21
    go_wp2_with fail
    rw [<- HW.out]
    refine KI.out.mono ?_
    intro r w1 hr
    obtain ⟨rfl, hb1⟩ := hr
    have HB1 := zH (HB.out.trans (hb1.mono HB.out.size))
    clear hb1 KI HB HW
    go_wp2_with fail
    exact bodyPost_ret (v := .tuple #[.string ByteArray.empty, .bool false]) (by simp [results, Tryz.results21, go_sem]; rfl) rfl ⟨rfl, HB1.out⟩
  | true =>
    rw [hok] at KI
    have KU2 := KU hok
    clear KU hok
    go_enter Tryz.func21, Tryz.ntmps21
    go_wp2_with fail
    rw [<- HW.out]
    refine KI.out.mono ?_
    intro r w1 hr
    obtain ⟨rfl, hb1⟩ := hr
    have HB1 := zH hb1
    clear hb1 KI HW
    go_wp2_with fail
    refine (KN w1 HB1.out).out.mono ?_
    intro r w2 hr
    obtain ⟨G, T, F, rfl, g1, g2, g3, g4, g5, g6, hG, hT, hF, hb2⟩ := hr
    have HB2 := zH (HB1.out.trans (hb2.mono HB1.out.size))
    have hba : Below w2.heap.size w2 (w2.alloc (.cells #[.map (some G), .map (some T), .map (some F)] 105)) := (zB _ _).alloc (zL _) _
    have HB3 := zH (HB2.out.trans (hba.mono HB2.out.size))
    have K := KU2 _ HB3.out w2.heap.size G T F (Nat.le_trans HB1.out.size g1) (Nat.le_trans HB1.out.size g2) (Nat.le_trans HB1.out.size g3) g4 g5 g6 ⟨by go_simp, by go_simp, by go_simp⟩ (hG.step hba) (hT.step hba) (hF.step hba)
    clear hG hT hF hb2 hba KU2 KN g1 g2 g3 g4 g5 g6
    go_wp2_with fail
    refine K.out.mono ?_
    intro r w4 hr
    obtain ⟨rfl, hb4⟩ := hr
    have HB4 := zH (HB.out.trans (hb4.mono HB.out.size))
    clear hb4 K HB HB1 HB2 HB3
    go_wp2_with fail
    exact bodyPost_ret (v := .tuple #[.string R, .bool true]) (by simp [results, Tryz.results21, go_sem]) rfl ⟨rfl, HB4.out⟩
end ImplScope
namespace fnExactCheckUnitW
open Go.RowKit
open Strs Tree Texts Errs Go.Proofs.YtnlgdkfenipmfaaGreatDoor.Data
theorem walk (ds : List D) (hf : FitL (env 5) (erases ds)) (w : World) (hh : Holdss 0 w ds) {a : Addr} (he : Err w a) :
    Calls Tryz.prog 4 #[agg ds] w fun e w' => e = .returned (.bool true) /\ Below w.heap.size w w' := by
  obtain ⟨u, -, -, -, -, -, -, -, -, -, hu⟩ := unit_get hf
  exact walk_of (if unitOk u then SpecChk.unitP u else ByteArray.empty) (unitOk u) w ds hf hh (fun w' es he' hh hs hw => by obtain ⟨lo, hh⟩ := hh; exact SpecChk.check_unit (he'.trans hu) hh hs hw)
    (fun w' es hb he' ho hw => ImplScope.check_unit (he'.trans hu) ho hw (he.keep hb))
end fnExactCheckUnitW
end Go.Proofs.YtnlgdkfenipmfaaGreatDoor
