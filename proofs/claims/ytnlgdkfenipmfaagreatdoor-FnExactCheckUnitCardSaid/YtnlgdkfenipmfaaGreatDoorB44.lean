/-
  ImplMthS
-/
import Derived.Test.YtnlgdkfenipmfaaGreatDoorB45
import Derived.Test.YtnlgdkfenipmfaaGreatDoorB46
import Derived.Test.YtnlgdkfenipmfaaGreatDoorB43
namespace Go.Proofs.YtnlgdkfenipmfaaGreatDoor
namespace ImplScope
open Go.RowKit
open Strs Tree Go.Proofs.YtnlgdkfenipmfaaGreatDoor.Data Chk SpecChk SMap ImplFirst ImplLib ImplMeth
set_option maxRecDepth 100000 in
set_option maxHeartbeats 4000000 in
theorem method_ok (own : Bool) (m : M) (hr : Rt (bodyE m)) (hw : Tree.weight (bodyE m) <= 1048576) (σ : Sc) (hσ : Sup σ) (w : World) (S B b o : Nat) (v2 v3 v4 : Value) (hE : Env w S B own σ) (hm : MSt w m v2 v3 v4) (hc : MCell w b o m v2 v3 v4) :
    Calls Tryz.prog 115 #[.pointer (some ⟨S, 0, none⟩), .pointer (some ⟨b, o, none⟩)] w (Went w S B own σ (chk own σ (bodyE m))) := by
  have hlm : m.params.length + m.temps.length <= 4398046511104 := by
    have h1 := bodyE_weight m
    rw [List.length_append] at h1
    omega
  have KB := zH (ImplMeth.block_any hm hc hlm)
  have KE := fun (w' : World) (hb : Below w.heap.size w w') (X : Nat) (hs : Spot 0 w' X 0 (bodyE m)) => zH (expr_all own (bodyE m) hr σ w' S B X 0 hσ (hE.step hb) hs hw)
  have hk8 : (bodyE m).kind = 8 := rfl
  have hkt : (bodyE m).text = ⟨#[]⟩ := rfl
  have hkn : (bodyE m).num = (m.params.length : Int) := rfl
  have HS : Hid (∀ (w' : World) (X : Nat) (vn vk : Value), w'.cell? ⟨X, 0, none⟩ = some (.int .i64 8) -> w'.cell? ⟨X, 1, none⟩ = some (.string ⟨#[]⟩) -> w'.cell? ⟨X, 2, none⟩ = some (.int .i64 (m.params.length : Int)) -> w'.cell? ⟨X, 3, none⟩ = some vn -> w'.cell? ⟨X, 4, none⟩ = some vk -> NodeAt 0 w' (bodyE m) vn vk -> Spot 0 w' X 0 (bodyE m)) := zH (fun w' X vn vk h0 h1 h2 h3 h4 h5 => ⟨vn, vk, h0, h1, h2, h3, h4, h5⟩)
  clear hr hw hσ hE hm hc hlm hk8 hkt hkn
  generalize chk own σ (bodyE m) = R at *
  go_enter Tryz.func115, Tryz.ntmps115
  go_wp2_with fail
  refine KB.out.mono ?_
  rintro r w1 ⟨vn, rfl, hn, -, hb⟩
  obtain ⟨a, n, c, a', n', c', rfl, rfl⟩ := forms_of hn
  have hb2 : Below w1.heap.size w1 (w1.alloc (.cells #[.int .i64 8, .string ⟨#[]⟩, .int .i64 (m.params.length : Int), .slice a n c, .slice a' n' c'] 76)) := (zB _ _).alloc (zL _) _
  have K := KE _ (hb.trans (hb2.mono hb.size)) w1.heap.size (HS.out _ _ _ _ (by go_simp) (by go_simp) (by go_simp) (by go_simp) (by go_simp) (hn.below hb2))
  have HB := zH (hb.trans (hb2.mono hb.size))
  clear hb hb2 hn KB KE HS
  go_wp2_with fail
  refine K.out.mono ?_
  rintro r w2 ⟨rfl, ht, hz⟩
  go_wp2_with fail
  go_ret
  exact ⟨rfl, (tt_below HB.out).trans ht, hz⟩
def FMap (w : World) (F : Nat) (φ : ByteArray -> Option (List ByteArray)) : Prop :=
  ∃ Mf, Mp Value.string w F Mf /\ (∀ k, φ k = none -> Mf k = none) /\ ∀ k xs, φ k = some xs -> ∃ v, Mf k = some v /\ Texts 0 w xs v /\ Formed v xs.length
theorem FMap.step {w w' : World} {F : Nat} {φ : ByteArray -> Option (List ByteArray)} (h : FMap w F φ) (hb : Below w.heap.size w w') : FMap w' F φ := by
  obtain ⟨Mf, h1, h2, h3⟩ := h
  refine ⟨Mf, h1.step hb, h2, fun k xs hk => ?_⟩
  obtain ⟨v, e, ht, hf⟩ := h3 k xs hk
  exact ⟨v, e, ht.below hb, hf⟩
theorem FMap.but {w w' : World} {F X : Nat} {φ : ByteArray -> Option (List ByteArray)} (h : FMap w F φ) (hb : But X w w') (hx : ∀ o v, w.cell? ⟨X, o, none⟩ ≠ some v) (hne : F ≠ X) : FMap w' F φ := by
  obtain ⟨Mf, h1, h2, h3⟩ := h
  refine ⟨Mf, h1.but hb hne, h2, fun k xs hk => ?_⟩
  obtain ⟨v, e, ht, hf⟩ := h3 k xs hk
  exact ⟨v, e, ht.keep (zL _) (hb.keptF hx 0).1, hf⟩
theorem zeroF (w : World) : (zeroValue 25).run Tryz.prog w = .ok (.slice none 0 0) w := by kernel_rfl
theorem lawF (w : World) : Law2 Tryz.prog Value.string 103 9 25 (.slice none 0 0) w := law_str Tryz.underlying103 Tryz.underlying9 (zeroF w)
theorem FMap.look {w : World} {F : Nat} {φ : ByteArray -> Option (List ByteArray)} (h : FMap w F φ) {k : ByteArray} {xs : List ByteArray} (hk : φ k = some xs) :
    ∃ v, (Texts 0 w xs v /\ Formed v xs.length) /\ ∀ w' c, Below w.heap.size w w' -> (Instr.lookup 103 (.map (some F)) (.string k) c).run Tryz.prog w' = .ok (if c then .tuple #[v, .bool true] else v) w' := by
  obtain ⟨Mf, h1, h2, h3⟩ := h
  obtain ⟨v, e, ht, hf⟩ := h3 k xs hk
  refine ⟨v, ⟨ht, hf⟩, fun w' c hb => ?_⟩
  have hl := (h1.step hb).look (lawF w') k c
  rw [e] at hl
  exact hl
theorem use_fld (cs : List C) (fs : List ByteArray) (n : ByteArray) : use cs [] [] (fs ++ [n]) = put (use cs [] [] fs) n 3 := by
  funext m
  unfold use put
  rw [has_snoc]
  by_cases h : m = n
  · simp [h]
  · simp [h]
theorem use_glob (cs : List C) : use cs [] [] [] = glob cs := by
  funext m
  unfold use
  rfl
structure Ckr (w : World) (Cb G T F : Nat) : Prop where
  c0 : w.cell? ⟨Cb, 0, none⟩ = some (.map (some G))
  c1 : w.cell? ⟨Cb, 1, none⟩ = some (.map (some T))
  c2 : w.cell? ⟨Cb, 2, none⟩ = some (.map (some F))
theorem Ckr.step {w w' : World} {Cb G T F : Nat} (h : Ckr w Cb G T F) (hb : Below w.heap.size w w') : Ckr w' Cb G T F := ⟨cell_keep hb h.c0, cell_keep hb h.c1, cell_keep hb h.c2⟩
theorem scope_new {w : World} {G : Nat} {σ : Sc} (hm : Mp Value.string w G (mapOf σ)) {es : Array MapEntry} {clock : Nat} (hg : w.heap[G]? = some (.map es clock)) (own : Bool) :
    Env ((w.alloc (.map es clock)).alloc (.cells #[.map (some w.heap.size), .bool own] 167)) (w.heap.size + 1) w.heap.size own σ := by
  refine ⟨by go_simp, by go_simp, ?_⟩
  obtain ⟨es', clock', l, hb, h2, h3, h4⟩ := hm
  rw [hg] at hb
  cases hb
  refine ⟨es, clock, l, ?_, h2, h3, h4⟩
  have h1 : ((w.alloc (.map es clock)).alloc (.cells #[.map (some w.heap.size), .bool own] 167)).heap[w.heap.size]? = (w.alloc (.map es clock)).heap[w.heap.size]? := Below.heap_alloc _ _ _ (by simp)
  rw [h1]
  exact (MapKept.heap_alloc w _).1
set_option maxRecDepth 100000 in
set_option maxHeartbeats 8000000 in
theorem mths_one (cs : List C) (m : M) (hr : Rt (bodyE m)) (hw : Tree.weight (bodyE m) <= 1048576) (name : ByteArray) (FL : List ByteArray) (hσ : Sup (use cs [] [] (if m.cls then [] else FL))) (w : World) (Bc Bd Cb G T F db dO b o : Nat) (v2 v3 v4 : Value) (φ : ByteArray -> Option (List ByteArray))
    (hbc : w.cell? ⟨Bc, 0, none⟩ = some (.pointer (some ⟨Cb, 0, none⟩))) (hbd : w.cell? ⟨Bd, 0, none⟩ = some (.pointer (some ⟨db, dO, none⟩))) (hck : Ckr w Cb G T F) (hG : Mp Value.string w G (mapOf (glob cs))) (hF : FMap w F φ) (hφ : φ name = some FL) (hdn : w.cell? ⟨db, dO, none⟩ = some (.string name)) (hm : MSt w m v2 v3 v4) (hc : MCell w b o m v2 v3 v4) :
    Calls Tryz.prog 158 #[.pointer (some ⟨b, o, none⟩), .pointer (some ⟨Bc, 0, none⟩), .pointer (some ⟨Bd, 0, none⟩)] w fun r w' => r = .returned (.string (chk true (use cs [] [] (if m.cls then [] else FL)) (bodyE m))) /\ Below w.heap.size w w' := by
  obtain ⟨es, clock, hg⟩ : ∃ es clock, w.heap[G]? = some (.map es clock) := by
    obtain ⟨es, clock, l, hb, _⟩ := hG
    exact ⟨es, clock, hb⟩
  have hE := scope_new hG hg true
  have KC := zH (clone_any G es clock w hg)
  obtain ⟨v, ⟨ht, hf⟩, hl⟩ := hF.look hφ
  obtain ⟨fa, fc, rfl, ⟨hf1, hf2⟩, -, hcell⟩ := id ht
  unfold maxLen at hf2
  obtain ⟨W, hW⟩ : ∃ W, W = (w.alloc (.map es clock)).alloc (.cells #[.map (some w.heap.size), .bool true] 167) := ⟨_, rfl⟩
  have hbW : Below w.heap.size w W := by rw [hW]; exact ((zB _ _).alloc (zL _) _).alloc (by simp) _
  rw [<- hW] at hE
  have KM := fun (σ : Sc) (h : Sup σ) (w' : World) (hb : Below w.heap.size w w') (hE' : Env w' (w.heap.size + 1) w.heap.size true σ) => zH (method_ok true m hr hw σ h w' (w.heap.size + 1) w.heap.size b o v2 v3 v4 hE' (hm.below hb) (hc.step hb))
  have HSUP := zH hσ
  have HE := zH hE
  have HB := zH hbW
  have HW := zH hW
  have HL := zH hl
  have HCELL : Hid (0 < FL.length -> ∃ b off, fa = some ⟨b, off, none⟩ /\ ∀ j x, FL[j]? = some x -> w.cell? ⟨b, off + j, none⟩ = some (.string x)) := zH (fun hp => by
    obtain ⟨b, off, ha, -, hd⟩ := hcell hp
    refine ⟨b, off, ha, fun j x hx => ?_⟩
    obtain ⟨h1, rfl⟩ := List.getElem?_eq_some_iff.1 hx
    exact hd j h1)
  have c0 := hck.c0
  have k1 := cell_keep hbW hc.c1
  have k2 := cell_keep hbW hbc
  have k3 := cell_keep hbW hck.c2
  have k4 := cell_keep hbW hbd
  have k5 := cell_keep hbW hdn
  clear hr hw hσ hck hG hF hφ hm hE hbW hW hl hcell ht hf hg hdn
  have hcc1 := hc.c1
  clear hc
  generalize hmc : m.cls = mc at *
  have HMC := zH hmc
  clear hmc
  cases mc with
  | true =>
    have K := KM (use cs [] [] []) (by have := HSUP.out; rwa [if_pos rfl] at this) W HB.out (by rw [use_glob]; exact HE.out)
    clear KM HSUP HE HL HCELL k2 k3 k4 k5
    rw [if_pos rfl]
    generalize chk true (use cs [] [] []) (bodyE m) = R at *
    go_enter Tryz.func158, Tryz.ntmps158
    go_wp2_with fail
    refine KC.out.mono ?_
    rintro e w1 ⟨rfl, rfl⟩
    clear KC
    go_upto_region 2 with fail
    rw [<- HW.out]
    clear HW c0 hbc hbd hcc1
    go_wp2_with fail
    refine K.out.mono ?_
    rintro e w2 ⟨rfl, ht, -⟩
    have HB2 := zH (HB.out.trans (ht.1.below (zL _) HB.out.size))
    clear ht K
    go_wp2_with fail
    go_ret
    exact ⟨rfl, HB2.out⟩
  | false =>
    have hR : Hid ((if false = true then [] else FL) = FL) := zH rfl
    rw [hR.out] at HSUP ⊢
    clear hR
    have hlk := fun k => HL.out (W.drewN k) false (HB.out.trans ((drl W k).mono HB.out.size))
    have hl0 := HL.out W false HB.out
    simp only [if_neg (by decide : ¬ (false = true))] at hlk hl0
    have hV : Hid (chk true (use cs [] [] FL) (bodyE m) = chk true (use cs [] [] FL) (bodyE m)) := zH rfl
    have KM2 := KM (use cs [] [] FL) HSUP.out
    generalize chk true (use cs [] [] FL) (bodyE m) = R at *
    clear KM HSUP HL
    generalize hN : FL.length = N at *
    have HN := zH hN
    clear hN hV
    go_enter Tryz.func158, Tryz.ntmps158
    go_wp2_with fail
    refine KC.out.mono ?_
    rintro e w1 ⟨rfl, rfl⟩
    clear KC
    go_upto_region 2 with fail
    rw [<- HW.out]
    clear HW c0 hbc hbd hcc1
    go_wp2_with fail
    go_quiet (fail)
    go_wp2_with fail
    clear hlk hl0
    go_loopw [29] (fun j wr => ∃ q : Nat, q <= N /\ j = .int .i64 q /\ Env wr (w.heap.size + 1) w.heap.size true (use cs [] [] (FL.take q)) /\ Below w.heap.size w wr) (fun j _ => N - (intOf j).toNat)
    case atStart => exact ⟨0, Nat.zero_le _, rfl, by rw [List.take_zero, use_glob]; exact HE.out.step (drl W _), HB.out.trans ((drl W _).mono HB.out.size)⟩
    case round =>
      obtain ⟨q, hq, rfl, hE, hb⟩ := hrel
      have HE2 := zH hE
      have HB2 := zH hb
      have s0 := hE.c0
      clear hE
      by_cases hlt : q < N
      case pos =>
        obtain ⟨nb, no, hna, hnm⟩ := HCELL.out (by omega)
        subst hna
        obtain ⟨n, hn⟩ : ∃ n, FL[q]? = some n := ⟨_, List.getElem?_eq_getElem (by rw [HN.out]; exact hlt)⟩
        have hcn := cell_keep hb (hnm q n hn)
        have HTK : Hid (FL.take (q + 1) = FL.take q ++ [n]) := zH (by
          obtain ⟨h1, h2⟩ := List.getElem?_eq_some_iff.1 hn
          rw [List.take_succ_eq_append_getElem h1, h2])
        clear hb hnm hn
        go_wp2_with (at_mapUpdate; refine wp_store2 rfl _ _ _ _ (.inl rfl) _ _ (lawU wr) HE2.out.mp n (.int .i64 3) rfl rfl rfl ?_)
        intro w2 hm2 hb2
        have HE3 : Hid (Env w2 (w.heap.size + 1) w.heap.size true (use cs [] [] (FL.take (q + 1)))) := zH (by
          rw [HTK.out, use_fld]
          exact HE2.out.set hb2 (hm2.cast (fun k => mapOf_put _ n 3 (by omega) k)))
        have HB3 := zH (HB2.out.trans (hb2.below (zL _) HB2.out.size))
        clear hm2 hb2 s0 hcn
        go_wp2_with fail
        go_roundw
        case rel => exact ⟨q + 1, by omega, by go_num, HE3.out, HB3.out⟩
        case measure => simp [intOf]; omega
      have K := KM2 wr HB2.out (by have := HE2.out; rwa [List.take_of_length_le (by rw [HN.out]; omega)] at this)
      clear KM2 hb s0
      go_wp2_with fail
      refine K.out.mono ?_
      rintro e w2 ⟨rfl, ht, -⟩
      have HB3 := zH (HB2.out.trans (ht.1.below (zL _) HB2.out.size))
      clear ht K
      go_wp2_with fail
      go_ret
      exact ⟨rfl, HB3.out⟩
theorem enter_mths (args : Array Value) (w : World) : (callFunc 158 args).run Tryz.prog w = .ok (.enter 158 args) w := by kernel_rfl
theorem args3 (s t p : Value) : ((#[] : Array Value).push p ++ #[s, t]) = #[p, s, t] := by simp
def mthOne (cs : List C) (owner : Int) (ms : List M) (i : Nat) : ByteArray := match ms[i]? with | some m => methP cs owner m | none => ByteArray.empty
theorem firsts_mths (cs : List C) (owner : Int) (ms : List M) : ∀ n i, ms.length - i = n -> firsts (mthOne cs owner ms) i n = methsP cs owner (ms.drop i) := by
  intro n
  induction n with
  | zero => intro i h; rw [List.drop_of_length_le (by omega), firsts, methsP]
  | succ n ih =>
    intro i h
    have hi : i < ms.length := by omega
    rw [firsts, ih (i + 1) (by omega), List.drop_eq_getElem_cons hi, methsP]
    unfold mthOne
    rw [List.getElem?_eq_getElem hi]
theorem methP_seen (cs : List C) (owner : Int) (m : M) (h : 16 <= owner) : methP cs owner m = chk true (use cs [] [] (if m.cls then [] else flds cs (cs.length + 1) owner)) (bodyE m) := by
  unfold methP SpecChk.seen
  rw [decide_eq_true h]
  cases m.cls with
  | true => rw [if_neg (by simp), if_pos rfl]
  | false => rw [if_pos ⟨h, rfl⟩, if_neg (by simp)]
set_option maxRecDepth 100000 in
set_option maxHeartbeats 8000000 in
theorem methods_any (cs : List C) (c : C) (owner : Int) (h16 : 16 <= owner) (hr : ∀ m, m ∈ c.methods -> Rt (bodyE m)) (hσ : ∀ m, m ∈ c.methods -> Sup (use cs [] [] (if m.cls then [] else flds cs (cs.length + 1) owner))) (w : World) (Cb G T F db dO : Nat) (v2 : Value) (ma : Option Addr) (mc : Nat) (φ : ByteArray -> Option (List ByteArray))
    (hck : Ckr w Cb G T F) (hG : Mp Value.string w G (mapOf (glob cs))) (hF : FMap w F φ) (hφ : φ c.name = some (flds cs (cs.length + 1) owner)) (hcc : CCell w db dO c v2 ma mc) (hcs : CSt w c v2 ma mc) :
    Calls Tryz.prog 114 #[.pointer (some ⟨Cb, 0, none⟩), .pointer (some ⟨db, dO, none⟩)] w fun r w' => r = .returned (.string (methsP cs owner c.methods)) /\ Below w.heap.size w w' := by
  obtain ⟨W, hW⟩ : ∃ W, W = (w.alloc (.cells #[.pointer (some ⟨Cb, 0, none⟩)] 163)).alloc (.cells #[.pointer (some ⟨db, dO, none⟩)] 109) := ⟨_, rfl⟩
  have hb0 : Below w.heap.size w W := by rw [hW]; exact ((zB _ _).alloc (zL _) _).alloc (by simp) _
  have k0 : W.cell? ⟨w.heap.size, 0, none⟩ = some (.pointer (some ⟨Cb, 0, none⟩)) := by rw [hW]; go_simp
  have k1 : W.cell? ⟨w.heap.size + 1, 0, none⟩ = some (.pointer (some ⟨db, dO, none⟩)) := by rw [hW]; go_simp
  have key : ∀ i w', i < c.methods.length -> Below W.heap.size W w' -> ∃ x, ma = some x /\ Calls Tryz.prog 158 ((#[] : Array Value).push (.pointer (some (x.add (i * 5)))) ++ #[.pointer (some ⟨w.heap.size, 0, none⟩), .pointer (some ⟨w.heap.size + 1, 0, none⟩)]) w' fun r w'' => r = .returned (.string (mthOne cs owner c.methods i)) /\ Below W.heap.size w' w'' /\ ((mthOne cs owner c.methods i).data.toList = [] -> Below W.heap.size W w'') := by
    intro i w' hi hb
    have hx := List.getElem?_eq_getElem hi
    obtain ⟨b, o, x2, x3, x4, rfl, hmc, hms, hmw⟩ := hcs.meths i _ hx
    have hbb : Below w.heap.size w w' := hb0.trans (hb.mono hb0.size)
    have e : mthOne cs owner c.methods i = chk true (use cs [] [] (if c.methods[i].cls then [] else flds cs (cs.length + 1) owner)) (bodyE c.methods[i]) := by
      unfold mthOne
      rw [hx]
      exact methP_seen cs owner _ h16
    have hcall := mths_one cs c.methods[i] (hr _ (List.getElem_mem hi)) (by omega) c.name _ (hσ _ (List.getElem_mem hi)) w' w.heap.size (w.heap.size + 1) Cb G T F db dO b (o + i * 5) x2 x3 x4 φ (cell_keep hb k0) (cell_keep hb k1) (hck.step hbb) (hG.step hbb) (hF.step hbb) hφ (cell_keep hbb hcc.c0) (hms.below hbb) (hmc.step hbb)
    rw [<- e] at hcall
    refine ⟨_, rfl, ?_⟩
    rw [args3, add_at]
    refine Calls.mono hcall ?_
    intro r w'' hw
    obtain ⟨h1, h2⟩ := hw
    have h3 : Below W.heap.size w' w'' := h2.mono hb.size
    exact ⟨h1, h3, fun _ => hb.trans h3⟩
  have KF := zH (first_meth 158 #[] #[.pointer (some ⟨w.heap.size, 0, none⟩), .pointer (some ⟨w.heap.size + 1, 0, none⟩)] enter_mths ma c.methods.length mc (mthOne cs owner c.methods) (fun _ w' => Below W.heap.size W w') (Below W.heap.size) (zB _) (fun _ _ _ => Below.trans) W (zB _ _) (by have := hcs.room; omega) key)
  have hfr := firsts_mths cs owner c.methods c.methods.length 0 rfl
  have HFR : Hid (firsts (mthOne cs owner c.methods) 0 c.methods.length = methsP cs owner c.methods) := zH hfr
  have d3 := cell_keep hb0 hcc.c3
  have HB := zH hb0
  have HW := zH hW
  rw [HFR.out] at KF
  rw [hW] at d3 k1
  clear key hb0 hW hfr HFR hr hσ hck hG hF hφ hcs k0
  have hdl : db < w.heap.size := cell_lt hcc.c0
  have c3 := hcc.c3
  clear hcc
  generalize methsP cs owner c.methods = R at *
  go_enter Tryz.func114, Tryz.ntmps114
  go_wp2_with fail
  rw [<- HW.out]
  refine KF.out.mono ?_
  rintro r w1 ⟨rfl, hb, -⟩
  have HB2 := zH (HB.out.trans (hb.mono HB.out.size))
  clear hb KF HB HW d3 k1 c3
  go_wp2_with fail
  go_ret
  exact ⟨rfl, HB2.out⟩
end ImplScope
end Go.Proofs.YtnlgdkfenipmfaaGreatDoor
