/-
  SpecExprK
-/
import Derived.Test.YtnlgdkfenipmfaaGreatDoorB21
import Derived.Deep.DeepCutAuto
namespace Go.Proofs.YtnlgdkfenipmfaaGreatDoor
namespace SpecChk
open Go.RowKit
open Strs Tree Go.Proofs.YtnlgdkfenipmfaaGreatDoor.Data Chk
set_option linter.unusedVariables false
theorem kids_see {lo : Nat} {w : World} {ks : List E} {vk : Value} (h : KidsAt lo w ks vk) : ∃ a c, vk = .slice a ks.length c /\ (ks.length <= c /\ c <= maxLen) /\ (0 < ks.length -> ∃ b o, a = some ⟨b, o, none⟩ /\ ∀ i x, ks[i]? = some x -> Spot lo w b (o + i * 5) x) := by
  obtain ⟨a, c, rfl, hm, hc⟩ := h
  refine ⟨a, c, rfl, hm, fun hp => ?_⟩
  obtain ⟨b, o, rfl, -, hr⟩ := hc hp
  rw [Tree.row_iff] at hr
  refine ⟨b, o, rfl, fun i x hx => ?_⟩
  obtain ⟨hi, rfl⟩ := List.getElem?_eq_some_iff.1 hx
  exact hr i hi
theorem zax {lo : Nat} {w w' : World} {b o : Nat} {e : E} (h : Spot lo w b o e) (hb : Below w.heap.size w w') : Spot lo w' b o e := by
  obtain ⟨vn, vk, c0, c1, c2, c3, c4, hn⟩ := h
  exact ⟨vn, vk, cell_keep hb c0, cell_keep hb c1, cell_keep hb c2, cell_keep hb c3, cell_keep hb c4, hn.below hb⟩
theorem forms_of {lo : Nat} {w : World} {e : E} {vn vk : Value} (h : NodeAt lo w e vn vk) : ∃ a n c a' n' c', vn = .slice a n c /\ vk = .slice a' n' c' := by
  obtain ⟨-, -, -, ⟨a, c, h1, -⟩, a', c', h2, -⟩ := zat.1 h
  exact ⟨a, _, c, a', _, c', h1, h2⟩
theorem weight_names {xs : List ByteArray} {x : ByteArray} (h : x ∈ xs) : x.size <= lens xs := by
  obtain ⟨i, hi, rfl⟩ := List.getElem_of_mem h
  exact len_kid xs i hi
theorem za1 {es : List E} {e : E} (h : e ∈ es) : Tree.weight e <= Tree.weights es := by
  obtain ⟨i, hi, rfl⟩ := List.getElem_of_mem h
  exact weight_kid es i hi
def ExOk (cs : List C) (own : Bool) (e : E) : Prop :=
  ∀ (w : World) (U : Nat) (v1 v2 v3 vn vk : Value) (vars fixed fields : List ByteArray), Un w U cs -> Texts 0 w vars v1 -> Formed v1 vars.length -> Texts 0 w fixed v2 -> Formed v2 fixed.length -> Texts 0 w fields v3 -> Formed v3 fields.length -> NodeAt 0 w e vn vk ->
    Tree.weight e <= 1048576 -> vars.length + fixed.length + Tree.weight e <= 3000000 ->
    Calls Tryz.prog 106 #[.agg #[.pointer (some ⟨U, 0, none⟩), v1, v2, v3, .bool own], .agg #[.int .i64 e.kind, .string e.text, .int .i64 e.num, vn, vk]] w fun r w' => r = .returned (.string (chk own (use cs vars fixed fields) e)) /\ Below w.heap.size w w'
theorem notAssigned_ne (n : ByteArray) : (notAssigned n).data.toList ≠ [] := by
  unfold notAssigned
  rw [ByteArray.data_append, ByteArray.data_append, Array.toList_append, Array.toList_append]
  simp
theorem use_three (cs : List C) (vars fixed fields : List ByteArray) (n : ByteArray) : (use cs vars fixed fields n ≠ 3) ↔ (Tok.has vars n = false /\ Tok.has fields n = false) := by
  unfold use glob
  generalize cls cs n = q
  cases Tok.has vars n <;> cases Tok.has fields n <;> cases Tok.has fixed n <;> cases Tok.has four n <;> by_cases hs : n = tSuper <;> by_cases hc : 0 <= q <;> simp [hs, hc]
def mode (k : Int) : Nat := if k = 6 then 1 else if k = 7 then 2 else 0
theorem chk_kids (own : Bool) (σ : Sc) (k : Int) (t : ByteArray) (n : Int) (ns : List ByteArray) (ks : List E) (h4 : k ≠ 4) (h8 : k ≠ 8) (h5 : k = 5 -> σ t = 3) : chk own σ (.mk k t n ns ks) = chks own σ (mode k) ks := by
  rw [chk, if_neg h4]
  unfold mode
  by_cases h : k = 5
  · subst h
    rw [if_pos rfl, if_neg (by simp [h5 rfl])]
    rfl
  · rw [if_neg h]
    by_cases h6 : k = 6
    · rw [if_pos h6, if_pos h6]
    · rw [if_neg h6, if_neg h6]
      by_cases h7 : k = 7
      · rw [if_pos h7, if_pos h7]
      · rw [if_neg h7, if_neg h7, if_neg h8]
def from_ (k : Int) (i : Nat) : Nat := if i = 0 then mode k else if k = 7 then 3 else 0
theorem zah {w w' : World} (h : ∃ p : Regrown, w' = Go.Sort.grow (redrawn w p.d) p.os) : Below w.heap.size w w' := by
  obtain ⟨p, rfl⟩ := h
  exact below_regrown w p.d p.os
theorem chks_nil (own : Bool) (σ : Sc) (m : Nat) : chks own σ m [] = ByteArray.empty := by cases m <;> rw [chks]
theorem ba_empty {z : ByteArray} (h : z.data.toList = []) : z = ByteArray.empty := by
  apply ByteArray.ext
  apply Array.toList_inj.1
  rw [h]; rfl
theorem zaj {z : ByteArray} (h : z.data.toList = []) : z.toList.isEmpty = true := by rw [ByteArray.toList_eq, h]; rfl
theorem zae {z : ByteArray} (h : z.data.toList ≠ []) : z.toList.isEmpty = false := by
  rw [ByteArray.toList_eq]
  cases hz : z.data.toList with
  | nil => exact absurd hz h
  | cons a l => rfl
theorem chks_super (own : Bool) (σ : Sc) (x : E) (es : List E) (hk : x.kind = 4) (ht : x.text = tSuper) : chks own σ 1 (x :: es) = if own then chks own σ 0 es else outside := by
  rw [chks, if_pos ⟨hk, ht⟩]
theorem chks_call (own : Bool) (σ : Sc) (k : Int) (i : Nat) (x : E) (es : List E) (h1 : ¬ (i = 0 /\ k = 6 /\ x.kind = 4 /\ x.text = tSuper)) (h2 : ¬ (k = 7 /\ 0 < i)) : chks own σ (from_ k i) (x :: es) = first (chk own σ x) (chks own σ (from_ k (i + 1)) es) := by
  unfold from_ mode
  rw [if_neg (Nat.succ_ne_zero i)]
  by_cases h0 : i = 0
  · rw [if_pos h0]
    by_cases h6 : k = 6
    · rw [if_pos h6, if_neg (by omega), chks, if_neg (fun h => h1 ⟨h0, h6, h⟩)]
    · rw [if_neg h6]
      by_cases h7 : k = 7
      · rw [if_pos h7, if_pos h7, chks]
      · rw [if_neg h7, if_neg h7, chks]
  · have h7 : ¬ k = 7 := fun h => h2 ⟨h, by omega⟩
    rw [if_neg h0, if_neg h7, chks]
theorem chks_message (own : Bool) (σ : Sc) (i : Nat) (x : E) (es : List E) (h : 0 < i) : chks own σ (from_ 7 i) (x :: es) = first (chks own σ 0 x.kids) (chks own σ (from_ 7 (i + 1)) es) := by
  unfold from_
  rw [if_neg (by omega), if_pos rfl, if_neg (by omega)]
  cases x with
  | mk a b c d e => rw [chks]; all_goals first | rfl | (intro h; omega)
set_option maxRecDepth 10000 in
set_option maxHeartbeats 16000000 in
theorem expr_4 (cs : List C) (own : Bool) (hN : cs.length <= 1048576) (e : E) (ihk : ∀ x, x ∈ e.kids -> ExOk cs own x) (ihg : ∀ x, x ∈ e.kids -> ∀ y, y ∈ x.kids -> ExOk cs own y) (h4 : e.kind = 4) : ExOk cs own e := by
  intro w U v1 v2 v3 vn vk vars fixed fields hu t1 f1 t2 f2 t3 f3 hn hwt hln
  obtain ⟨k, t, n, ns, ks⟩ := e
  replace h4 : k = 4 := h4
  replace ihk : ∀ x, x ∈ ks -> ExOk cs own x := ihk
  replace ihg : ∀ x, x ∈ ks -> ∀ y, y ∈ x.kids -> ExOk cs own y := ihg
  simp only [E.kind, E.text, E.num]
  have hn0 := zat.1 hn
  simp only [E.kind, E.text, E.num, E.names, E.kids] at hn0
  obtain ⟨hk1, hk2, htm, htx, hks⟩ := hn0
  have hwt' := hwt
  rw [Tree.weight] at hwt'
  obtain ⟨va, vc, rfl, -⟩ := id htx
  obtain ⟨ka, kc, rfl, ⟨hkc, hkm⟩, hkid⟩ := kids_see hks
  obtain ⟨a1, c1, rfl, -⟩ := id t1
  obtain ⟨a2, c2, rfl, -⟩ := id t2
  obtain ⟨a3, c3, rfl, -⟩ := id t3
  have hts : t.size <= 1048576 := by omega
  unfold maxLen at hkm htm
  obtain ⟨W, hW⟩ : ∃ W, W = (w.alloc (.cells #[.pointer (some ⟨U, 0, none⟩), .slice a1 vars.length c1, .slice a2 fixed.length c2, .slice a3 fields.length c3, .bool own] 156)).alloc (.cells #[.int .i64 k, .string t, .int .i64 n, .slice va ns.length vc, .slice ka ks.length kc] 76) := ⟨_, rfl⟩
  have hb0 : Below w.heap.size w W := by rw [hW]; exact ((zB _ _).alloc (zL _) _).alloc (by simp) _
  have hX0 : Cells (w.heap.size + 1) [.int k, .str t, .int n, .row 0 1 (.slice va ns.length vc) [], .row 0 5 (.slice ka ks.length kc) []] W := by
    have := zab (w.alloc (.cells #[.pointer (some ⟨U, 0, none⟩), .slice a1 vars.length c1, .slice a2 fixed.length c2, .slice a3 fields.length c3, .bool own] 156)) [.int k, .str t, .int n, .row 0 1 (.slice va ns.length vc) [], .row 0 5 (.slice ka ks.length kc) []] 76
    rw [hW]
    rw [show (w.alloc (.cells #[.pointer (some ⟨U, 0, none⟩), .slice a1 vars.length c1, .slice a2 fixed.length c2, .slice a3 fields.length c3, .bool own] 156)).heap.size = w.heap.size + 1 by simp] at this
    exact this
  have hsc0 : ScAt W w.heap.size U (.slice a1 vars.length c1) (.slice a2 fixed.length c2) (.slice a3 fields.length c3) vars fixed fields own := by
    have q1 := (za3 t1 f1 (zL _)).but (zau hb0)
    have q2 := (za3 t2 f2 (zL _)).but (zau hb0)
    have q3 := (za3 t3 f3 (zL _)).but (zau hb0)
    refine ⟨?_, ?_, ?_, ?_, ?_, fun o => ?_, q1, q2, q3⟩ <;> (rw [hW]; go_simp)
  clear t1 f1 t2 f2 t3 f3
  have HU := zH hu
  have HB0 := zH hb0
  have HX0 := zH hX0
  have HSC0 := zH hsc0
  have HKID := zH hkid
  have HTX := zH htx
  have IHK := zH ihk
  have IHG := zH ihg
  have x0 := hX0.at 0 (.int k) rfl
  have x1 := hX0.at 1 (.str t) rfl
  have x2 := hX0.at 2 (.int n) rfl
  have x3 := hX0.at 3 (.row 0 1 (.slice va ns.length vc) []) rfl
  have x4 := hX0.at 4 (.row 0 5 (.slice ka ks.length kc) []) rfl
  simp only [val] at x0 x1 x2 x3 x4
  have HNN : Hid (ns.length + lens ns + (ks.length + Tree.weights ks) + t.size <= 1048576) := zH (by omega)
  have HWS : Hid (vars.length + fixed.length + (ns.length + lens ns + (ks.length + Tree.weights ks)) <= 3000000) := zH (by rw [Tree.weight] at hln; omega)
  have HW := zH hW
  clear hu hb0 hX0 hsc0 hkid htx ihk ihg hn hwt hwt' hln hks
  have hkl : ks.length <= 1048576 := by have := HNN.out; omega
  have ways : ∀ (h4 : k ≠ 4) (wr : World) (x1 x2 : Value) (vars' fixed' : List ByteArray) (R : ByteArray), True := fun _ _ _ _ _ _ _ => trivial
  clear ways
  subst h4
  have hR : Hid (chk own (use cs vars fixed fields) (.mk 4 t n ns ks) = if use cs vars fixed fields t < 2 then unknown t else ByteArray.empty) := zH (by rw [chk, if_pos rfl])
  have KN := zH (name_any (cs := cs) t HSC0.out (HU.out.below HB0.out) hN hts)
  rw [hW, <- hR.out] at KN
  clear hR
  generalize chk own (use cs vars fixed fields) (.mk 4 t n ns ks) = R at *
  rw [hW] at x0 x1 x2 x3 x4
  clear HSC0 HX0 HKID HTX IHK IHG HNN HWS
  go_enter Tryz.func106, Tryz.ntmps106
  go_wp2_with fail
  refine KN.out.mono ?_
  rintro e w1 ⟨rfl, hb1⟩
  have HB1 : Hid (Below w.heap.size w w1) := zH (by
    have := HB0.out
    rw [HW.out] at this
    exact this.trans (hb1.mono this.size))
  clear hb1 KN HB0 HW hW x0 x1 x2 x3 x4
  go_wp2_with fail
  go_ret
  exact ⟨rfl, HB1.out⟩
set_option maxRecDepth 10000 in
set_option maxHeartbeats 16000000 in
theorem expr_0 (cs : List C) (own : Bool) (hN : cs.length <= 1048576) (e : E) (ihk : ∀ x, x ∈ e.kids -> ExOk cs own x) (ihg : ∀ x, x ∈ e.kids -> ∀ y, y ∈ x.kids -> ExOk cs own y) (h4 : e.kind ≠ 4) (h5 : e.kind ≠ 5) (h8 : e.kind ≠ 8) : ExOk cs own e := by
  intro w U v1 v2 v3 vn vk vars fixed fields hu t1 f1 t2 f2 t3 f3 hn hwt hln
  obtain ⟨k, t, n, ns, ks⟩ := e
  replace h4 : k ≠ 4 := h4
  replace h5 : k ≠ 5 := h5
  replace h8 : k ≠ 8 := h8
  replace ihk : ∀ x, x ∈ ks -> ExOk cs own x := ihk
  replace ihg : ∀ x, x ∈ ks -> ∀ y, y ∈ x.kids -> ExOk cs own y := ihg
  simp only [E.kind, E.text, E.num]
  have hn0 := zat.1 hn
  simp only [E.kind, E.text, E.num, E.names, E.kids] at hn0
  obtain ⟨hk1, hk2, htm, htx, hks⟩ := hn0
  have hwt' := hwt
  rw [Tree.weight] at hwt'
  obtain ⟨va, vc, rfl, -⟩ := id htx
  obtain ⟨ka, kc, rfl, ⟨hkc, hkm⟩, hkid⟩ := kids_see hks
  obtain ⟨a1, c1, rfl, -⟩ := id t1
  obtain ⟨a2, c2, rfl, -⟩ := id t2
  obtain ⟨a3, c3, rfl, -⟩ := id t3
  have hts : t.size <= 1048576 := by omega
  unfold maxLen at hkm htm
  obtain ⟨W, hW⟩ : ∃ W, W = (w.alloc (.cells #[.pointer (some ⟨U, 0, none⟩), .slice a1 vars.length c1, .slice a2 fixed.length c2, .slice a3 fields.length c3, .bool own] 156)).alloc (.cells #[.int .i64 k, .string t, .int .i64 n, .slice va ns.length vc, .slice ka ks.length kc] 76) := ⟨_, rfl⟩
  have hb0 : Below w.heap.size w W := by rw [hW]; exact ((zB _ _).alloc (zL _) _).alloc (by simp) _
  have hX0 : Cells (w.heap.size + 1) [.int k, .str t, .int n, .row 0 1 (.slice va ns.length vc) [], .row 0 5 (.slice ka ks.length kc) []] W := by
    have := zab (w.alloc (.cells #[.pointer (some ⟨U, 0, none⟩), .slice a1 vars.length c1, .slice a2 fixed.length c2, .slice a3 fields.length c3, .bool own] 156)) [.int k, .str t, .int n, .row 0 1 (.slice va ns.length vc) [], .row 0 5 (.slice ka ks.length kc) []] 76
    rw [hW]
    rw [show (w.alloc (.cells #[.pointer (some ⟨U, 0, none⟩), .slice a1 vars.length c1, .slice a2 fixed.length c2, .slice a3 fields.length c3, .bool own] 156)).heap.size = w.heap.size + 1 by simp] at this
    exact this
  have hsc0 : ScAt W w.heap.size U (.slice a1 vars.length c1) (.slice a2 fixed.length c2) (.slice a3 fields.length c3) vars fixed fields own := by
    have q1 := (za3 t1 f1 (zL _)).but (zau hb0)
    have q2 := (za3 t2 f2 (zL _)).but (zau hb0)
    have q3 := (za3 t3 f3 (zL _)).but (zau hb0)
    refine ⟨?_, ?_, ?_, ?_, ?_, fun o => ?_, q1, q2, q3⟩ <;> (rw [hW]; go_simp)
  clear t1 f1 t2 f2 t3 f3
  have HU := zH hu
  have HB0 := zH hb0
  have HX0 := zH hX0
  have HSC0 := zH hsc0
  have HKID := zH hkid
  have HTX := zH htx
  have IHK := zH ihk
  have IHG := zH ihg
  have x0 := hX0.at 0 (.int k) rfl
  have x1 := hX0.at 1 (.str t) rfl
  have x2 := hX0.at 2 (.int n) rfl
  have x3 := hX0.at 3 (.row 0 1 (.slice va ns.length vc) []) rfl
  have x4 := hX0.at 4 (.row 0 5 (.slice ka ks.length kc) []) rfl
  simp only [val] at x0 x1 x2 x3 x4
  have HNN : Hid (ns.length + lens ns + (ks.length + Tree.weights ks) + t.size <= 1048576) := zH (by omega)
  have HWS : Hid (vars.length + fixed.length + (ns.length + lens ns + (ks.length + Tree.weights ks)) <= 3000000) := zH (by rw [Tree.weight] at hln; omega)
  have HW := zH hW
  clear hu hb0 hX0 hsc0 hkid htx ihk ihg hn hwt hwt' hln hks
  have hkl : ks.length <= 1048576 := by have := HNN.out; omega
  have ways : ∀ (h4 : k ≠ 4) (wr : World) (x1 x2 : Value) (vars' fixed' : List ByteArray) (R : ByteArray), True := fun _ _ _ _ _ _ _ => trivial
  clear ways
  have HR : Hid (chk own (use cs vars fixed fields) (.mk k t n ns ks) = chks own (use cs vars fixed fields) (from_ k 0) ks) := zH (by rw [chk_kids _ _ _ _ _ _ _ h4 h8 (fun h => absurd h h5)]; rfl)
  generalize chk own (use cs vars fixed fields) (.mk k t n ns ks) = R at *
  have HWL : Hid (vars.length + fixed.length + (ks.length + Tree.weights ks) <= 3000000) := zH (by have := HWS.out; omega)
  have t4 : (k == 4) = false := by rw [beq_eq_false_iff_ne]; exact h4
  have t5 : (k == 5) = false := by rw [beq_eq_false_iff_ne]; exact h5
  have t8 : (k == 8) = false := by rw [beq_eq_false_iff_ne]; exact h8
  rw [hW] at x0 x1 x2 x3 x4
  clear HWS HTX h4 h5 h8
  go_enter Tryz.func106, Tryz.ntmps106
  go_upto_region 11 with fail
  clear x0 x1 x2 x3 x4
  rw [<- HW.out]
  clear HW hW
  have HB := HB0
  have HSC := HSC0
  have HX := HX0
  clear HB0 HSC0 HX0
  have HTX := True.intro
  have x4 := HX.out.at 4 (.row 0 5 (.slice ka ks.length kc) []) rfl
  simp only [val] at x4
  go_wp2_with fail
  clear x4
  generalize hNk : ks.length = N at *
  have HNk := zH hNk
  clear hNk
  go_loopw [6] (fun j wr => ∃ i : Nat, i <= N /\ j = .int .i64 i /\ Below w.heap.size w wr /\ ScAt wr w.heap.size U (.slice a1 vars.length c1) (.slice a2 fixed.length c2) (.slice a3 fields.length c3) vars fixed fields own /\ Cells (w.heap.size + 1) [.int k, .str t, .int n, .row 0 1 (.slice va ns.length vc) [], .row 0 5 (.slice ka N kc) []] wr /\ R = chks own (use cs vars fixed fields) (from_ k i) (ks.drop i)) (fun j _ => N - (intOf j).toNat)
  case atStart => exact ⟨0, Nat.zero_le _, rfl, HB.out, HSC.out, HX.out, HR.out⟩
  case round =>
    clear HB HSC HX HR
    obtain ⟨i, hi, rfl, hbr, hsc, hxr, hr⟩ := hrel
    have HB := zH hbr
    have HSC := zH hsc
    have HX := zH hxr
    have HR := zH hr
    have x4 := hxr.at 4 (.row 0 5 (.slice ka N kc) []) rfl
    have x0 := hxr.at 0 (.int k) rfl
    simp only [val] at x0 x4
    clear hbr hsc hxr hr
    by_cases hlt : i < N
    case neg =>
      have HE : Hid (R = ByteArray.empty) := zH (by rw [HR.out, List.drop_of_length_le (by rw [HNk.out]; omega), chks_nil])
      clear HR HSC HX HKID HTX IHK IHG
      go_wp2_with fail
      go_ret
      exact ⟨by rw [HE.out]; rfl, HB.out⟩
    obtain ⟨b, o, ha, hkid⟩ := HKID.out (by omega)
    subst ha
    obtain ⟨x, hx⟩ : ∃ x, ks[i]? = some x := ⟨_, List.getElem?_eq_getElem (by rw [HNk.out]; exact hlt)⟩
    obtain ⟨wn, wk, d0, d1, d2, d3, d4, hnd⟩ := zax (hkid i x hx) HB.out
    have hxm : x ∈ ks := List.mem_of_getElem? hx
    have hwx := za1 hxm
    have hdr : ks.drop i = x :: ks.drop (i + 1) := by
      obtain ⟨h1, h2⟩ := List.getElem?_eq_some_iff.1 hx
      rw [List.drop_eq_getElem_cons h1, h2]
    rw [hdr] at HR
    have IX := zH (IHK.out x hxm)
    have IY := zH (IHG.out x hxm)
    obtain ⟨-, -, -, htxx, hkx⟩ := zat.1 hnd
    obtain ⟨pa, pc, rfl, -⟩ := id htxx
    obtain ⟨qa, qc, rfl, ⟨hq1, hq2⟩, hkid2⟩ := kids_see hkx
    unfold maxLen at hq2
    have HK2 := zH hkid2
    clear htxx hkx hkid2
    have HND := zH hnd
    have HWX : Hid (Tree.weight x <= Tree.weights ks) := zH hwx
    clear hkid hx hxm hdr hnd hwx IHK IHG
    have hbk : Below wr.heap.size wr (wr.alloc (.cells #[.int .i64 x.kind, .string x.text, .int .i64 x.num, .slice pa x.names.length pc, .slice qa x.kids.length qc] 76)) := (zB _ _).alloc (zL _) _
    have hg : Cells wr.heap.size [.int x.kind, .str x.text, .int x.num, .row 0 1 (.slice pa x.names.length pc) [], .row 0 5 (.slice qa x.kids.length qc) []] (wr.alloc (.cells #[.int .i64 x.kind, .string x.text, .int .i64 x.num, .slice pa x.names.length pc, .slice qa x.kids.length qc] 76)) := zab wr [.int x.kind, .str x.text, .int x.num, .row 0 1 (.slice pa x.names.length pc) [], .row 0 5 (.slice qa x.kids.length qc) []] _
    have HB1 := zH (HB.out.trans (hbk.mono HB.out.size))
    have HSC1 := zH (HSC.out.below hbk)
    have HX1 := zH (HX.out.step hbk)
    have HND1 := zH (HND.out.below hbk)
    have HG1 := zH hg
    have HK21 : Hid (0 < x.kids.length -> ∃ b o, qa = some ⟨b, o, none⟩ /\ ∀ i y, x.kids[i]? = some y -> Spot 0 (wr.alloc (.cells #[.int .i64 x.kind, .string x.text, .int .i64 x.num, .slice pa x.names.length pc, .slice qa x.kids.length qc] 76)) b (o + i * 5) y) := zH (fun hp => by
      obtain ⟨b, o, e, h⟩ := HK2.out hp
      exact ⟨b, o, e, fun i y hy => zax (h i y hy) hbk⟩)
    clear hbk hg HB HSC HX HND HK2
    go_upto_region 15 with fail
    generalize wr.alloc (.cells #[.int .i64 x.kind, .string x.text, .int .i64 x.num, .slice pa x.names.length pc, .slice qa x.kids.length qc] 76) = wk at *
    generalize wr.heap.size = G at *
    clear x0 x4 d0 d1 d2 d3 d4
    have x0 := HX1.out.at 0 (.int k) rfl
    have g0 := HG1.out.at 0 (.int x.kind) rfl
    have g1 := HG1.out.at 1 (.str x.text) rfl
    have g2 := HG1.out.at 2 (.int x.num) rfl
    have g3 := HG1.out.at 3 (.row 0 1 (.slice pa x.names.length pc) []) rfl
    have g4 := HG1.out.at 4 (.row 0 5 (.slice qa x.kids.length qc) []) rfl
    simp only [val] at x0 g0 g1 g2 g3 g4
    obtain ⟨s0, s1, s2, s3, s4, -, st1, st2, st3⟩ := id HSC1.out
    have KX := zH (IX.out wk U _ _ _ _ _ _ _ _ (HU.out.below HB1.out) st1.1 st1.2.1 st2.1 st2.2.1 st3.1 st3.2.1 HND1.out (by have := HWX.out; have := HNN.out; omega) (by have := HWX.out; have := HWL.out; omega))
    clear st1 st2 st3
    by_cases hA : i = 0 /\ k = 6 /\ x.kind = 4 /\ x.text = tSuper
    case pos =>
      obtain ⟨hi0, hk6, hxk, hxt⟩ := hA
      have HA : Hid (R = if own then chks own (use cs vars fixed fields) 0 (ks.drop (i + 1)) else outside) := zH (by rw [HR.out, hi0, hk6]; exact chks_super own _ x _ hxk hxt)
      have zi : ((i : Int) == 0) = true := by rw [hi0]; rfl
      have z6 : (k == 6) = true := by rw [hk6]; rfl
      have zk : (x.kind == 4) = true := by rw [hxk]; rfl
      have zt : x.text.toList = [115, 117, 112, 101, 114] := by rw [hxt, ByteArray.toList_eq]; rfl
      have HI0 := zH hi0
      have HK6 := zH hk6
      clear hi0 hk6 hxk hxt KX HR IX IY HND1 HK21 HG1
      cases own with
      | false =>
        have HA2 : Hid (R = outside) := zH (HA.out.trans rfl)
        clear HA
        go_wp2_with fail
        go_ret
        exact ⟨by rw [HA2.out]; rfl, HB1.out⟩
      | true =>
        have HA2 : Hid (R = chks true (use cs vars fixed fields) (from_ k (i + 1)) (ks.drop (i + 1))) := zH (by rw [HA.out, if_pos rfl]; unfold from_; rw [if_neg (by omega), if_neg (by rw [HK6.out]; omega)])
        clear HA
        go_wp2_with fail
        go_roundw
        case rel => exact ⟨i + 1, by omega, by go_num, HB1.out, HSC1.out, HX1.out, HA2.out⟩
        case measure => simp [intOf]; omega
    by_cases hB : k = 7 /\ 0 < i
    case pos =>
      obtain ⟨hk7, hi0⟩ := hB
      have HR2 : Hid (R = first (chks own (use cs vars fixed fields) 0 x.kids) (chks own (use cs vars fixed fields) (from_ k (i + 1)) (ks.drop (i + 1)))) := zH (by rw [HR.out, hk7]; exact chks_message own _ i x _ hi0)
      have zi : ((i : Int) == 0) = false := by rw [beq_eq_false_iff_ne]; omega
      have z7 : (k == 7) = true := by rw [hk7]; rfl
      have zg : (0 : Int) < (i : Int) := by omega
      clear hA hk7 KX HR IX s0 s1 s2 s3 s4
      generalize hM : x.kids.length = M at *
      have HM := zH hM
      clear hM
      go_wp2_with fail
      go_loopw [8] (fun j wr => ∃ q : Nat, q <= M /\ j = .int .i64 q /\ Below wk.heap.size wk wr /\ R = first (chks own (use cs vars fixed fields) 0 (x.kids.drop q)) (chks own (use cs vars fixed fields) (from_ k (i + 1)) (ks.drop (i + 1)))) (fun j _ => M - (intOf j).toNat)
      case atStart => exact ⟨0, Nat.zero_le _, rfl, zB _ _, HR2.out⟩
      case round =>
        clear HR2 g0 g1 g2 g3 g4 x0
        obtain ⟨q, hq, rfl, hbr, hr⟩ := hrel
        have HBR := zH hbr
        have HR := zH hr
        have HB2 := zH (HB1.out.trans (hbr.mono HB1.out.size))
        have HX2 := zH (HX1.out.step hbr)
        have HG2 := zH (HG1.out.step hbr)
        have HSC2 := zH (HSC1.out.below hbr)
        have g4 := HG2.out.at 4 (.row 0 5 (.slice qa M qc) []) rfl
        simp only [val] at g4
        clear hbr hr
        by_cases hltq : q < M
        case neg =>
          have HE : Hid (R = chks own (use cs vars fixed fields) (from_ k (i + 1)) (ks.drop (i + 1))) := zH (by rw [HR.out, List.drop_of_length_le (by rw [HM.out]; omega), chks_nil]; rfl)
          clear HR IY HG2 HK21
          go_wp2_with fail
          go_roundw
          case rel => exact ⟨i + 1, by omega, by go_num, HB2.out, HSC2.out, HX2.out, HE.out⟩
          case measure => simp [intOf]; omega
        obtain ⟨bb, oo, ha, hkid⟩ := HK21.out (by omega)
        subst ha
        obtain ⟨y, hy⟩ : ∃ y, x.kids[q]? = some y := ⟨_, List.getElem?_eq_getElem (by rw [HM.out]; exact hltq)⟩
        obtain ⟨yn, yk, e0, e1, e2, e3, e4, hnd⟩ := zax (hkid q y hy) HBR.out
        have hym : y ∈ x.kids := List.mem_of_getElem? hy
        have hwy := za1 hym
        have hdr : x.kids.drop q = y :: x.kids.drop (q + 1) := by
          obtain ⟨h1, h2⟩ := List.getElem?_eq_some_iff.1 hy
          rw [List.drop_eq_getElem_cons h1, h2]
        have HR2 : Hid (R = first (chk own (use cs vars fixed fields) y) (first (chks own (use cs vars fixed fields) 0 (x.kids.drop (q + 1))) (chks own (use cs vars fixed fields) (from_ k (i + 1)) (ks.drop (i + 1))))) := zH (by rw [HR.out, hdr, chks, first_assoc])
        have hwy2 : Tree.weight y <= Tree.weights ks := Nat.le_trans (Nat.le_trans hwy (by cases x with | mk a1 a2 a3 a4 a5 => rw [Tree.weight]; show Tree.weights a5 <= _; omega)) HWX.out
        obtain ⟨ra, rn, rc, ta, tn, tc, rfl, rfl⟩ := forms_of hnd
        obtain ⟨s0, s1, s2, s3, s4, -, st1, st2, st3⟩ := id HSC2.out
        have KE := fun d os => zH (Calls.regrown_of (w := wr) (d := d) (os := os) (IY.out y hym _ U _ _ _ _ _ _ _ _ ((HU.out.below HB2.out).below (below_regrown wr d os)) (st1.1.below (below_regrown wr d os)) st1.2.1 (st2.1.below (below_regrown wr d os)) st2.2.1 (st3.1.below (below_regrown wr d os)) st3.2.1 (hnd.below (below_regrown wr d os)) (by have := HNN.out; omega) (by have := HWL.out; omega)))
        clear st1 st2 st3 hkid hy hym hwy hdr hnd hwy2 HR IY
        go_upto_region 22 with fail
        have r0 := cell_regrown s0; have r1 := cell_regrown s1; have r2 := cell_regrown s2; have r3 := cell_regrown s3; have r4 := cell_regrown s4; have r5 := cell_regrown g4; have r6 := cell_regrown e0; have r7 := cell_regrown e1; have r8 := cell_regrown e2; have r9 := cell_regrown e3; have r10 := cell_regrown e4
        refine wp_region_quiet_below (by kernel_rfl) (by kernel_rfl) ?_
        repeat (go_big_quiet_step ((go_at_call 106; exact (KE _ _).out)))
        refine wpQuiet_nil ?_
        intro w3 hw3
        have hb3 := zah hw3
        have HBR3 := zH (HBR.out.trans (hb3.mono HBR.out.size))
        have HB3 := zH (HB2.out.trans (hb3.mono HB2.out.size))
        clear hw3 hb3 KE r0 r1 r2 r3 r4 r5 r6 r7 r8 r9 r10 s0 s1 s2 s3 s4 g4 e0 e1 e2 e3 e4 HB2 HX2 HG2 HSC2 HBR
        generalize chk own (use cs vars fixed fields) y = z at *
        by_cases hz : z.data.toList = []
        case pos =>
          have hze := zaj hz
          have HR3 := zH (HR2.out.trans (if_pos hz))
          clear HR2
          go_wp2_with fail
          go_roundw
          case rel => exact ⟨q + 1, by omega, by go_num, HBR3.out, HR3.out⟩
          case measure => simp [intOf]; omega
        case neg =>
          have hze := zae hz
          have HR3 := zH (HR2.out.trans (if_neg hz))
          clear HR2
          go_wp2_with fail
          go_ret
          exact ⟨by rw [HR3.out]; rfl, HB3.out⟩
    have HC : Hid (R = first (chk own (use cs vars fixed fields) x) (chks own (use cs vars fixed fields) (from_ k (i + 1)) (ks.drop (i + 1)))) := zH (by rw [HR.out]; exact chks_call own _ k i x _ hA hB)
    clear HR IX IY HND1 HK21
    by_cases hi0 : i = 0
    case neg =>
      have h7 : ¬ k = 7 := fun h => hB ⟨h, by omega⟩
      have zi : ((i : Int) == 0) = false := by rw [beq_eq_false_iff_ne]; omega
      have z7 : (k == 7) = false := by rw [beq_eq_false_iff_ne]; exact h7
      clear hA hB hi0 h7
      go_wp2_with fail
      refine KX.out.mono ?_
      rintro e w2 ⟨rfl, hb2⟩
      have HB2 := zH (HB1.out.trans (hb2.mono HB1.out.size))
      have HX2 := zH (HX1.out.step hb2)
      have HSC2 := zH (HSC1.out.below hb2)
      clear hb2 KX HB1 HX1 HSC1 HG1 s0 s1 s2 s3 s4 g0 g1 g2 g3 g4 x0
      generalize chk own (use cs vars fixed fields) x = z at *
      by_cases hz : z.data.toList = []
      case pos =>
        have hze := zaj hz
        have HR3 := zH (HC.out.trans (if_pos hz))
        clear HC
        go_wp2_with fail
        go_roundw
        case rel => exact ⟨i + 1, by omega, by go_num, HB2.out, HSC2.out, HX2.out, HR3.out⟩
        case measure => simp [intOf]; omega
      case neg =>
        have hze := zae hz
        have HR3 := zH (HC.out.trans (if_neg hz))
        clear HC
        go_wp2_with fail
        go_ret
        exact ⟨by rw [HR3.out]; rfl, HB2.out⟩
    have zi : ((i : Int) == 0) = true := by rw [hi0]; rfl
    have zg : ¬ (0 : Int) < (i : Int) := by omega
    by_cases h6 : k = 6
    case neg =>
      have z6 : (k == 6) = false := by rw [beq_eq_false_iff_ne]; exact h6
      by_cases h7 : k = 7
      case pos =>
        have z7 : (k == 7) = true := by rw [h7]; rfl
        clear hA hB hi0 h6 h7
        go_wp2_with fail
        refine KX.out.mono ?_
        rintro e w2 ⟨rfl, hb2⟩
        have HB2 := zH (HB1.out.trans (hb2.mono HB1.out.size))
        have HX2 := zH (HX1.out.step hb2)
        have HSC2 := zH (HSC1.out.below hb2)
        clear hb2 KX HB1 HX1 HSC1 HG1 s0 s1 s2 s3 s4 g0 g1 g2 g3 g4 x0
        generalize chk own (use cs vars fixed fields) x = z at *
        by_cases hz : z.data.toList = []
        case pos =>
          have hze := zaj hz
          have HR3 := zH (HC.out.trans (if_pos hz))
          clear HC
          go_wp2_with fail
          go_roundw
          case rel => exact ⟨i + 1, by omega, by go_num, HB2.out, HSC2.out, HX2.out, HR3.out⟩
          case measure => simp [intOf]; omega
        case neg =>
          have hze := zae hz
          have HR3 := zH (HC.out.trans (if_neg hz))
          clear HC
          go_wp2_with fail
          go_ret
          exact ⟨by rw [HR3.out]; rfl, HB2.out⟩
      have z7 : (k == 7) = false := by rw [beq_eq_false_iff_ne]; exact h7
      clear hA hB hi0 h6 h7
      go_wp2_with fail
      refine KX.out.mono ?_
      rintro e w2 ⟨rfl, hb2⟩
      have HB2 := zH (HB1.out.trans (hb2.mono HB1.out.size))
      have HX2 := zH (HX1.out.step hb2)
      have HSC2 := zH (HSC1.out.below hb2)
      clear hb2 KX HB1 HX1 HSC1 HG1 s0 s1 s2 s3 s4 g0 g1 g2 g3 g4 x0
      generalize chk own (use cs vars fixed fields) x = z at *
      by_cases hz : z.data.toList = []
      case pos =>
        have hze := zaj hz
        have HR3 := zH (HC.out.trans (if_pos hz))
        clear HC
        go_wp2_with fail
        go_roundw
        case rel => exact ⟨i + 1, by omega, by go_num, HB2.out, HSC2.out, HX2.out, HR3.out⟩
        case measure => simp [intOf]; omega
      case neg =>
        have hze := zae hz
        have HR3 := zH (HC.out.trans (if_neg hz))
        clear HC
        go_wp2_with fail
        go_ret
        exact ⟨by rw [HR3.out]; rfl, HB2.out⟩
    have z6 : (k == 6) = true := by rw [h6]; rfl
    have z7 : (k == 7) = false := by rw [h6]; rfl
    by_cases hxk : x.kind = 4
    case neg =>
      have zk : (x.kind == 4) = false := by rw [beq_eq_false_iff_ne]; exact hxk
      clear hA hB hi0 h6 hxk
      go_wp2_with fail
      refine KX.out.mono ?_
      rintro e w2 ⟨rfl, hb2⟩
      have HB2 := zH (HB1.out.trans (hb2.mono HB1.out.size))
      have HX2 := zH (HX1.out.step hb2)
      have HSC2 := zH (HSC1.out.below hb2)
      clear hb2 KX HB1 HX1 HSC1 HG1 s0 s1 s2 s3 s4 g0 g1 g2 g3 g4 x0
      generalize chk own (use cs vars fixed fields) x = z at *
      by_cases hz : z.data.toList = []
      case pos =>
        have hze := zaj hz
        have HR3 := zH (HC.out.trans (if_pos hz))
        clear HC
        go_wp2_with fail
        go_roundw
        case rel => exact ⟨i + 1, by omega, by go_num, HB2.out, HSC2.out, HX2.out, HR3.out⟩
        case measure => simp [intOf]; omega
      case neg =>
        have hze := zae hz
        have HR3 := zH (HC.out.trans (if_neg hz))
        clear HC
        go_wp2_with fail
        go_ret
        exact ⟨by rw [HR3.out]; rfl, HB2.out⟩
    have zk : (x.kind == 4) = true := by rw [hxk]; rfl
    have zt : ¬ x.text.toList = [115, 117, 112, 101, 114] := fun e => hA ⟨hi0, h6, hxk, by
      apply ba_of
      rw [e, ByteArray.toList_eq]
      rfl⟩
    have zt2 : (x.text.toList == [115, 117, 112, 101, 114]) = false := by rw [beq_eq_false_iff_ne]; exact zt
    clear hA hB hi0 h6 hxk
    go_wp2_with fail
    refine KX.out.mono ?_
    rintro e w2 ⟨rfl, hb2⟩
    have HB2 := zH (HB1.out.trans (hb2.mono HB1.out.size))
    have HX2 := zH (HX1.out.step hb2)
    have HSC2 := zH (HSC1.out.below hb2)
    clear hb2 KX HB1 HX1 HSC1 HG1 s0 s1 s2 s3 s4 g0 g1 g2 g3 g4 x0
    generalize chk own (use cs vars fixed fields) x = z at *
    by_cases hz : z.data.toList = []
    case pos =>
      have hze := zaj hz
      have HR3 := zH (HC.out.trans (if_pos hz))
      clear HC
      go_wp2_with fail
      go_roundw
      case rel => exact ⟨i + 1, by omega, by go_num, HB2.out, HSC2.out, HX2.out, HR3.out⟩
      case measure => simp [intOf]; omega
    case neg =>
      have hze := zae hz
      have HR3 := zH (HC.out.trans (if_neg hz))
      clear HC
      go_wp2_with fail
      go_ret
      exact ⟨by rw [HR3.out]; rfl, HB2.out⟩
end SpecChk
end Go.Proofs.YtnlgdkfenipmfaaGreatDoor
