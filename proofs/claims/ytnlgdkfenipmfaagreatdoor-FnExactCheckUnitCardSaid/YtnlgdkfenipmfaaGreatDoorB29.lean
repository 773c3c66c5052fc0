/-
  ImplScope ImplSend
-/
import Derived.Test.YtnlgdkfenipmfaaGreatDoorB28
namespace Go.Proofs.YtnlgdkfenipmfaaGreatDoor
namespace ImplScope
open Go.RowKit
open Strs Tree Go.Proofs.YtnlgdkfenipmfaaGreatDoor.Data Chk SpecChk SMap ImplFirst
def mapOf (σ : Sc) : ByteArray -> Option Value := fun k => if σ k = 0 then none else some (.int .i64 (σ k : Int))
theorem mapOf_get (σ : Sc) (k : ByteArray) : (mapOf σ k).getD (.int .i64 0) = .int .i64 (σ k : Int) := by
  unfold mapOf
  by_cases h : σ k = 0
  · rw [if_pos h, h]; rfl
  · rw [if_neg h]; rfl
theorem mapOf_some (σ : Sc) (k : ByteArray) : (mapOf σ k).isSome = decide (σ k ≠ 0) := by
  unfold mapOf
  by_cases h : σ k = 0
  · rw [if_pos h]; simp [h]
  · rw [if_neg h]; simp [h]
theorem mapOf_put (σ : Sc) (n : ByteArray) (v : Nat) (hv : v ≠ 0) (k : ByteArray) : mapOf (put σ n v) k = if k = n then some (.int .i64 (v : Int)) else mapOf σ k := by
  unfold mapOf put
  by_cases h : k = n
  · rw [if_pos h, if_pos h, if_neg hv]
  · rw [if_neg h, if_neg h]
theorem zeroU (w : World) : (zeroValue 161).run Tryz.prog w = .ok (.int .i64 0) w := by kernel_rfl
theorem lawU (w : World) : Law2 Tryz.prog Value.string 102 9 161 (.int .i64 0) w := law_str Tryz.underlying102 Tryz.underlying9 (zeroU w)
structure Env (w : World) (S B : Nat) (own : Bool) (σ : Sc) : Prop where
  c0 : w.cell? ⟨S, 0, none⟩ = some (.map (some B))
  c1 : w.cell? ⟨S, 1, none⟩ = some (.bool own)
  mp : Mp Value.string w B (mapOf σ)
theorem Env.ne {w : World} {S B : Nat} {own : Bool} {σ : Sc} (h : Env w S B own σ) : S ≠ B := fun e => h.mp.za2 0 _ (e ▸ h.c0)
theorem Env.step {w w' : World} {S B : Nat} {own : Bool} {σ : Sc} (h : Env w S B own σ) (hb : Below w.heap.size w w') : Env w' S B own σ := ⟨cell_keep hb h.c0, cell_keep hb h.c1, h.mp.step hb⟩
theorem Env.set {w w' : World} {S B : Nat} {own : Bool} {σ τ : Sc} (h : Env w S B own σ) (hb : But B w w') (hm : Mp Value.string w' B (mapOf τ)) : Env w' S B own τ := ⟨hb.cell h.ne h.c0, hb.cell h.ne h.c1, hm⟩
theorem Env.look {w : World} {S B : Nat} {own : Bool} {σ : Sc} (h : Env w S B own σ) (n : ByteArray) : (Instr.lookup 102 (.map (some B)) (.string n) false).run Tryz.prog w = .ok (.int .i64 (σ n : Int)) w := by
  have := h.mp.look (lawU w) n false
  rw [mapOf_get] at this
  exact this
theorem Env.look2 {w : World} {S B : Nat} {own : Bool} {σ : Sc} (h : Env w S B own σ) (n : ByteArray) : (Instr.lookup 102 (.map (some B)) (.string n) true).run Tryz.prog w = .ok (.tuple #[.int .i64 (σ n : Int), .bool (decide (σ n ≠ 0))]) w := by
  have := h.mp.look (lawU w) n true
  rw [mapOf_get, mapOf_some] at this
  exact this
def Tt (S B : Nat) (own : Bool) (w w' : World) : Prop := But B w w' /\ ((∃ τ, Env w S B own τ) -> ∃ τ, Env w' S B own τ)
theorem Tt.refl (S B : Nat) (own : Bool) (w : World) : Tt S B own w w := ⟨But.refl _ _, id⟩
theorem Tt.trans {S B : Nat} {own : Bool} {a b c : World} (h : Tt S B own a b) (k : Tt S B own b c) : Tt S B own a c := ⟨h.1.trans k.1, fun e => k.2 (h.2 e)⟩
theorem tt_below {S B : Nat} {own : Bool} {w w' : World} (h : Below w.heap.size w w') : Tt S B own w w' := ⟨zau h, fun ⟨τ, hE⟩ => ⟨τ, hE.step h⟩⟩
def Went (w : World) (S B : Nat) (own : Bool) (σ : Sc) (z : ByteArray) (r : Ending) (w' : World) : Prop :=
  r = .returned (.string z) /\ Tt S B own w w' /\ (z.data.toList = [] -> Env w' S B own σ)
theorem spot_but {w w' : World} {B b o : Nat} {e : E} (h : Spot 0 w b o e) (hb : But B w w') (hm : ∀ o v, w.cell? ⟨B, o, none⟩ ≠ some v) : Spot 0 w' b o e := by
  have hk := (hb.keptF hm 0).1
  obtain ⟨vn, vk, c0, c1, c2, c3, c4, hn⟩ := h
  exact ⟨vn, vk, hk _ _ _ (Nat.zero_le _) c0, hk _ _ _ (Nat.zero_le _) c1, hk _ _ _ (Nat.zero_le _) c2, hk _ _ _ (Nat.zero_le _) c3, hk _ _ _ (Nat.zero_le _) c4, NodeAt.keep (zL _) hk _ _ _ hn⟩
def Sup (σ : Sc) : Prop := ∀ n, σ n = 1 ↔ n = tSuper
def Rt (e : E) : Prop := ∃ st, right e st = true
def XOk (own : Bool) (e : E) : Prop := ∀ (σ : Sc) (w : World) (S B b o : Nat), Sup σ -> Env w S B own σ -> Spot 0 w b o e -> Tree.weight e <= 1048576 ->
  Calls Tryz.prog 159 #[.pointer (some ⟨S, 0, none⟩), .pointer (some ⟨b, o, none⟩)] w (Went w S B own σ (chk own σ e))
def KOk (own : Bool) (e : E) : Prop := ∀ (σ : Sc) (w : World) (S B b o : Nat), Sup σ -> Env w S B own σ -> Spot 0 w b o e -> Tree.weight e <= 1048576 ->
  Calls Tryz.prog 205 #[.pointer (some ⟨S, 0, none⟩), .pointer (some ⟨b, o, none⟩)] w (Went w S B own σ (chks own σ 0 e.kids))
theorem enter_expr (args : Array Value) (w : World) : (callFunc 159 args).run Tryz.prog w = .ok (.enter 159 args) w := by kernel_rfl
theorem enter_kids (args : Array Value) (w : World) : (callFunc 205 args).run Tryz.prog w = .ok (.enter 205 args) w := by kernel_rfl
def kidP (own : Bool) (σ : Sc) (ks : List E) (i : Nat) : ByteArray := match ks[i]? with | some x => chk own σ x | none => ByteArray.empty
theorem firsts_kids (own : Bool) (σ : Sc) (ks : List E) : ∀ n i, ks.length - i = n -> firsts (kidP own σ ks) i n = chks own σ 0 (ks.drop i) := by
  intro n
  induction n with
  | zero => intro i h; rw [List.drop_of_length_le (by omega), firsts, chks]
  | succ n ih =>
    intro i h
    have hi : i < ks.length := by omega
    rw [firsts, ih (i + 1) (by omega), List.drop_eq_getElem_cons hi, chks]
    unfold kidP
    rw [List.getElem?_eq_getElem hi]
def msgP (own : Bool) (σ : Sc) (ks : List E) (i : Nat) : ByteArray := match ks[i]? with | some x => chks own σ 0 x.kids | none => ByteArray.empty
theorem firsts_msgs (own : Bool) (σ : Sc) (ks : List E) : ∀ n i, ks.length - i = n -> firsts (msgP own σ ks) i n = chks own σ 3 (ks.drop i) := by
  intro n
  induction n with
  | zero => intro i h; rw [List.drop_of_length_le (by omega), firsts, chks_nil]
  | succ n ih =>
    intro i h
    have hi : i < ks.length := by omega
    rw [firsts, ih (i + 1) (by omega), List.drop_eq_getElem_cons hi]
    unfold msgP
    rw [List.getElem?_eq_getElem hi]
    generalize ks[i] = x
    cases x with
    | mk a b c d e => rw [chks]; all_goals first | rfl | (intro h; omega)
theorem args1 (s p : Value) : ((#[s] : Array Value).push p ++ #[]) = #[s, p] := by simp
theorem drl (w : World) (k : Nat) : Below w.heap.size w (w.drewN k) := ⟨rfl, rfl, rfl, zL _, fun _ _ => rfl⟩
set_option maxRecDepth 100000 in
set_option maxHeartbeats 1000000 in
theorem run_exprs (own : Bool) (σ : Sc) (hσ : Sup σ) (ks : List E) (hX : ∀ x, x ∈ ks -> XOk own x) (hW : ∀ x, x ∈ ks -> Tree.weight x <= 1048576) (w : World) (S B : Nat) (a : Option Addr) (c : Nat) (hE : Env w S B own σ) (hm : ks.length <= maxLen)
    (hk : 0 < ks.length -> ∃ b o, a = some ⟨b, o, none⟩ /\ ∀ i x, ks[i]? = some x -> Spot 0 w b (o + i * 5) x) :
    Calls Tryz.prog 245 #[.slice a ks.length c, .func (.func 159) #[.pointer (some ⟨S, 0, none⟩)] #[]] w (Went w S B own σ (chks own σ 0 ks)) := by
  have HX := zH hX
  have HK := zH hk
  clear hX hk
  have key : ∀ i w', i < ks.length -> (Env w' S B own σ /\ But B w w') -> ∃ x, a = some x /\ Calls Tryz.prog 159 ((#[.pointer (some ⟨S, 0, none⟩)] : Array Value).push (.pointer (some (x.add (i * 5)))) ++ #[]) w' fun r w'' => r = .returned (.string (kidP own σ ks i)) /\ Tt S B own w' w'' /\ ((kidP own σ ks i).data.toList = [] -> Env w'' S B own σ /\ But B w w'') := by
    intro i w' hi hI
    obtain ⟨hE', hb'⟩ := hI
    obtain ⟨b, o, rfl, hsp⟩ := HK.out (by omega)
    have hx := List.getElem?_eq_getElem hi
    have hxm : ks[i] ∈ ks := List.getElem_mem hi
    have e : kidP own σ ks i = chk own σ ks[i] := by unfold kidP; rw [hx]
    have hc := HX.out _ hxm σ w' S B b (o + i * 5) hσ hE' (spot_but (hsp i _ hx) hb' (hE.mp.za2)) (hW _ hxm)
    rw [<- e] at hc
    refine ⟨_, rfl, ?_⟩
    rw [args1, add_at]
    refine Calls.mono (R := Went w' S B own σ (kidP own σ ks i)) hc ?_
    intro r w'' hwent
    obtain ⟨h1, h2, h3⟩ := hwent
    exact ⟨h1, h2, fun hz => ⟨h3 hz, hb'.trans h2.1⟩⟩
  have h := first_expr 159 #[.pointer (some ⟨S, 0, none⟩)] #[] enter_expr a ks.length c (kidP own σ ks) (fun _ w' => Env w' S B own σ /\ But B w w') (Tt S B own) (Tt.refl S B own) (fun _ _ _ => Tt.trans) w ⟨hE, But.refl _ _⟩ hm key
  rw [firsts_kids own σ ks ks.length 0 rfl] at h
  exact h.mono fun r w' ⟨h1, h2, h3⟩ => ⟨h1, h2, fun hz => (h3 hz).1⟩
set_option maxRecDepth 100000 in
set_option maxHeartbeats 1000000 in
theorem run_msgs (own : Bool) (σ : Sc) (hσ : Sup σ) (ks : List E) (hX : ∀ x, x ∈ ks -> KOk own x) (hW : ∀ x, x ∈ ks -> Tree.weight x <= 1048576) (w : World) (S B : Nat) (a : Option Addr) (c : Nat) (hE : Env w S B own σ) (hm : ks.length <= maxLen)
    (hk : 0 < ks.length -> ∃ b o, a = some ⟨b, o, none⟩ /\ ∀ i x, ks[i]? = some x -> Spot 0 w b (o + i * 5) x) :
    Calls Tryz.prog 245 #[.slice a ks.length c, .func (.func 205) #[.pointer (some ⟨S, 0, none⟩)] #[]] w (Went w S B own σ (chks own σ 3 ks)) := by
  have HX := zH hX
  have HK := zH hk
  clear hX hk
  have key : ∀ i w', i < ks.length -> (Env w' S B own σ /\ But B w w') -> ∃ x, a = some x /\ Calls Tryz.prog 205 ((#[.pointer (some ⟨S, 0, none⟩)] : Array Value).push (.pointer (some (x.add (i * 5)))) ++ #[]) w' fun r w'' => r = .returned (.string (msgP own σ ks i)) /\ Tt S B own w' w'' /\ ((msgP own σ ks i).data.toList = [] -> Env w'' S B own σ /\ But B w w'') := by
    intro i w' hi hI
    obtain ⟨hE', hb'⟩ := hI
    obtain ⟨b, o, rfl, hsp⟩ := HK.out (by omega)
    have hx := List.getElem?_eq_getElem hi
    have hxm : ks[i] ∈ ks := List.getElem_mem hi
    have e : msgP own σ ks i = chks own σ 0 ks[i].kids := by unfold msgP; rw [hx]
    have hc := HX.out _ hxm σ w' S B b (o + i * 5) hσ hE' (spot_but (hsp i _ hx) hb' (hE.mp.za2)) (hW _ hxm)
    rw [<- e] at hc
    refine ⟨_, rfl, ?_⟩
    rw [args1, add_at]
    refine Calls.mono (R := Went w' S B own σ (msgP own σ ks i)) hc ?_
    intro r w'' hwent
    obtain ⟨h1, h2, h3⟩ := hwent
    exact ⟨h1, h2, fun hz => ⟨h3 hz, hb'.trans h2.1⟩⟩
  have h := first_expr 205 #[.pointer (some ⟨S, 0, none⟩)] #[] enter_kids a ks.length c (msgP own σ ks) (fun _ w' => Env w' S B own σ /\ But B w w') (Tt S B own) (Tt.refl S B own) (fun _ _ _ => Tt.trans) w ⟨hE, But.refl _ _⟩ hm key
  rw [firsts_msgs own σ ks ks.length 0 rfl] at h
  exact h.mono fun r w' ⟨h1, h2, h3⟩ => ⟨h1, h2, fun hz => (h3 hz).1⟩
set_option maxHeartbeats 1000000 in
theorem kids_ok (own : Bool) (e : E) (hX : ∀ x, x ∈ e.kids -> XOk own x) : KOk own e := by
  intro σ w S B b o hσ hE hs hw
  obtain ⟨vn, vk, c0, c1, c2, c3, c4, hn⟩ := hs
  obtain ⟨-, -, -, -, hks⟩ := zat.1 hn
  obtain ⟨ka, kc, rfl, ⟨h1, h2⟩, hk⟩ := kids_see hks
  have hW : ∀ x, x ∈ e.kids -> Tree.weight x <= 1048576 := fun x hx => by
    have := za1 hx
    obtain ⟨k, t, n, ns, ks⟩ := e
    rw [Tree.weight] at hw
    have : Tree.weights ks <= 1048576 := by omega
    exact Nat.le_trans (za1 hx) this
  have K := zH (run_exprs own σ hσ e.kids hX hW w S B ka kc hE (by omega) hk)
  clear hX hW hk hks hn hσ hE
  go_enter Tryz.func205, Tryz.ntmps205
  go_wp2_with fail
  refine K.out.mono ?_
  rintro r w1 ⟨rfl, hb, hz⟩
  go_wp2_with fail
  go_ret
  exact ⟨rfl, hb, hz⟩
set_option maxHeartbeats 1000000 in
theorem name_ok (own : Bool) (σ : Sc) (n : ByteArray) (w : World) (S B : Nat) (hE : Env w S B own σ) (hn : n.size <= 1048576) :
    Calls Tryz.prog 200 #[.pointer (some ⟨S, 0, none⟩), .string n] w fun r w' => r = .returned (.string (if σ n < 2 then unknown n else ByteArray.empty)) /\ w = w' := by
  have hl := hE.look n
  have c0 := hE.c0
  obtain ⟨hadd, hadd2⟩ := add2 ⟨#[110, 97, 109, 101, 32]⟩ ⟨#[32, 105, 115, 32, 117, 110, 107, 110, 111, 119, 110]⟩ n (by decide) (by decide) hn
  have HV : Hid (unknown n = ⟨#[110, 97, 109, 101, 32]⟩ ++ n ++ ⟨#[32, 105, 115, 32, 117, 110, 107, 110, 111, 119, 110]⟩) := zH rfl
  generalize σ n = q at *
  clear hE
  by_cases hq : q < 2
  · rw [if_pos hq]
    have hq2 : (q : Int) < 2 := by omega
    clear hq
    go_enter Tryz.func200, Tryz.ntmps200
    go_wp2_with fail
    go_ret
    exact ⟨by rw [HV.out]; rfl, rfl⟩
  · rw [if_neg hq]
    have hq2 : ¬ (q : Int) < 2 := by omega
    clear hq HV
    go_enter Tryz.func200, Tryz.ntmps200
    go_wp2_with fail
    go_ret
    exact ⟨rfl, rfl⟩
set_option maxRecDepth 100000 in
set_option maxHeartbeats 2000000 in
theorem assign_ok (own : Bool) (e : E) (h5 : e.kind = 5) (hK : KOk own e) (σ : Sc) (w : World) (S B b o : Nat) (hσ : Sup σ) (hE : Env w S B own σ) (hs : Spot 0 w b o e) (hw : Tree.weight e <= 1048576) :
    Calls Tryz.prog 201 #[.pointer (some ⟨S, 0, none⟩), .pointer (some ⟨b, o, none⟩)] w (Went w S B own σ (chk own σ e)) := by
  have hv : Hid (chk own σ e = if σ e.text ≠ 3 then notAssigned e.text else chks own σ 0 e.kids) := zH (by
    obtain ⟨k, t, n, ns, ks⟩ := e
    replace h5 : k = 5 := h5
    rw [h5, chk, if_neg (by omega), if_pos rfl]; rfl)
  have K := fun k => zH (hK σ (w.drewN k) S B b o hσ (hE.step (drl w k)) (zax hs (drl w k)) hw)
  have hl := hE.look e.text
  have hlk := fun k => (hE.step (drl w k)).look e.text
  have HE := zH hE
  have s0 := hE.c0
  obtain ⟨vn, vk, c0, c1, c2, c3, c4, hn⟩ := hs
  have hts : e.text.size <= 1048576 := by
    obtain ⟨k, t, n, ns, ks⟩ := e
    rw [Tree.weight] at hw
    show t.size <= _
    omega
  have HV : Hid (notAssigned e.text = ⟨#[110, 97, 109, 101, 32]⟩ ++ e.text ++ ⟨#[32, 99, 97, 110, 32, 110, 111, 116, 32, 98, 101, 32, 97, 115, 115, 105, 103, 110, 101, 100]⟩) := zH rfl
  obtain ⟨hadd, hadd2⟩ := add2 ⟨#[110, 97, 109, 101, 32]⟩ ⟨#[32, 99, 97, 110, 32, 110, 111, 116, 32, 98, 101, 32, 97, 115, 115, 105, 103, 110, 101, 100]⟩ e.text (by decide) (by decide) hts
  clear hE hσ hn hw hK h5 hts
  generalize chk own σ e = R at *
  generalize chks own σ 0 e.kids = Z at *
  generalize σ e.text = q at *
  by_cases hq : q = 3
  · have hR : Hid (R = Z) := zH (by rw [hv.out, if_neg (by simp [hq])])
    have hq2 : ((q : Int) == 3) = true := by rw [hq]; rfl
    clear hv hq hadd hadd2
    go_enter Tryz.func201, Tryz.ntmps201
    go_wp2_with fail
    go_quiet (fail)
    go_wp2_with fail
    refine (K _).out.mono ?_
    rintro r w1 ⟨rfl, hb, hz⟩
    go_wp2_with fail
    go_ret
    exact ⟨by rw [hR.out]; rfl, (tt_below (drl w _)).trans hb, fun h => hz (hR.out ▸ h)⟩
  · have hR : Hid (R = notAssigned e.text) := zH (by rw [hv.out, if_pos hq])
    have hq2 : ((q : Int) == 3) = false := by rw [beq_eq_false_iff_ne]; omega
    clear hv hq K
    go_enter Tryz.func201, Tryz.ntmps201
    go_wp2_with fail
    go_quiet (fail)
    go_wp2_with fail
    go_ret
    exact ⟨by rw [hR.out, HV.out]; rfl, tt_below (drl w _), fun h => absurd (hR.out ▸ h) (notAssigned_ne _)⟩
end ImplScope
namespace ImplScope
open Go.RowKit
open Strs Tree Go.Proofs.YtnlgdkfenipmfaaGreatDoor.Data Chk SpecChk SMap ImplFirst
theorem chks_plain (own : Bool) (σ : Sc) (x : E) (es : List E) (h : ¬ (x.kind = 4 /\ x.text = tSuper)) : chks own σ 1 (x :: es) = chks own σ 0 (x :: es) := by
  conv => lhs; rw [chks, if_neg h]
  conv => rhs; rw [chks]
theorem outside_eq : outside = tSuper ++ ⟨#[32, 115, 116, 97, 110, 100, 115, 32, 111, 117, 116, 115, 105, 100, 101, 32, 111, 102, 32, 97, 32, 99, 108, 97, 115, 115]⟩ := by decide
theorem outside_ne : outside.data.toList ≠ [] := by decide
set_option maxRecDepth 100000 in
set_option maxHeartbeats 4000000 in
theorem send_ok (own : Bool) (e : E) (h6 : e.kind = 6) (x0 : E) (es : List E) (hks : e.kids = x0 :: es) (hK : KOk own e) (hX : ∀ x, x ∈ es -> XOk own x) (σ : Sc) (w : World) (S B b o : Nat) (hσ : Sup σ) (hE : Env w S B own σ) (hs : Spot 0 w b o e) (hw : Tree.weight e <= 1048576) :
    Calls Tryz.prog 202 #[.pointer (some ⟨S, 0, none⟩), .pointer (some ⟨b, o, none⟩)] w (Went w S B own σ (chk own σ e)) := by
  have hv : Hid (chk own σ e = chks own σ 1 (x0 :: es)) := zH (by
    rw [<- hks]
    obtain ⟨k, t, n, ns, ks⟩ := e
    replace h6 : k = 6 := h6
    rw [h6, chk, if_neg (by omega), if_neg (by omega), if_pos rfl]; rfl)
  have K := fun k => zH (hK σ (w.drewN k) S B b o hσ (hE.step (drl w k)) (zax hs (drl w k)) hw)
  rw [hks] at K
  have hl := hE.look x0.text
  have hlk := fun k => (hE.step (drl w k)).look x0.text
  have hsup := hσ x0.text
  have s0 := hE.c0
  have s1 := hE.c1
  obtain ⟨vn, vk, c0, c1, c2, c3, c4, hn⟩ := hs
  obtain ⟨-, -, -, -, hkk⟩ := zat.1 hn
  rw [hks] at hkk
  obtain ⟨ka, kc, rfl, ⟨h1, h2⟩, hk⟩ := kids_see hkk
  obtain ⟨kb, ko, rfl, hsp⟩ := hk (by simp)
  obtain ⟨xn, xk, d0, d1, d2, d3, d4, -⟩ := hsp 0 x0 rfl
  have hwes : ∀ x, x ∈ es -> Tree.weight x <= 1048576 := fun x hx => by
    have := za1 (es := e.kids) (e := x) (by rw [hks]; simp [hx])
    obtain ⟨k, t, n, ns, ks⟩ := e
    rw [Tree.weight] at hw
    have h3 : Tree.weights (E.mk k t n ns ks).kids <= 1048576 := by show Tree.weights ks <= _; omega
    omega
  have hts : x0.text.size <= 1048576 := by
    have h4 := za1 (es := e.kids) (e := x0) (by rw [hks]; simp)
    obtain ⟨k, t, n, ns, ks⟩ := e
    rw [Tree.weight] at hw
    have h3 : Tree.weights (E.mk k t n ns ks).kids <= 1048576 := by show Tree.weights ks <= _; omega
    have h5 : x0.text.size <= Tree.weight x0 := by
      obtain ⟨k', t', n', ns', ks'⟩ := x0
      rw [Tree.weight]
      show t'.size <= _
      omega
    omega
  have KE := fun (k : Nat) (a : Option Addr) (c : Nat) (ha : 0 < es.length -> a = some ⟨kb, ko + 5, none⟩) => zH (run_exprs own σ hσ es hX hwes (w.drewN k) S B a c (hE.step (drl w k)) (by simp at h1; omega) (fun hp => ⟨kb, ko + 5, ha hp, fun i x hx => by
    have h7 := zax (hsp (i + 1) x (by simpa using hx)) (drl w k)
    rw [show ko + (i + 1) * 5 = ko + 5 + i * 5 by omega] at h7
    exact h7⟩))
  have HX := zH hX
  rw [show ko + 0 * 5 = ko by omega] at d0 d1 d2 d3 d4
  simp only [List.length_cons] at c4 h1
  unfold maxLen at h2
  clear hE hσ hn hw hK hks hkk hk hsp hwes hX
  have HR1 : Hid (¬ (x0.kind = 4 /\ x0.text = tSuper) -> chk own σ e = chks own σ 0 (x0 :: es)) := zH (fun h => hv.out.trans (chks_plain own σ x0 es h))
  have HR2 : Hid (x0.kind = 4 -> x0.text = tSuper -> chk own σ e = if own then chks own σ 0 es else outside) := zH (fun h h' => hv.out.trans (chks_super own σ x0 es h h'))
  clear hv h6
  generalize chk own σ e = R at *
  generalize chks own σ 0 (x0 :: es) = Z at *
  by_cases hk4 : x0.kind = 4
  case neg =>
    have hR := zH (HR1.out (fun h => hk4 h.1))
    have t4 : (x0.kind == 4) = false := by rw [beq_eq_false_iff_ne]; exact hk4
    have t4n : (x0.kind != 4) = true := by rw [bne, t4]; rfl
    clear HR1 HR2 hk4 KE hsup
    go_enter Tryz.func202, Tryz.ntmps202
    go_wp2_with fail
    go_quiet (fail)
    go_wp2_with fail
    refine (K _).out.mono ?_
    rintro r w1 ⟨rfl, hb, hz⟩
    go_wp2_with fail
    go_ret
    exact ⟨by rw [hR.out]; rfl, (tt_below (drl w _)).trans hb, fun h => hz (hR.out ▸ h)⟩
  have t4 : (x0.kind == 4) = true := by rw [hk4]; rfl
  have t4n : (x0.kind != 4) = false := by rw [bne, t4]; rfl
  by_cases hq : σ x0.text = 1
  case neg =>
    have hR := zH (HR1.out (fun h => hq (hsup.2 h.2)))
    have tq : (((σ x0.text : Nat) : Int) == 1) = false := by rw [beq_eq_false_iff_ne]; omega
    clear HR1 HR2 hk4 KE hsup hq
    generalize σ x0.text = q at *
    go_enter Tryz.func202, Tryz.ntmps202
    go_wp2_with fail
    go_quiet (fail)
    go_wp2_with fail
    refine (K _).out.mono ?_
    rintro r w1 ⟨rfl, hb, hz⟩
    go_wp2_with fail
    go_ret
    exact ⟨by rw [hR.out]; rfl, (tt_below (drl w _)).trans hb, fun h => hz (hR.out ▸ h)⟩
  have HT := zH (hsup.1 hq)
  have hR0 := zH (HR2.out hk4 HT.out)
  have tq : (((σ x0.text : Nat) : Int) == 1) = true := by rw [hq]; rfl
  clear HR1 HR2 hk4 hsup hq K
  generalize σ x0.text = q at *
  cases own with
  | false =>
    have hR : Hid (R = outside) := zH (by rw [hR0.out]; rfl)
    have hadd : ∀ W : World, (Op.stringOp .add x0.text ⟨#[32, 115, 116, 97, 110, 100, 115, 32, 111, 117, 116, 115, 105, 100, 101, 32, 111, 102, 32, 97, 32, 99, 108, 97, 115, 115]⟩).run Tryz.prog W = .ok (.string (x0.text ++ ⟨#[32, 115, 116, 97, 110, 100, 115, 32, 111, 117, 116, 115, 105, 100, 101, 32, 111, 102, 32, 97, 32, 99, 108, 97, 115, 115]⟩)) W := fun W => run_string_add_sum W _ _ (by show x0.text.size + 26 <= _; omega)
    clear hR0 KE
    go_enter Tryz.func202, Tryz.ntmps202
    go_wp2_with fail
    go_quiet (fail)
    go_wp2_with fail
    go_ret
    exact ⟨by rw [hR.out, outside_eq, <- HT.out]; rfl, tt_below (drl w _), fun h => absurd (hR.out ▸ h) outside_ne⟩
  | true =>
    have hR : Hid (R = chks true σ 0 es) := zH (by rw [hR0.out]; rfl)
    clear hR0
    generalize chks true σ 0 es = Z2 at *
    go_enter Tryz.func202, Tryz.ntmps202
    go_wp2_with fail
    go_quiet (fail)
    go_wp2_with fail
    all_goals
      refine (KE _ _ _ (fun hp => by first | rfl | (exfalso; omega))).out.mono ?_
      rintro r w1 ⟨rfl, hb, hz⟩
      go_wp2_with fail
      go_ret
      exact ⟨by rw [hR.out]; rfl, (tt_below (drl w _)).trans hb, fun h => hz (hR.out ▸ h)⟩
set_option maxRecDepth 100000 in
set_option maxHeartbeats 4000000 in
theorem cascade_ok (own : Bool) (e : E) (h7 : e.kind = 7) (x0 : E) (es : List E) (hks : e.kids = x0 :: es) (hX0 : XOk own x0) (hX : ∀ x, x ∈ es -> KOk own x) (σ : Sc) (w : World) (S B b o : Nat) (hσ : Sup σ) (hE : Env w S B own σ) (hs : Spot 0 w b o e) (hw : Tree.weight e <= 1048576) :
    Calls Tryz.prog 203 #[.pointer (some ⟨S, 0, none⟩), .pointer (some ⟨b, o, none⟩)] w (Went w S B own σ (chk own σ e)) := by
  have hv : Hid (chk own σ e = first (chk own σ x0) (chks own σ 3 es)) := zH (by
    obtain ⟨k, t, n, ns, ks⟩ := e
    replace h7 : k = 7 := h7
    replace hks : ks = x0 :: es := hks
    rw [h7, hks, chk, if_neg (by omega), if_neg (by omega), if_neg (by omega), if_pos rfl, chks])
  have HS := zH hs
  have HEv := zH hE
  have s0 := hE.c0
  have hwa : ∀ x, x ∈ e.kids -> Tree.weight x <= 1048576 := fun x hx => by
    have := za1 hx
    obtain ⟨k, t, n, ns, ks⟩ := e
    rw [Tree.weight] at hw
    have h3 : Tree.weights (E.mk k t n ns ks).kids <= 1048576 := by show Tree.weights ks <= _; omega
    omega
  obtain ⟨vn, vk, c0, c1, c2, c3, c4, hn⟩ := hs
  obtain ⟨-, -, -, -, hkk⟩ := zat.1 hn
  rw [hks] at hkk hwa
  obtain ⟨ka, kc, rfl, ⟨h1, h2⟩, hk⟩ := kids_see hkk
  obtain ⟨kb, ko, rfl, hsp⟩ := hk (by simp)
  have hsp0 := hsp 0 x0 rfl
  rw [show ko + 0 * 5 = ko by omega] at hsp0
  have K0 := zH (hX0 σ w S B kb ko hσ hE hsp0 (hwa x0 (by simp)))
  have KE := fun (w' : World) (hE' : Env w' S B own σ) (hb' : But B w w') (a : Option Addr) (c : Nat) (ha : 0 < es.length -> a = some ⟨kb, ko + 5, none⟩) => zH (run_msgs own σ hσ es hX (fun x hx => hwa x (by simp [hx])) w' S B a c hE' (by simp at h1; omega) (fun hp => ⟨kb, ko + 5, ha hp, fun i x hx => by
    have h7 := spot_but (hsp (i + 1) x (by simpa using hx)) hb' hE.mp.za2
    rw [show ko + (i + 1) * 5 = ko + 5 + i * 5 by omega] at h7
    exact h7⟩))
  have C4 : Hid (∀ w', But B w w' -> w'.cell? ⟨b, o + 4, none⟩ = some (.slice (some ⟨kb, ko, none⟩) (es.length + 1) kc)) := zH (fun w' hb => (hb.keptF hE.mp.za2 0).1 _ _ _ (Nat.zero_le _) c4)
  simp only [List.length_cons] at c4 h1
  unfold maxLen at h2
  clear hE hσ hn hw hX hX0 hks hkk hk hsp hsp0 hwa h7 HS HEv c0 c1 c2 c3
  generalize chk own σ e = R at *
  generalize chk own σ x0 = z at *
  go_enter Tryz.func203, Tryz.ntmps203
  go_wp2_with fail
  refine K0.out.mono ?_
  rintro r w1 ⟨rfl, hb, hz⟩
  have c4' := C4.out w1 hb.1
  have HB := zH hb
  have HZ := zH hz
  clear hb hz c4 K0 C4
  by_cases hz : z.data.toList = []
  case neg =>
    have hze := zae hz
    have hR : Hid (R = z) := zH (hv.out.trans (if_neg hz))
    have hRn : Hid (¬ R.data.toList = []) := zH (by rw [hR.out]; exact hz)
    clear hv KE hz
    go_wp2_with fail
    go_ret
    exact ⟨by rw [hR.out]; rfl, HB.out, fun h => absurd h hRn.out⟩
  have hze := zaj hz
  have hR := zH (hv.out.trans (if_pos hz))
  have hE1 := HZ.out hz
  have s0' := hE1.c0
  have HE1 := zH hE1
  clear hv hz HZ hE1 s0
  generalize chks own σ 3 es = Z2 at *
  go_wp2_with fail
  all_goals
    refine (KE _ HE1.out HB.out.1 _ _ (fun hp => by first | rfl | (exfalso; omega))).out.mono ?_
    rintro r w2 ⟨rfl, hb, hz⟩
    go_wp2_with fail
    go_ret
    exact ⟨by rw [hR.out]; rfl, HB.out.trans hb, fun h => hz (hR.out ▸ h)⟩
end ImplScope
end Go.Proofs.YtnlgdkfenipmfaaGreatDoor
