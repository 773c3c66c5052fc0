/-
  ImplBlkS ImplExprS
-/
import Derived.Test.YtnlgdkfenipmfaaGreatDoorB29
namespace Go.Proofs.YtnlgdkfenipmfaaGreatDoor
namespace ImplScope
open Go.RowKit
open Strs Tree Go.Proofs.YtnlgdkfenipmfaaGreatDoor.Data Chk SpecChk SMap ImplFirst
theorem sup_put {τ : Sc} (h : Sup τ) {n : ByteArray} (h0 : τ n = 0) (v : Nat) (hv : v ≠ 1) : Sup (put τ n v) := by
  intro m
  unfold put
  by_cases hm : m = n
  · rw [if_pos hm]
    constructor
    · intro e; exact absurd e hv
    · intro e
      have h1 := (h n).2 (hm ▸ e)
      omega
  · rw [if_neg hm]
    exact h m
theorem mapOf_zero (σ : Sc) (n : ByteArray) (k : ByteArray) : mapOf (put σ n 0) k = if k = n then none else mapOf σ k := by
  unfold mapOf put
  by_cases h : k = n
  · rw [if_pos h, if_pos h, if_pos rfl]
  · rw [if_neg h, if_neg h]
theorem mem_take_succ {ns : List ByteArray} {q : Nat} {n m : ByteArray} (h : ns[q]? = some n) : m ∈ ns.take (q + 1) ↔ m ∈ ns.take q \/ m = n := by
  obtain ⟨h1, rfl⟩ := List.getElem?_eq_some_iff.1 h
  rw [List.take_succ_eq_append_getElem h1, List.mem_append, List.mem_singleton]
structure Since (σ τ : Sc) (ns : List ByteArray) (q : Nat) : Prop where
  same : ∀ m, m ∉ ns.take q -> τ m = σ m
  free : ∀ m, m ∈ ns.take q -> σ m = 0
theorem Since.next {σ τ : Sc} {ns : List ByteArray} {q : Nat} {n : ByteArray} (h : Since σ τ ns q) (hn : ns[q]? = some n) (h0 : τ n = 0) (v : Nat) : Since σ (put τ n v) ns (q + 1) \/ n ∈ ns.take q := by
  by_cases hm : n ∈ ns.take q
  · exact .inr hm
  · left
    refine ⟨fun m hm' => ?_, fun m hm' => ?_⟩
    · rw [mem_take_succ hn, not_or] at hm'
      unfold put
      rw [if_neg hm'.2]
      exact h.same m hm'.1
    · rw [mem_take_succ hn] at hm'
      rcases hm' with h1 | rfl
      · exact h.free m h1
      · rw [<- h.same m hm]; exact h0
set_option maxRecDepth 100000 in
set_option maxHeartbeats 8000000 in
theorem block_ok (own : Bool) (e : E) (h8 : e.kind = 8) (hK : KOk own e) (σ : Sc) (w : World) (S B b o : Nat) (hσ : Sup σ) (hE : Env w S B own σ) (hs : Spot 0 w b o e) (hw : Tree.weight e <= 1048576) :
    Calls Tryz.prog 204 #[.pointer (some ⟨S, 0, none⟩), .pointer (some ⟨b, o, none⟩)] w (Went w S B own σ (chk own σ e)) := by
  have hv : Hid (chk own σ e = first (declare σ e.num 0 e.names).1 (chks own (declare σ e.num 0 e.names).2 0 e.kids)) := zH (by
    obtain ⟨k, t, n, ns, ks⟩ := e
    replace h8 : k = 8 := h8
    rw [h8, chk, if_neg (by omega), if_neg (by omega), if_neg (by omega), if_neg (by omega), if_pos rfl]; rfl)
  have hnw : e.names.length + lens e.names <= 1048576 := by
    obtain ⟨k, t, n, ns, ks⟩ := e
    rw [Tree.weight] at hw
    show ns.length + lens ns <= _
    omega
  have KK := fun (τ : Sc) (hτ : Sup τ) (w' : World) (hE' : Env w' S B own τ) (hb' : But B w w') => zH (hK τ w' S B b o hτ hE' (spot_but hs hb' hE.mp.za2) hw)
  have hkept : ∀ w', But B w w' -> Tree.Kept 0 w w' := fun w' hb => (hb.keptF hE.mp.za2 0).1
  obtain ⟨vn, vk, c0, c1, c2, c3, c4, hn⟩ := hs
  obtain ⟨-, hwf, -, htx, -⟩ := zat.1 hn
  obtain ⟨na, nc, rfl, ⟨hn1, hn2⟩, -, hcell⟩ := htx
  unfold maxLen at hn2
  have HCELL : Hid (0 < e.names.length -> ∃ b off, na = some ⟨b, off, none⟩ /\ ∀ j x, e.names[j]? = some x -> ∀ w', But B w w' -> w'.cell? ⟨b, off + j, none⟩ = some (.string x)) := zH (fun hp => by
    obtain ⟨b, off, ha, -, hd⟩ := hcell hp
    refine ⟨b, off, ha, fun j x hx w' hb => ?_⟩
    obtain ⟨h1, rfl⟩ := List.getElem?_eq_some_iff.1 hx
    exact hkept w' hb _ _ _ (Nat.zero_le _) (hd j h1))
  have C2 : Hid (∀ w', But B w w' -> w'.cell? ⟨b, o + 2, none⟩ = some (.int .i64 e.num)) := zH (fun w' hb => hkept w' hb _ _ _ (Nat.zero_le _) c2)
  have C3 : Hid (∀ w', But B w w' -> w'.cell? ⟨b, o + 3, none⟩ = some (.slice na e.names.length nc)) := zH (fun w' hb => hkept w' hb _ _ _ (Nat.zero_le _) c3)
  have HSZ : Hid (∀ x, x ∈ e.names -> x.size <= 1048576) := zH (fun x hx => by have := weight_names hx; omega)
  have HE0 := zH hE
  have HS0 := zH hσ
  clear hn hcell hkept hw hK h8 hE hσ c0 c1 c2 c4 hwf hnw
  generalize chk own σ e = R at *
  generalize e.num = num at *
  generalize hD : declare σ num 0 e.names = D at *
  have HD := zH hD
  clear hD
  have KK2 : ∀ (τ : Sc) (hτ : Sup τ) (w' : World) (hE' : Env w' S B own τ) (hb' : But B w w'), Hid (Calls Tryz.prog 205 #[.pointer (some ⟨S, 0, none⟩), .pointer (some ⟨b, o, none⟩)] w' (Went w' S B own τ (chks own τ 0 e.kids))) := KK
  clear KK
  generalize e.kids = ks at *
  generalize e.names = ns at *
  generalize hN : ns.length = N at *
  have HN := zH hN
  clear hN
  go_enter Tryz.func204, Tryz.ntmps204
  go_wp2_with fail
  clear c3
  go_loopw [17] (fun j wr => ∃ (q : Nat) (τ : Sc), q <= N /\ j = .int .i64 q /\ Env wr S B own τ /\ But B w wr /\ Sup τ /\ D = declare τ num q (ns.drop q) /\ Since σ τ ns q) (fun j _ => N - (intOf j).toNat)
  case atStart => exact ⟨0, σ, Nat.zero_le _, rfl, HE0.out, But.refl _ _, HS0.out, HD.out.symm, ⟨fun m _ => rfl, fun m h => by simp at h⟩⟩
  case round =>
    clear HD HE0
    obtain ⟨q, τ, hq, rfl, hE, hb, hs, hd, hsi⟩ := hrel
    have HE := zH hE
    have HB := zH hb
    have HS := zH hs
    have HD := zH hd
    have HSI := zH hsi
    have s0 := hE.c0
    clear hE hs hd hsi
    by_cases hlt : q < N
    case pos =>
      obtain ⟨nb, no, hna, hnm⟩ := HCELL.out (by omega)
      subst hna
      obtain ⟨n, hn⟩ : ∃ n, ns[q]? = some n := ⟨_, List.getElem?_eq_getElem (by rw [HN.out]; exact hlt)⟩
      have hcn := hnm q n hn wr hb
      have hns := HSZ.out n (List.mem_of_getElem? hn)
      have hdr : ns.drop q = n :: ns.drop (q + 1) := by
        obtain ⟨h1, h2⟩ := List.getElem?_eq_some_iff.1 hn
        rw [List.drop_eq_getElem_cons h1, h2]
      have hl2 := HE.out.look2 n
      have HQN := zH hn
      clear hb hnm hn
      by_cases h0 : τ n = 0
      case neg =>
        have hR : Hid (R = inUse n) := zH (by
          rw [hv.out, HD.out, hdr, declare_no h0]
          exact first_some (inUse_ne n) _)
        have hT : Hid (Tt S B own w wr) := zH ⟨HB.out, fun _ => ⟨τ, HE.out⟩⟩
        obtain ⟨hadd, hadd2⟩ := add2 ⟨#[110, 97, 109, 101, 32]⟩ ⟨#[32, 105, 115, 32, 105, 110, 32, 117, 115, 101]⟩ n (by decide) (by decide) hns
        rw [decide_eq_true h0] at hl2
        clear hdr h0 HD HSI HS HQN
        generalize τ n = tv at *
        go_wp2_with fail
        go_ret
        exact ⟨by rw [hR.out]; rfl, hT.out, fun h => absurd (hR.out ▸ h) (inUse_ne n)⟩
      rw [decide_eq_false (by simp [h0]), h0] at hl2
      have HD2 : Hid (D = declare (put τ n (if (q : Int) < num then 2 else 3)) num (q + 1) (ns.drop (q + 1))) := zH (by rw [HD.out, hdr, declare_yes h0])
      have HNXT : Hid (∀ v, v ≠ 0 -> v ≠ 1 -> Since σ (put τ n v) ns (q + 1) /\ Sup (put τ n v)) := zH (fun v h1 h2 => by
        refine ⟨?_, sup_put HS.out h0 v h2⟩
        rcases HSI.out.next HQN.out h0 v with h | h
        · exact h
        · have h3 := HSI.out.free n h
          refine ⟨fun m hm => ?_, fun m hm => ?_⟩
          · rw [mem_take_succ HQN.out, not_or] at hm
            unfold put
            rw [if_neg hm.2]
            exact HSI.out.same m hm.1
          · rw [mem_take_succ HQN.out] at hm
            rcases hm with hm | rfl
            · exact HSI.out.free m hm
            · exact h3)
      clear hdr h0 HD HSI HS HQN
      go_wp2_with (at_mapUpdate; refine wp_store2 rfl _ _ _ _ (.inl rfl) _ _ (lawU wr) HE.out.mp n (.int .i64 3) rfl rfl rfl ?_)
      intro w2 hm2 hb2
      have hE2 : Env w2 S B own (put τ n 3) := HE.out.set hb2 (hm2.cast (fun k => mapOf_put τ n 3 (by omega) k))
      have HE2 := zH hE2
      have HB2 := zH (HB.out.trans hb2)
      have c2 := C2.out w2 HB2.out
      have s02 := hE2.c0
      clear hm2 hb2 hE2 s0 hl2 hcn
      by_cases hpar : (q : Int) < num
      case neg =>
        have HD3 : Hid (D = declare (put τ n 3) num (q + 1) (ns.drop (q + 1))) := zH (by have := HD2.out; rwa [if_neg hpar] at this)
        clear HD2
        go_wp2_with fail
        go_roundw
        case rel => exact ⟨q + 1, _, by omega, by go_num, HE2.out, HB2.out, (HNXT.out 3 (by omega) (by omega)).2, HD3.out, (HNXT.out 3 (by omega) (by omega)).1⟩
        case measure => simp [intOf]; omega
      have HD3 : Hid (D = declare (put τ n 2) num (q + 1) (ns.drop (q + 1))) := zH (by have := HD2.out; rwa [if_pos hpar] at this)
      clear HD2
      go_wp2_with (at_mapUpdate; refine wp_store2 rfl _ _ _ _ (.inl rfl) _ _ (lawU w2) HE2.out.mp n (.int .i64 2) rfl rfl rfl ?_)
      intro w3 hm3 hb3
      have HE3 : Hid (Env w3 S B own (put τ n 2)) := zH (HE2.out.set hb3 (hm3.cast (fun k => by
        rw [mapOf_put τ n 2 (by omega), mapOf_put τ n 3 (by omega)]
        by_cases hk : k = n
        · rw [if_pos hk, if_pos hk]; rfl
        · rw [if_neg hk, if_neg hk, if_neg hk])))
      have HB3 := zH (HB2.out.trans hb3)
      clear hm3 hb3 c2 s02
      go_wp2_with fail
      go_roundw
      case rel => exact ⟨q + 1, _, by omega, by go_num, HE3.out, HB3.out, (HNXT.out 2 (by omega) (by omega)).2, HD3.out, (HNXT.out 2 (by omega) (by omega)).1⟩
      case measure => simp [intOf]; omega
    have hqN : q = N := by omega
    have HD2 : Hid (D = (ByteArray.empty, τ)) := zH (by rw [HD.out, List.drop_of_length_le (by rw [HN.out]; omega)]; rfl)
    have HSI2 : Hid (Since σ τ ns N) := zH (hqN ▸ HSI.out)
    have hR : Hid (R = chks own τ 0 ks) := zH (by rw [hv.out, HD2.out]; rfl)
    have K := KK2 τ HS.out wr HE.out HB.out
    clear HD HSI HD2 hb KK2 hv hqN
    generalize chks own τ 0 ks = z at *
    go_wp2_with fail
    refine K.out.mono ?_
    rintro r w1 ⟨rfl, ht, hz⟩
    obtain ⟨ρ0, hρ, hρz⟩ : ∃ ρ0, Env w1 S B own ρ0 /\ (z.data.toList = [] -> ρ0 = τ) := by
      by_cases hz0 : z.data.toList = []
      · exact ⟨τ, hz hz0, fun _ => rfl⟩
      · obtain ⟨ρ, h⟩ := ht.2 ⟨τ, HE.out⟩
        exact ⟨ρ, h, fun h' => absurd h' hz0⟩
    have HB1 := zH (HB.out.trans ht.1)
    have HE1 := zH hρ
    have HZ := zH hρz
    have c3 := C3.out w1 HB1.out
    clear ht hz hρ hρz K s0 hlt hq HB HE
    go_wp2_with fail
    clear c3
    go_loopw [60] (fun j wr => ∃ (q : Nat) (ρ : Sc), q <= N /\ j = .int .i64 q /\ Env wr S B own ρ /\ But B w wr /\ (∀ m, m ∈ ns.take q -> ρ m = 0) /\ ∀ m, m ∉ ns.take q -> ρ m = ρ0 m) (fun j _ => N - (intOf j).toNat)
    case atStart => exact ⟨0, ρ0, Nat.zero_le _, rfl, HE1.out, HB1.out, fun m h => by simp at h, fun m _ => rfl⟩
    case round =>
      clear HE1 HB1
      obtain ⟨q, ρ, hq, rfl, hE, hb, hρ⟩ := hrel
      have HE := zH hE
      have HB := zH hb
      have HP := zH hρ
      have s0 := hE.c0
      clear hE hρ
      by_cases hlt : q < N
      case pos =>
        obtain ⟨nb, no, hna, hnm⟩ := HCELL.out (by omega)
        subst hna
        obtain ⟨n, hn⟩ : ∃ n, ns[q]? = some n := ⟨_, List.getElem?_eq_getElem (by rw [HN.out]; exact hlt)⟩
        have hcn := hnm q n hn wr hb
        have HQN := zH hn
        clear hb hnm hn
        go_wp2_with (at_delete; refine wp_drop2 rfl _ _ _ _ rfl _ (lawU wr) HE.out.mp n rfl rfl ?_)
        intro w2 hm2 hb2
        have HE2 : Hid (Env w2 S B own (put ρ n 0)) := zH (HE.out.set hb2 (hm2.cast (fun k => mapOf_zero ρ n k)))
        have HB2 := zH (HB.out.trans hb2)
        have HP2 : Hid ((∀ m, m ∈ ns.take (q + 1) -> put ρ n 0 m = 0) /\ ∀ m, m ∉ ns.take (q + 1) -> put ρ n 0 m = ρ0 m) := zH ⟨fun m hm => by
          unfold put
          by_cases h : m = n
          · rw [if_pos h]
          · rw [if_neg h]
            rcases (mem_take_succ HQN.out).1 hm with h1 | h1
            · exact HP.out.1 m h1
            · exact absurd h1 h, fun m hm => by
          rw [mem_take_succ HQN.out, not_or] at hm
          unfold put
          rw [if_neg hm.2]
          exact HP.out.2 m hm.1⟩
        clear hm2 hb2 s0 hcn HP HQN
        go_wp2_with fail
        go_roundw
        case rel => exact ⟨q + 1, _, by omega, by go_num, HE2.out, HB2.out, HP2.out.1, HP2.out.2⟩
        case measure => simp [intOf]; omega
      have hqN : q = N := by omega
      have hF : Hid (z.data.toList = [] -> Env wr S B own σ) := zH (fun h => by
        have e : ρ = σ := by
          funext m
          have hz := HZ.out h
          by_cases hm : m ∈ ns.take N
          · rw [HP.out.1 m (by rw [hqN]; exact hm), HSI2.out.free m hm]
          · rw [HP.out.2 m (by rw [hqN]; exact hm), hz, HSI2.out.same m hm]
        exact e ▸ HE.out)
      have hT : Hid (Tt S B own w wr) := zH ⟨HB.out, fun _ => ⟨ρ, HE.out⟩⟩
      clear hqN hb HP HSI2 HZ
      go_wp2_with fail
      go_ret
      exact ⟨by rw [hR.out]; rfl, hT.out, fun h => hF.out (hR.out ▸ h)⟩
end ImplScope
namespace ImplScope
open Go.RowKit
open Strs Tree Go.Proofs.YtnlgdkfenipmfaaGreatDoor.Data Chk SpecChk SMap ImplFirst
theorem rt_kids {k : Int} {t : ByteArray} {n : Int} {ns : List ByteArray} {ks : List E} (h : Rt (.mk k t n ns ks)) (h7 : k ≠ 7) : ∀ x, x ∈ ks -> Rt x := by
  obtain ⟨st, h⟩ := h
  rw [right, if_neg h7] at h
  simp only [Bool.and_eq_true] at h
  intro x hx
  obtain ⟨i, hi, rfl⟩ := List.getElem_of_mem hx
  exact ⟨_, ((rights_iff _ _).1 h.2 i hi).1⟩
theorem rt_send {t : ByteArray} {n : Int} {ns : List ByteArray} {ks : List E} (h : Rt (.mk 6 t n ns ks)) : 0 < ks.length := by
  obtain ⟨st, h⟩ := h
  rw [right] at h
  simp only [Bool.and_eq_true] at h
  have h1 := h.1.1
  unfold node at h1
  split at h1
  · cases h1
  · simp at h1
    exact h1.2
theorem rt_casc {t : ByteArray} {n : Int} {ns : List ByteArray} {ks : List E} (h : Rt (.mk 7 t n ns ks)) : ∃ x es, ks = x :: es /\ Rt x /\ ∀ y, y ∈ es -> ∀ z, z ∈ y.kids -> Rt z := by
  obtain ⟨st, h⟩ := h
  rw [right, if_pos rfl] at h
  simp only [Bool.and_eq_true] at h
  obtain ⟨⟨h1, -⟩, h2⟩ := h
  unfold node at h1
  split at h1
  · cases h1
  · simp at h1
    cases ks with
    | nil => simp at h1
    | cons x es =>
      rw [headOk] at h2
      refine ⟨x, es, rfl, ⟨_, h2⟩, ?_⟩
      have h3 := h1.2.2
      rw [tailOk] at h3
      have : ∀ l : List E, msgs l = true -> ∀ y, y ∈ l -> ∀ z, z ∈ y.kids -> Rt z := by
        intro l
        induction l with
        | nil => intro _ y hy; cases hy
        | cons y l ih =>
          intro hl y' hy z hz
          obtain ⟨a, b, c, d, e⟩ := y
          rw [msgs] at hl
          simp only [Bool.and_eq_true] at hl
          rcases List.mem_cons.1 hy with rfl | hy
          · obtain ⟨i, hi, rfl⟩ := List.getElem_of_mem hz
            exact ⟨_, ((rights_iff _ _).1 hl.1.2 i hi).1⟩
          · exact ih hl.2 y' hy z hz
      exact this es h3
set_option maxRecDepth 100000 in
set_option maxHeartbeats 4000000 in
theorem expr_step (own : Bool) (e : E) (hr : Rt e) (ihk : ∀ x, x ∈ e.kids -> Rt x -> XOk own x) (ihg : ∀ x, x ∈ e.kids -> ∀ y, y ∈ x.kids -> Rt y -> XOk own y) : XOk own e := by
  intro σ w S B b o hσ hE hs hw
  have hs0 := hs
  obtain ⟨k, t, n, ns, ks⟩ := e
  replace ihk : ∀ x, x ∈ ks -> Rt x -> XOk own x := ihk
  replace ihg : ∀ x, x ∈ ks -> ∀ y, y ∈ x.kids -> Rt y -> XOk own y := ihg
  obtain ⟨vn, vk, c0, c1, c2, c3, c4, hn⟩ := hs
  replace c0 : w.cell? ⟨b, o, none⟩ = some (.int .i64 k) := c0
  replace c1 : w.cell? ⟨b, o + 1, none⟩ = some (.string t) := c1
  have hts : t.size <= 1048576 := by
    rw [Tree.weight] at hw
    omega
  have s0 := hE.c0
  by_cases h4 : k = 4
  · have K := zH (name_ok own σ t w S B hE hts)
    have hv : Hid (chk own σ (.mk k t n ns ks) = if σ t < 2 then unknown t else ByteArray.empty) := zH (by rw [h4, chk, if_pos rfl])
    have HE := zH hE
    have t4 : (k == 4) = true := by rw [h4]; rfl
    rw [<- hv.out] at K
    generalize chk own σ (.mk k t n ns ks) = R at *
    clear hv h4 hE hσ hw hs0 ihk ihg hr hn
    go_enter Tryz.func159, Tryz.ntmps159
    go_wp2_with fail
    refine K.out.mono ?_
    rintro r w1 ⟨rfl, rfl⟩
    go_wp2_with fail
    go_ret
    exact ⟨rfl, Tt.refl _ _ _ _, fun _ => HE.out⟩
  have t4 : (k == 4) = false := by rw [beq_eq_false_iff_ne]; exact h4
  by_cases h5 : k = 5
  · have hK : KOk own (.mk k t n ns ks) := kids_ok own _ (fun x hx => ihk x hx (rt_kids hr (by omega) x hx))
    have K := zH (assign_ok own (.mk k t n ns ks) h5 hK σ w S B b o hσ hE hs0 hw)
    have t5 : (k == 5) = true := by rw [h5]; rfl
    clear hK h5
    generalize chk own σ (.mk k t n ns ks) = R at *
    clear  hE hσ hw hs0 ihk ihg hr hn
    go_enter Tryz.func159, Tryz.ntmps159
    go_wp2_with fail
    refine K.out.mono ?_
    rintro r w1 ⟨rfl, ht, hz⟩
    go_wp2_with fail
    go_ret
    exact ⟨rfl, ht, hz⟩
  have t5 : (k == 5) = false := by rw [beq_eq_false_iff_ne]; exact h5
  by_cases h6 : k = 6
  · have hK : KOk own (.mk k t n ns ks) := kids_ok own _ (fun x hx => ihk x hx (rt_kids hr (by omega) x hx))
    obtain ⟨x0, es, hks⟩ : ∃ x0 es, ks = x0 :: es := by
      have := rt_send (h6 ▸ hr)
      cases ks with
      | nil => simp at this
      | cons x es => exact ⟨x, es, rfl⟩
    have hX : ∀ x, x ∈ es -> XOk own x := fun x hx => ihk x (by rw [hks]; simp [hx]) (rt_kids hr (by omega) x (by rw [hks]; simp [hx]))
    have K := zH (send_ok own (.mk k t n ns ks) h6 x0 es hks hK hX σ w S B b o hσ hE hs0 hw)
    have t6 : (k == 6) = true := by rw [h6]; rfl
    clear hK h6 hX hks
    generalize chk own σ (.mk k t n ns ks) = R at *
    clear  hE hσ hw hs0 ihk ihg hr hn
    go_enter Tryz.func159, Tryz.ntmps159
    go_wp2_with fail
    refine K.out.mono ?_
    rintro r w1 ⟨rfl, ht, hz⟩
    go_wp2_with fail
    go_ret
    exact ⟨rfl, ht, hz⟩
  have t6 : (k == 6) = false := by rw [beq_eq_false_iff_ne]; exact h6
  by_cases h7 : k = 7
  · obtain ⟨x0, es, hks, hx0, hes⟩ := rt_casc (h7 ▸ hr)
    have hX0 : XOk own x0 := ihk x0 (by rw [hks]; simp) hx0
    have hX : ∀ x, x ∈ es -> KOk own x := fun x hx => kids_ok own x (fun y hy => ihg x (by rw [hks]; simp [hx]) y hy (hes x hx y hy))
    have K := zH (cascade_ok own (.mk k t n ns ks) h7 x0 es hks hX0 hX σ w S B b o hσ hE hs0 hw)
    have t7 : (k == 7) = true := by rw [h7]; rfl
    clear hX0 h7 hX hks hx0 hes
    generalize chk own σ (.mk k t n ns ks) = R at *
    clear  hE hσ hw hs0 ihk ihg hr hn
    go_enter Tryz.func159, Tryz.ntmps159
    go_wp2_with fail
    refine K.out.mono ?_
    rintro r w1 ⟨rfl, ht, hz⟩
    go_wp2_with fail
    go_ret
    exact ⟨rfl, ht, hz⟩
  have t7 : (k == 7) = false := by rw [beq_eq_false_iff_ne]; exact h7
  have hK : KOk own (.mk k t n ns ks) := kids_ok own _ (fun x hx => ihk x hx (rt_kids hr h7 x hx))
  by_cases h8 : k = 8
  · have t8 : (k == 8) = true := by rw [h8]; rfl
    have K := zH (block_ok own (.mk k t n ns ks) h8 hK σ w S B b o hσ hE hs0 hw)
    clear hK h8
    generalize chk own σ (.mk k t n ns ks) = R at *
    clear  hE hσ hw hs0 ihk ihg hr hn
    go_enter Tryz.func159, Tryz.ntmps159
    go_wp2_with fail
    refine K.out.mono ?_
    rintro r w1 ⟨rfl, ht, hz⟩
    go_wp2_with fail
    go_ret
    exact ⟨rfl, ht, hz⟩
  have t8 : (k == 8) = false := by rw [beq_eq_false_iff_ne]; exact h8
  have hv : chk own σ (.mk k t n ns ks) = chks own σ 0 ks := by rw [chk, if_neg h4, if_neg h5, if_neg h6, if_neg h7, if_neg h8]
  have K0 := hK σ w S B b o hσ hE hs0 hw
  replace K0 : Calls Tryz.prog 205 #[.pointer (some ⟨S, 0, none⟩), .pointer (some ⟨b, o, none⟩)] w (Went w S B own σ (chks own σ 0 ks)) := K0
  rw [<- hv] at K0
  have K := zH K0
  generalize chk own σ (.mk k t n ns ks) = R at *
  clear hv K0 hK h4 h5 h6 h7 h8 hE hσ hw hs0 ihk ihg hr hn
  go_enter Tryz.func159, Tryz.ntmps159
  go_wp2_with fail
  refine K.out.mono ?_
  rintro r w1 ⟨rfl, ht, hz⟩
  go_wp2_with fail
  go_ret
  exact ⟨rfl, ht, hz⟩
theorem expr_all (own : Bool) : ∀ e, Rt e -> XOk own e := by
  have h : ∀ e, (Rt e -> XOk own e) /\ ∀ x, x ∈ e.kids -> Rt x -> XOk own x := by
    refine Tree.ind fun k t n ns ks ih => ?_
    have hk : ∀ x, x ∈ (E.mk k t n ns ks).kids -> Rt x -> XOk own x := fun x hx => (ih x hx).1
    exact ⟨fun hr => expr_step own _ hr hk (fun x hx => (ih x hx).2), hk⟩
  exact fun e => (h e).1
end ImplScope
end Go.Proofs.YtnlgdkfenipmfaaGreatDoor
