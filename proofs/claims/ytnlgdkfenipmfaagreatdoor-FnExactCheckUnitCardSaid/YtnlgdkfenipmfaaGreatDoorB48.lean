/-
  ImplNewC
-/
import Derived.Test.YtnlgdkfenipmfaaGreatDoorB47
namespace Go.Proofs.YtnlgdkfenipmfaaGreatDoor
namespace ImplScope
open Go.RowKit
open Strs Tree Go.Proofs.YtnlgdkfenipmfaaGreatDoor.Data Chk SpecChk SMap ImplFirst ImplLib ImplMeth
theorem glob_put (bs : List C) (c : C) : glob (bs ++ [c]) = put (glob bs) c.name 2 := by
  funext m
  unfold put
  by_cases hm : m = c.name
  · rw [if_pos hm, hm]
    have h : 0 <= cls (bs ++ [c]) c.name := by
      by_cases h0 : 0 <= cls bs c.name
      · rw [cls_append h0]; exact h0
      · rw [cls_snoc (by omega), if_pos rfl]; omega
    unfold glob
    rw [decide_eq_true h, Bool.true_or, if_pos rfl]
  · rw [if_neg hm]
    unfold glob
    by_cases hc : 0 <= cls bs m
    · rw [cls_append hc]
    · have e := cls_snoc (bs := bs) (c := c) (n := m) (by omega)
      rw [if_neg (fun h : c.name = m => hm h.symm)] at e
      rw [e, decide_eq_false hc, decide_eq_false (by omega : ¬ (0 : Int) <= -1)]
def known : List ByteArray := Builtin.names ++ four
def g0 (q : Nat) : Sc := fun n => if Tok.has (known.take q) n then 2 else if n = tSuper then 1 else 0
theorem g0_next {q : Nat} {x : ByteArray} (h : known[q]? = some x) : g0 (q + 1) = put (g0 q) x 2 := by
  obtain ⟨h1, h2⟩ := List.getElem?_eq_some_iff.1 h
  funext m
  unfold g0 put
  rw [List.take_succ_eq_append_getElem h1, h2, has_snoc]
  by_cases hm : m = x
  · simp [hm]
  · simp [hm]
theorem g0_end : g0 20 = glob [] := by
  funext m
  unfold g0 glob
  rw [List.take_of_length_le (by decide)]
  have h : Tok.has known m = (decide (0 <= cls [] m) || Tok.has four m) := by
    rw [Bool.eq_iff_iff, Bool.or_eq_true, decide_eq_true_iff, has_iff, has_iff]
    unfold known
    rw [List.mem_append]
    have : 0 <= cls [] m ↔ m ∈ Builtin.names := by
      unfold cls
      rw [<- index_mem]
      by_cases h0 : 0 <= index Builtin.names m
      · rw [if_pos h0]
      · rw [if_neg h0]
        have e : index (cnames []) m = -1 := rfl
        rw [e, if_neg (by omega)]
        constructor
        · intro h; omega
        · intro h; exact absurd h h0
    rw [this]
  rw [h]
def nObject : ByteArray := ⟨#[79, 98, 106, 101, 99, 116]⟩
def nException : ByteArray := ⟨#[69, 120, 99, 101, 112, 116, 105, 111, 110]⟩
def nError : ByteArray := ⟨#[69, 114, 114, 111, 114]⟩
def nMnu : ByteArray := ⟨#[77, 101, 115, 115, 97, 103, 101, 78, 111, 116, 85, 110, 100, 101, 114, 115, 116, 111, 111, 100]⟩
def nZero : ByteArray := ⟨#[90, 101, 114, 111, 68, 105, 118, 105, 100, 101]⟩
theorem φ_start (n : ByteArray) : φof [] n = if n = nObject then some [] else if n = nException \/ n = nError \/ n = nMnu \/ n = nZero then some [tText] else none := by
  have hc : cls [] n = index Builtin.names n := by
    unfold cls
    by_cases h0 : 0 <= index Builtin.names n
    · rw [if_pos h0]
    · rw [if_neg h0]
      have e : index (cnames []) n = -1 := rfl
      rw [e, if_neg (by omega)]
      have := index_lt Builtin.names n
      omega
  unfold φof
  rw [hc]
  have hn : Builtin.names = nObject :: nException :: nError :: nMnu :: nZero :: Builtin.names.drop 5 := rfl
  have hr := index_lt (Builtin.names.drop 5) n
  have hl : (Builtin.names.drop 5).length = 11 := rfl
  rw [hn]
  rw [hl] at hr
  generalize Builtin.names.drop 5 = rest at *
  rw [index, index, index, index, index]
  generalize index rest n = y at *
  have hR : ∀ (P : Prop) [Decidable P], P -> (if P then some [tText] else (none : Option (List ByteArray))) = some [tText] := fun P _ h => if_pos h
  by_cases h1 : nObject = n
  · subst h1
    rw [if_pos rfl, if_pos rfl]
    rfl
  · rw [if_neg h1, if_neg (fun e : n = nObject => h1 e.symm)]
    by_cases h2 : nException = n
    · rw [hR _ (.inl h2.symm), if_pos h2]
      rfl
    · rw [if_neg h2]
      by_cases h3 : nError = n
      · rw [hR _ (.inr (.inl h3.symm)), if_pos h3]
        rfl
      · rw [if_neg h3]
        by_cases h4 : nMnu = n
        · rw [hR _ (.inr (.inr (.inl h4.symm))), if_pos h4]
          rfl
        · rw [if_neg h4]
          by_cases h5 : nZero = n
          · rw [hR _ (.inr (.inr (.inr h5.symm))), if_pos h5]
            rfl
          · have hN : ¬ (n = nException \/ n = nError \/ n = nMnu \/ n = nZero) := fun e => by
              rcases e with e | e | e | e
              · exact h2 e.symm
              · exact h3 e.symm
              · exact h4 e.symm
              · exact h5 e.symm
            rw [if_neg h5, if_neg hN]
            have hs : ∀ z : Int, z = -1 \/ (5 <= z /\ z < 16) -> shut z = true := by
              intro z hz
              unfold shut
              rw [Bool.or_eq_true, Bool.and_eq_true, decide_eq_true_iff, decide_eq_true_iff, decide_eq_true_iff]
              omega
            rw [if_pos (hs _ (by repeat' split; all_goals omega))]
def NewAns (cs : List C) (w : World) (r : Ending) (w' : World) : Prop :=
  ∃ G T F, r = .returned (.agg #[.map (some G), .map (some T), .map (some F)]) /\ w.heap.size <= G /\ w.heap.size <= T /\ w.heap.size <= F /\ G ≠ T /\ G ≠ F /\ T ≠ F /\ Mp Value.string w' G (mapOf (glob cs)) /\ Mp Value.string w' T (mapOf (glob [])) /\ FMap w' F (φof []) /\ Below w.heap.size w w'
theorem mapOf_one (σ : Sc) (n : ByteArray) (h : ∀ m, m ≠ n -> σ m = 0) (v : Nat) (hv : σ n = v) (hv0 : v ≠ 0) (k : ByteArray) : mapOf σ k = if k = n then some (.int .i64 (v : Int)) else none := by
  unfold mapOf
  by_cases hk : k = n
  · rw [if_pos hk, hk, hv, if_neg hv0]
  · rw [if_neg hk, h k hk, if_pos rfl]
theorem g0_start : ∀ m, g0 0 m = if m = tSuper then 1 else 0 := fun m => by
  unfold g0
  rw [List.take_zero]
  rfl
theorem texts_own0 {w : World} {base : Nat} {v : Value} {xs : List ByteArray} (h : w.ownsRow base 9 1 v xs.length (xs.map Value.string)) (hs : ∀ x, x ∈ xs -> x.size <= maxLen) : Texts 0 w xs v := by
  have h' := h
  obtain ⟨_, ⟨rfl, hn⟩ | ⟨g, cap, cur, rfl, hg, _, hnc, hcm, _, _⟩⟩ := h
  · exact ⟨none, 0, by rw [hn], by unfold maxLen; omega, hs, fun hp => by omega⟩
  · refine ⟨_, cap, rfl, ⟨by omega, by omega⟩, hs, fun hp => ⟨g, 0, rfl, Nat.zero_le _, fun j hj => ?_⟩⟩
    rw [Nat.zero_add, h'.cellAt j (by omega)]
    simp [hj]
theorem texts_row {w : World} {base : Nat} {v : Value} {xs : List ByteArray} (h : w.ownsRow base 9 1 v xs.length (xs.map Value.string)) (hp : 0 < xs.length) : ∃ b c, v = .slice (some ⟨b, 0, none⟩) xs.length c /\ xs.length <= c /\ c <= maxLen /\ base <= b /\ ∀ j x, xs[j]? = some x -> w.cell? ⟨b, j, none⟩ = some (.string x) := by
  have h' := h
  obtain ⟨_, ⟨rfl, hn⟩ | ⟨g, cap, cur, rfl, hg, _, hnc, hcm, _, _⟩⟩ := h
  · omega
  · refine ⟨g, cap, rfl, by omega, by omega, hg, fun j x hx => ?_⟩
    obtain ⟨h1, rfl⟩ := List.getElem?_eq_some_iff.1 hx
    rw [h'.cellAt j (by omega)]
    simp [h1]
theorem cell_keepB {w w' : World} {B b o : Nat} {v : Value} (hb : Below B w w') (h : b < B) (hc : w.cell? ⟨b, o, none⟩ = some v) : w'.cell? ⟨b, o, none⟩ = some v := by
  rw [hb.cell (p := ⟨b, o, none⟩) h]; exact hc
theorem text_but {w w' : World} {X b n c : Nat} {xs : List ByteArray} (h : Texts 0 w xs (.slice (some ⟨b, 0, none⟩) n c)) (hb : But X w w') (hx : b ≠ X) : Texts 0 w' xs (.slice (some ⟨b, 0, none⟩) n c) := by
  obtain ⟨a, cap, he, h1, h2, hc⟩ := h
  cases he
  refine ⟨_, _, rfl, h1, h2, fun hp => ?_⟩
  obtain ⟨b', o, e, hl, hcell⟩ := hc hp
  cases e
  exact ⟨_, _, rfl, hl, fun j hj => hb.cell hx (hcell j hj)⟩
structure NR (w w' : World) : Prop where
  below : Below w.heap.size w w'
  size : w.heap.size + 2 <= w'.heap.size
  r0 : w'.cell? ⟨w.heap.size, 0, none⟩ = some (.map none)
  r1 : w'.cell? ⟨w.heap.size, 1, none⟩ = some (.map none)
  r2 : w'.cell? ⟨w.heap.size, 2, none⟩ = some (.map none)
  rf : ∀ o, w'.frozen? ⟨w.heap.size, o, none⟩ = false
theorem NR.but {w a b : World} (h : NR w a) {X : Nat} (hb : But X a b) (hx : w.heap.size < X) : NR w b :=
  ⟨h.below.trans (hb.below (by omega) h.below.size), Nat.le_trans h.size hb.size, hb.cell (by omega) h.r0, hb.cell (by omega) h.r1, hb.cell (by omega) h.r2, fun o => by
    rw [hb.frozen (by omega) (by have := h.size; omega)]
    exact h.rf o⟩
theorem NR.step {w a b : World} (h : NR w a) (hb : Below a.heap.size a b) : NR w b :=
  ⟨h.below.trans (hb.mono h.below.size), Nat.le_trans h.size hb.size, cell_keep hb h.r0, cell_keep hb h.r1, cell_keep hb h.r2, fun o => by
    rw [(zau (X := w.heap.size + 1) hb).frozen (by omega) (by have := h.size; omega)]
    exact h.rf o⟩
theorem NR.base {w a b : World} (h : NR w a) {B : Nat} (hb : Below B a b) (hB : w.heap.size + 2 <= B) (hs : B <= a.heap.size) : NR w b :=
  ⟨h.below.trans (hb.mono (by omega)), by have := hb.size; omega, cell_keepB hb (by show w.heap.size < B; omega) h.r0, cell_keepB hb (by show w.heap.size < B; omega) h.r1, cell_keepB hb (by show w.heap.size < B; omega) h.r2, fun o => by
    have e := hb.block w.heap.size (by omega)
    have := h.rf o
    unfold World.frozen? at this ⊢
    simp only at this ⊢
    rw [e]
    exact this⟩
theorem fmap_start {w : World} {F : Nat} {V : Value} (h : Mp Value.string w F (fun k => if k = nZero then some V else if k = nMnu then some V else if k = nError then some V else if k = nException then some V else if k = nObject then some (.slice none 0 0) else none)) (hV : Texts 0 w [tText] V) (hF : Formed V 1) : FMap w F (φof []) := by
  refine ⟨_, h, fun k hk => ?_, fun k xs hk => ?_⟩
  · rw [φ_start] at hk
    by_cases h1 : k = nObject
    · rw [if_pos h1] at hk; cases hk
    · rw [if_neg h1] at hk
      by_cases h2 : k = nException \/ k = nError \/ k = nMnu \/ k = nZero
      · rw [if_pos h2] at hk; cases hk
      · show (if k = nZero then some V else if k = nMnu then some V else if k = nError then some V else if k = nException then some V else if k = nObject then some (.slice none 0 0) else none) = none
        rw [if_neg (fun e => h2 (.inr (.inr (.inr e)))), if_neg (fun e => h2 (.inr (.inr (.inl e)))), if_neg (fun e => h2 (.inr (.inl e))), if_neg (fun e => h2 (.inl e)), if_neg h1]
  · rw [φ_start] at hk
    show ∃ v, (if k = nZero then some V else if k = nMnu then some V else if k = nError then some V else if k = nException then some V else if k = nObject then some (.slice none 0 0) else none) = some v /\ _
    by_cases h1 : k = nObject
    · rw [if_pos h1] at hk
      cases hk
      subst h1
      rw [if_neg (by decide), if_neg (by decide), if_neg (by decide), if_neg (by decide), if_pos rfl]
      exact ⟨_, rfl, ⟨none, 0, rfl, by unfold maxLen; simp, (by simp), fun hp => absurd hp (by simp)⟩, .inl ⟨rfl, rfl⟩⟩
    · rw [if_neg h1] at hk
      by_cases h2 : k = nException \/ k = nError \/ k = nMnu \/ k = nZero
      · rw [if_pos h2] at hk
        cases hk
        refine ⟨V, ?_, hV, hF⟩
        by_cases a1 : k = nZero
        · rw [if_pos a1]
        · rw [if_neg a1]
          by_cases a2 : k = nMnu
          · rw [if_pos a2]
          · rw [if_neg a2]
            by_cases a3 : k = nError
            · rw [if_pos a3]
            · rw [if_neg a3, if_pos (h2.resolve_right (fun e => e.elim a3 (fun e => e.elim a2 a1)))]
      · rw [if_neg h2] at hk; cases hk
set_option maxRecDepth 100000 in
set_option maxHeartbeats 16000000 in
theorem newChecker_any (cs : List C) (w : World) (U : Nat) (ca : Option Addr) (cc : Nat) (hu : w.cell? ⟨U, 0, none⟩ = some (.slice ca cs.length cc)) (hcc : cs.length <= cc /\ cc <= maxLen) (hcs : ∀ k c, cs[k]? = some c -> ∃ b o, ca = some ⟨b, o, none⟩ /\ w.cell? ⟨b, o + k * 4, none⟩ = some (.string c.name)) :
    Calls Tryz.prog 56 #[.pointer (some ⟨U, 0, none⟩)] w (NewAns cs w) := by
  obtain ⟨hc1, hc2⟩ := hcc
  unfold maxLen at hc2
  have hA : Hid (∀ r w', NewAns cs w r w' = ∃ G T F, r = .returned (.agg #[.map (some G), .map (some T), .map (some F)]) /\ w.heap.size <= G /\ w.heap.size <= T /\ w.heap.size <= F /\ G ≠ T /\ G ≠ F /\ T ≠ F /\ Mp Value.string w' G (mapOf (glob cs)) /\ Mp Value.string w' T (mapOf (glob [])) /\ FMap w' F (φof []) /\ Below w.heap.size w w') := zH (fun _ _ => rfl)
  have HU := zH hu
  have HCS := zH hcs
  clear hu hcs
  have hmm := @run_makeMap Tryz.prog
  obtain ⟨W0, hW0⟩ : ∃ W0, W0 = w.alloc (.cells #[.map none, .map none, .map none] 105) := ⟨_, rfl⟩
  have hb0 : Below w.heap.size w W0 := by rw [hW0]; exact (zB _ _).alloc (zL _) _
  have hs0 : W0.heap.size = w.heap.size + 1 := by rw [hW0]; simp
  have r0 : W0.cell? ⟨w.heap.size, 0, none⟩ = some (.map none) := by rw [hW0]; go_simp
  have r1 : W0.cell? ⟨w.heap.size, 1, none⟩ = some (.map none) := by rw [hW0]; go_simp
  have r2 : W0.cell? ⟨w.heap.size, 2, none⟩ = some (.map none) := by rw [hW0]; go_simp
  have rf : ∀ o, W0.frozen? ⟨w.heap.size, o, none⟩ = false := fun o => by rw [hW0]; go_simp
  have HM0 : Hid (Mp Value.string (W0.alloc (.map #[] 0)) (w.heap.size + 1) (fun _ => none)) := zH (hs0 ▸ mp_new W0)
  have HN0 : Hid (NR w (W0.alloc (.map #[] 0))) := zH ⟨hb0.alloc (by rw [hs0]; omega) _, by simp [hs0], by go_simp, by go_simp, by go_simp, fun o => by have := rf o; go_simp⟩
  have HW0 := zH hW0
  rw [hW0] at HM0 HN0
  clear hW0 r0 r1 r2 rf hb0 hs0
  have HG0 : Hid (∀ k, mapOf (g0 0) k = if k = tSuper then some (.int .i64 1) else none) := zH (fun k => mapOf_one (g0 0) tSuper (fun m hm => by rw [g0_start, if_neg hm]) 1 (by rw [g0_start, if_pos rfl]) (by omega) k)
  go_enter Tryz.func56, Tryz.ntmps56
  go_wp2_with (refine wp_store2 rfl _ _ _ _ (.inr rfl) _ _ (lawU _) HM0.out tSuper (.int .i64 1) rfl rfl rfl ?_)
  intro w1 hm1 hb1
  have HM1 : Hid (Mp Value.string w1 (w.heap.size + 1) (mapOf (g0 0))) := zH (hm1.cast (fun k => HG0.out k))
  have HN1 : Hid (NR w w1) := zH (HN0.out.but hb1 (by omega))
  clear HM0 HN0 HG0 hm1 hb1 W0 HW0
  go_wp2_with fail
  refine (Builtin.impl_any w1).mono ?_
  rintro e w2 ⟨v2, rfl, ho2, hb2⟩
  have HM2 := zH (HM1.out.step hb2)
  have HN2 := zH (HN1.out.step hb2)
  have HO2 := zH ho2
  have HLT : Hid (Texts 0 (w2.alloc (.cells #[.string ⟨#[115, 101, 108, 102]⟩, .string ⟨#[110, 105, 108]⟩, .string ⟨#[116, 114, 117, 101]⟩, .string ⟨#[102, 97, 108, 115, 101]⟩] 9)) four (.slice (some ⟨w2.heap.size, 0, none⟩) 4 4)) := zH (texts_own0 (xs := four) (World.ownsRow_lit (base := w2.heap.size) (e := 9) (size := 1) w2 #[.string ⟨#[115, 101, 108, 102]⟩, .string ⟨#[110, 105, 108]⟩, .string ⟨#[116, 114, 117, 101]⟩, .string ⟨#[102, 97, 108, 115, 101]⟩] 4 (zL _) (by unfold maxLen; omega) rfl) (by decide))
  have HBL : Hid (Below w2.heap.size w2 (w2.alloc (.cells #[.string ⟨#[115, 101, 108, 102]⟩, .string ⟨#[110, 105, 108]⟩, .string ⟨#[116, 114, 117, 101]⟩, .string ⟨#[102, 97, 108, 115, 101]⟩] 9))) := zH ((zB _ _).alloc (zL _) _)
  have HM2a := zH (HM2.out.step HBL.out)
  have HN2a := zH (HN2.out.step HBL.out)
  have HO2a := zH (own_keep HO2.out HBL.out)
  have HSZ : Hid (w.heap.size + 2 <= w1.heap.size /\ w1.heap.size <= w2.heap.size) := zH ⟨HN1.out.size, hb2.size⟩
  clear HM1 HN1 ho2 hb2 HM2 HN2 HO2
  go_wp2_with (at_builtin; go_must (refine zan rfl _ _ rfl w1.heap.size _ Builtin.names rfl HO2a.out (.slice (some ⟨w2.heap.size, 0, none⟩) 4 4) four 0 rfl HLT.out (.inr ⟨_, _, _, rfl⟩) (by decide) (Nat.le_trans HSZ.out.2 HBL.out.size) ?_))
  intro v3 w3 ho3 hb3
  obtain ⟨rb, rc, rfl, hrc1, hrc2, hrb, hrow⟩ := texts_row (xs := known) ho3 (by decide)
  have HM3 : Hid (Mp Value.string w3 (w.heap.size + 1) (mapOf (g0 0))) := zH (HM2a.out.kept (hb3.block _ (by have := HSZ.out; omega)))
  have HN3 := zH (HN2a.out.base hb3 HSZ.out.1 (Nat.le_trans HSZ.out.2 HBL.out.size))
  have HROW : Hid (∀ j x, known[j]? = some x -> w3.cell? ⟨rb, j, none⟩ = some (.string x)) := zH hrow
  have HRB : Hid (w.heap.size + 2 <= rb) := zH (by have := HSZ.out; omega)
  have hN : known.length = 20 := rfl
  have HN : Hid (known.length = 20) := zH hN
  rw [hN] at hrc1 ⊢
  unfold maxLen at hrc2
  clear ho3 hb3 hrow HM2a HN2a HO2a HLT HBL hN HSZ
  go_wp2_with fail
  go_loopw [16] (fun j wr => ∃ q : Nat, q <= 20 /\ j = .int .i64 q /\ NR w wr /\ Mp Value.string wr (w.heap.size + 1) (mapOf (g0 q)) /\ But (w.heap.size + 1) w3 wr) (fun j _ => 20 - (intOf j).toNat)
  case atStart => exact ⟨0, Nat.zero_le _, rfl, HN3.out, HM3.out, But.refl _ _⟩
  case round =>
    obtain ⟨q, hq, rfl, hn, hm, hb⟩ := hrel
    have HNr := zH hn
    have HMr := zH hm
    have HBr := zH hb
    clear hn hm hb
    by_cases hlt : q < 20
    case pos =>
      obtain ⟨n, hn⟩ : ∃ n, known[q]? = some n := ⟨_, List.getElem?_eq_getElem (by rw [HN.out]; exact hlt)⟩
      have hcn := HBr.out.cell (by have := HRB.out; omega) (HROW.out q n hn)
      have HG := zH (g0_next hn)
      clear hn
      go_wp2_with (at_mapUpdate; refine wp_store2 rfl _ _ _ _ (.inl rfl) _ _ (lawU wr) HMr.out n (.int .i64 2) rfl rfl rfl ?_)
      intro w5 hm5 hb5
      have HM5 : Hid (Mp Value.string w5 (w.heap.size + 1) (mapOf (g0 (q + 1)))) := zH (by
        rw [HG.out]
        exact hm5.cast (fun k => mapOf_put _ n 2 (by omega) k))
      have HN5 := zH (HNr.out.but hb5 (by omega))
      have HB5 := zH (HBr.out.trans hb5)
      clear hm5 hb5 hcn
      go_wp2_with fail
      go_roundw
      case rel => exact ⟨q + 1, by omega, by go_num, HN5.out, HM5.out, HB5.out⟩
      case measure => simp [intOf]; omega
    have he : q = 20 := by omega
    have HM6 : Hid (Mp Value.string wr (w.heap.size + 1) (mapOf (glob []))) := zH (by rw [<- g0_end]; exact he ▸ HMr.out)
    clear HMr HN3 HM3 HBr HROW HRB
    go_wp2_with fail
    obtain ⟨es, clock, l, hbk, hm2, hm3, hm4⟩ := HM6.out
    refine (clone_any (w.heap.size + 1) es clock wr hbk).mono ?_
    rintro e w4 ⟨rfl, hw4⟩
    have hb4 : Below wr.heap.size wr w4 := by rw [hw4]; exact (zB _ _).alloc (zL _) _
    have HT4 : Hid (Mp Value.string w4 wr.heap.size (mapOf (glob []))) := zH ⟨es, clock, l, by rw [hw4]; exact (MapKept.heap_alloc wr _).1, hm2, hm3, hm4⟩
    have HM4 := zH (HM6.out.step hb4)
    have HN4 := zH (HNr.out.step hb4)
    have HTS : Hid (w.heap.size + 2 <= wr.heap.size) := zH HNr.out.size
    have hu := cell_keep HN4.out.below HU.out
    clear hbk hm2 hm3 hm4 hw4 hb4 HM6 HNr he hlt hq hrc1 hrc2
    generalize wr.heap.size = TB at HT4 HTS ⊢
    go_wp2_with fail
    go_loopw [30] (fun j wx => ∃ p : Nat, p <= cs.length /\ j = .int .i64 p /\ NR w wx /\ Mp Value.string wx (w.heap.size + 1) (mapOf (glob (cs.take p))) /\ Mp Value.string wx TB (mapOf (glob []))) (fun j _ => cs.length - (intOf j).toNat)
    case atStart => exact ⟨0, Nat.zero_le _, rfl, HN4.out, HM4.out, HT4.out⟩
    case round =>
      obtain ⟨p, hp, rfl, hn, hm, ht⟩ := hrel
      have HNx := zH hn
      have HMx := zH hm
      have HTx := zH ht
      have hux := cell_keep hn.below HU.out
      clear hn hm ht HN4 HM4 HT4 hu
      by_cases hlt : p < cs.length
      case pos =>
        obtain ⟨c, hc⟩ : ∃ c, cs[p]? = some c := ⟨_, List.getElem?_eq_getElem hlt⟩
        obtain ⟨cb, co, rfl, hcn⟩ := HCS.out p c hc
        have hcx := cell_keep HNx.out.below hcn
        have HTK : Hid (cs.take (p + 1) = cs.take p ++ [c]) := zH (by
          obtain ⟨h1, h2⟩ := List.getElem?_eq_some_iff.1 hc
          rw [List.take_succ_eq_append_getElem h1, h2])
        clear hc hcn
        go_wp2_with (at_mapUpdate; refine wp_store2 rfl _ _ _ _ (.inl rfl) _ _ (lawU wr) HMx.out c.name (.int .i64 2) rfl rfl rfl ?_)
        intro w5 hm5 hb5
        have HM5 : Hid (Mp Value.string w5 (w.heap.size + 1) (mapOf (glob (cs.take (p + 1))))) := zH (by
          rw [HTK.out, glob_put]
          exact hm5.cast (fun k => mapOf_put _ c.name 2 (by omega) k))
        have HN5 := zH (HNx.out.but hb5 (by omega))
        have HT5 := zH (HTx.out.but hb5 (by have := HTS.out; omega))
        clear hm5 hb5 hcx hux
        go_wp2_with fail
        go_roundw
        case rel => exact ⟨p + 1, by omega, by go_num, HN5.out, HM5.out, HT5.out⟩
        case measure => simp [intOf]; omega
      have HM7 : Hid (Mp Value.string wr (w.heap.size + 1) (mapOf (glob cs))) := zH (by have := HMx.out; rwa [List.take_of_length_le (by omega)] at this)
      clear HMx hux
      obtain ⟨W, hW⟩ : ∃ W, W = wr.alloc (.cells #[.string ⟨#[116, 101, 120, 116]⟩] 9) := ⟨_, rfl⟩
      have hbW : Below wr.heap.size wr W := by rw [hW]; exact (zB _ _).alloc (zL _) _
      have hsW : W.heap.size = wr.heap.size + 1 := by rw [hW]; simp
      have hbF : Below W.heap.size W (W.alloc (.map #[] 0)) := (zB _ _).alloc (zL _) _
      have HF8 : Hid (Mp Value.string (W.alloc (.map #[] 0)) (wr.heap.size + 1) (fun _ => none)) := zH (hsW ▸ mp_new W)
      have HX8 : Hid (Texts 0 (W.alloc (.map #[] 0)) [tText] (.slice (some ⟨wr.heap.size, 0, none⟩) 1 1)) := zH ((by rw [hW]; exact one_texts wr tText (by decide) : Texts 0 W [tText] (.slice (some ⟨wr.heap.size, 0, none⟩) 1 1)).below hbF)
      have HN8 := zH ((HNx.out.step hbW).step hbF)
      have HM8 := zH ((HM7.out.step hbW).step hbF)
      have HT8 := zH ((HTx.out.step hbW).step hbF)
      have HS8 : Hid (w.heap.size + 2 <= wr.heap.size /\ TB < wr.heap.size) := zH ⟨HNx.out.size, HTx.out.lt⟩
      rw [hW] at HF8 HX8 HN8 HM8 HT8
      clear hW hbW hsW hbF HNx HM7 HTx W
      go_wp2_with (refine wp_store2 rfl _ _ _ _ (.inr rfl) _ _ (lawF _) HF8.out nObject (.slice none 0 0) rfl rfl rfl ?_)
      intro w9 hm9 hb9
      have HF9 := zH hm9
      have HN9 := zH (HN8.out.but hb9 (by have := HS8.out; omega))
      have HM9 := zH (HM8.out.but hb9 (by have := HS8.out; omega))
      have HT9 := zH (HT8.out.but hb9 (by have := HS8.out; omega))
      have HX9 := zH (HX8.out.keep (zL _) (hb9.keptF (fun o v => HF8.out.za2 o v) 0).1)
      clear hm9 hb9 HF8 HN8 HM8 HT8 HX8
      go_wp2_with (refine wp_store2 rfl _ _ _ _ (.inr rfl) _ _ (lawF _) HF9.out nException (.slice (some ⟨wr.heap.size, 0, none⟩) 1 1) rfl rfl rfl ?_)
      intro w10 hm10 hb10
      have HF10 := zH hm10
      have HN10 := zH (HN9.out.but hb10 (by have := HS8.out; omega))
      have HM10 := zH (HM9.out.but hb10 (by have := HS8.out; omega))
      have HT10 := zH (HT9.out.but hb10 (by have := HS8.out; omega))
      have HX10 := zH (HX9.out.keep (zL _) (hb10.keptF (fun o v => HF9.out.za2 o v) 0).1)
      clear hm10 hb10 HF9 HN9 HM9 HT9 HX9
      go_wp2_with (refine wp_store2 rfl _ _ _ _ (.inr rfl) _ _ (lawF _) HF10.out nError (.slice (some ⟨wr.heap.size, 0, none⟩) 1 1) rfl rfl rfl ?_)
      intro w11 hm11 hb11
      have HF11 := zH hm11
      have HN11 := zH (HN10.out.but hb11 (by have := HS8.out; omega))
      have HM11 := zH (HM10.out.but hb11 (by have := HS8.out; omega))
      have HT11 := zH (HT10.out.but hb11 (by have := HS8.out; omega))
      have HX11 := zH (HX10.out.keep (zL _) (hb11.keptF (fun o v => HF10.out.za2 o v) 0).1)
      clear hm11 hb11 HF10 HN10 HM10 HT10 HX10
      go_wp2_with (refine wp_store2 rfl _ _ _ _ (.inr rfl) _ _ (lawF _) HF11.out nMnu (.slice (some ⟨wr.heap.size, 0, none⟩) 1 1) rfl rfl rfl ?_)
      intro w12 hm12 hb12
      have HF12 := zH hm12
      have HN12 := zH (HN11.out.but hb12 (by have := HS8.out; omega))
      have HM12 := zH (HM11.out.but hb12 (by have := HS8.out; omega))
      have HT12 := zH (HT11.out.but hb12 (by have := HS8.out; omega))
      have HX12 := zH (HX11.out.keep (zL _) (hb12.keptF (fun o v => HF11.out.za2 o v) 0).1)
      clear hm12 hb12 HF11 HN11 HM11 HT11 HX11
      go_wp2_with (refine wp_store2 rfl _ _ _ _ (.inr rfl) _ _ (lawF _) HF12.out nZero (.slice (some ⟨wr.heap.size, 0, none⟩) 1 1) rfl rfl rfl ?_)
      intro w13 hm13 hb13
      have HF13 := zH hm13
      have HN13 := zH (HN12.out.but hb13 (by have := HS8.out; omega))
      have HM13 := zH (HM12.out.but hb13 (by have := HS8.out; omega))
      have HT13 := zH (HT12.out.but hb13 (by have := HS8.out; omega))
      have HX13 := zH (HX12.out.keep (zL _) (hb13.keptF (fun o v => HF12.out.za2 o v) 0).1)
      clear hm13 hb13 HF12 HN12 HM12 HT12 HX12
      have HBF : Hid (But w.heap.size w13 (((w13.setCell ⟨w.heap.size, 0, none⟩ (.map (some (w.heap.size + 1)))).setCell ⟨w.heap.size, 1, none⟩ (.map (some TB))).setCell ⟨w.heap.size, 2, none⟩ (.map (some (wr.heap.size + 1))))) := zH (((but_set _ _ _ _).trans (but_set _ _ _ _)).trans (but_set _ _ _ _))
      have HFM := zH (fmap_start (HF13.out.but HBF.out (by have := HS8.out; omega)) (text_but HX13.out HBF.out (by have := HS8.out; omega)) (.inr ⟨_, _, _, rfl⟩))
      have HMM := zH (HM13.out.but HBF.out (by omega))
      have HTT := zH (HT13.out.but HBF.out (by have := HTS.out; omega))
      have HBB := zH (HN13.out.below.trans (HBF.out.below (zL _) HN13.out.below.size))
      have k0 := HN13.out.r0
      have k1 := HN13.out.r1
      have k2 := HN13.out.r2
      have kf := HN13.out.rf
      clear HF13 HX13 HM13 HT13 HN13 HBF
      go_wp2_with fail
      refine bodyPost_ret (v := .agg #[.map (some (w.heap.size + 1)), .map (some TB), .map (some (wr.heap.size + 1))]) (by simp [results, Tryz.results56, go_sem, *]) rfl ?_
      rw [hA.out]
      have h8 := HS8.out
      have h9 := HTS.out
      exact ⟨w.heap.size + 1, TB, wr.heap.size + 1, rfl, by omega, by omega, by omega, by omega, by omega, by omega, HMM.out, HTT.out, HFM.out, HBB.out⟩
end ImplScope
end Go.Proofs.YtnlgdkfenipmfaaGreatDoor
