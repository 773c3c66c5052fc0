/-
  ImplEqual
-/
import Derived.Test.YtbigfeblomfflaaGreatDoorB18
import Derived.Deep.LoopGhost
namespace Go.Proofs.YtbigfeblomfflaaGreatDoor
namespace ImplEqual
open Go.RowKit
open Strs Tree PMap Soft PairMap Pairs Dfs TreeTo ImplLike
open ImplMeas (N0 nd_tree kids0)
def row : List (Addr × Addr) -> List Value
  | [] => []
  | (a, b) :: q => row q ++ [.pointer (some a), .pointer (some b)]
theorem row_len : ∀ q, (row q).length = q.length * 2
  | [] => rfl
  | (a, b) :: q => by simp [row, row_len q]; omega
theorem row_a (a b : Addr) (q : List (Addr × Addr)) : (row ((a, b) :: q))[q.length * 2]? = some (.pointer (some a)) := by
  simp only [row]
  rw [List.getElem?_append_right (by rw [row_len]; omega), row_len]; simp
theorem row_b (a b : Addr) (q : List (Addr × Addr)) : (row ((a, b) :: q))[q.length * 2 + 1]? = some (.pointer (some b)) := by
  simp only [row]
  rw [List.getElem?_append_right (by rw [row_len]; omega), row_len]; simp
structure Mem (W : World) (B : Nat) (q : List (Addr × Addr)) (M : Addr × Addr -> Option Value) (v : Value) (wr : World) : Prop where
  own : wr.ownsRow W.heap.size 91 2 v q.length (row q)
  map : Is encC (Fine2 W) wr B M
  vals : ∀ c u, M c = some u -> u = .bool true
  below : Below W.heap.size W wr
  low : W.heap.size <= B
theorem Mem.apart {W wr : World} {B : Nat} {q : List (Addr × Addr)} {M : Addr × Addr -> Option Value} {v : Value} (h : Mem W B q M v wr) : v.ownBlock ≠ some B := by
  intro e
  obtain ⟨es, cl, _, hb, _⟩ := h.map
  rcases h.own.2 with ⟨h1, _⟩ | ⟨g, cap, cur, h1, _, hg, _⟩
  · rw [h1] at e; cases e
  · rw [h1] at e
    simp [Value.ownBlock] at e
    subst e
    rw [hb] at hg
    cases hg
theorem Mem.step {W wr w' : World} {B : Nat} {q : List (Addr × Addr)} {M : Addr × Addr -> Option Value} {v : Value} (h : Mem W B q M v wr) (hb : Below wr.heap.size wr w') : Mem W B q M v w' :=
  ⟨own_keep h.own hb, h.map.step hb, h.vals, h.below.trans (hb.mono h.below.size), h.low⟩
theorem Mem.pop {W wr : World} {B : Nat} {a b : Addr} {q : List (Addr × Addr)} {M : Addr × Addr -> Option Value} {g cap : Nat} (h : Mem W B ((a, b) :: q) M (.slice (some ⟨g, 0, none⟩) (q.length + 1) cap) wr) : Mem W B q M (.slice (some ⟨g, 0, none⟩) q.length cap) wr :=
  { h with own := ownsRow_pop (last := [.pointer (some a), .pointer (some b)]) (row_len q) h.own }
structure St (W : World) (B : Nat) (r : Addr × Addr) (S k : Nat) (q : List (Addr × Addr)) (M : Addr × Addr -> Option Value) (v : Value) (wr : World) : Prop where
  mem : Mem W B q M v wr
  inv : Pairs.Inv (N0 W) (treeAt W) (kid W) r (fun c => M c ≠ none) q (fun _ => False)
  mu : mu2 (treeAt W) q <= k
  top : mu2 (treeAt W) q <= S
structure In (W : World) (B : Nat) (r : Addr × Addr) (S k : Nat) (a b : Addr) (t i : Nat) (q : List (Addr × Addr)) (M : Addr × Addr -> Option Value) (v : Value) (wr : World) : Prop where
  mem : Mem W B q M v wr
  inv : Pairs.Inv (N0 W) (treeAt W) (kid W) r (fun c => M c ≠ none) q (fun x => x = (a, b))
  seen : ∀ j, j < i -> M (kid2 (kid W) (a, b) j) ≠ none
  mu : mu2 (treeAt W) q + sizes ((treeAt W a).kids.drop i) + 1 <= k
  top : mu2 (treeAt W) q + sizes ((treeAt W a).kids.drop i) + 1 <= S
  c0 : wr.cell? ⟨t, 0, none⟩ = some (.pointer (some a))
  c1 : wr.cell? ⟨t, 1, none⟩ = some (.pointer (some b))
  lt : t < wr.heap.size
  ne : v.ownBlock ≠ some t
  hB : B < t
theorem In.step {W wr w' : World} {B : Nat} {r : Addr × Addr} {S k : Nat} {a b : Addr} {t i : Nat} {q : List (Addr × Addr)} {M : Addr × Addr -> Option Value} {v : Value} (h : In W B r S k a b t i q M v wr) (hb : Below wr.heap.size wr w') : In W B r S k a b t i q M v w' :=
  ⟨h.mem.step hb, h.inv, h.seen, h.mu, h.top, cell_keep hb h.c0, cell_keep hb h.c1, Nat.lt_of_lt_of_le h.lt hb.size, h.ne, h.hB⟩
theorem In.met {W wr w' : World} {B : Nat} {r : Addr × Addr} {S k : Nat} {a b : Addr} {t i : Nat} {q : List (Addr × Addr)} {M : Addr × Addr -> Option Value} {v : Value} (h : In W B r S k a b t i q M v wr) (hg : wr.grownBy w' (some B)) :
    w'.ownsRow W.heap.size 91 2 v q.length (row q) /\ Below W.heap.size W w' /\ w'.cell? ⟨t, 0, none⟩ = some (.pointer (some a)) /\ w'.cell? ⟨t, 1, none⟩ = some (.pointer (some b)) /\ t < w'.heap.size := by
  have hB := h.hB
  exact ⟨h.mem.own.kept hg (.inr h.mem.apart), h.mem.below.grown hg h.mem.below.size (fun k hk => by cases hk; exact h.mem.low), hg.cell h.c0 (by simp; omega), hg.cell h.c1 (by simp; omega), Nat.lt_of_lt_of_le h.lt hg.size⟩
theorem two_ptr (a b : Addr) : ∀ u : Value, u ∈ [Value.pointer (some a), .pointer (some b)] -> u.oneCell' = true := by
  intro u hu; simp at hu; rcases hu with rfl | rfl <;> rfl
theorem infoC : (Tryz.prog.info? 91).map (fun i => (i.zero, i.size, i.bytes)) = some (some (.agg #[.pointer none, .pointer none]), 2, 16) := by kernel_rfl
set_option maxRecDepth 10000 in
set_option maxHeartbeats 1000000 in
theorem equal_any {e f : E} {lo1 lo2 : Nat} {w : World} {v1 v2 : Value} (h1 : Reads lo1 w e v1) (h2 : Reads lo2 w f v2) (s1 : SoftV lo1 w e v1) (s2 : SoftV lo2 w f v2) (hz : size e <= 1048577) :
    Calls Tryz.prog 14 #[v1, v2] w fun r w' => r = .returned (.bool (eqE e f)) /\ Below w.heap.size w w' := by
  obtain ⟨xn, xk, rfl, hx⟩ := h1
  obtain ⟨yn, yk, rfl, hy⟩ := h2
  obtain ⟨_, _, _, _, _, he, hxs⟩ := s1
  cases he
  obtain ⟨_, _, _, _, _, he, hys⟩ := s2
  cases he
  obtain ⟨i0, hi, hz0, hz1, hz2⟩ := info_parts infoC
  have hA : Below w.heap.size w (w.alloc (.cells #[.int .i64 e.kind, .string e.text, .int .i64 e.num, xn, xk] 27)) := (zB _ _).alloc (zL _) _
  have hB : Below (w.alloc (.cells #[.int .i64 e.kind, .string e.text, .int .i64 e.num, xn, xk] 27)).heap.size (w.alloc (.cells #[.int .i64 e.kind, .string e.text, .int .i64 e.num, xn, xk] 27)) ((w.alloc (.cells #[.int .i64 e.kind, .string e.text, .int .i64 e.num, xn, xk] 27)).alloc (.cells #[.int .i64 f.kind, .string f.text, .int .i64 f.num, yn, yk] 27)) := (zB _ _).alloc (zL _) _
  have n1 : Nd ((w.alloc (.cells #[.int .i64 e.kind, .string e.text, .int .i64 e.num, xn, xk] 27)).alloc (.cells #[.int .i64 f.kind, .string f.text, .int .i64 f.num, yn, yk] 27)) ⟨w.heap.size, 0, none⟩ e := (node_box hx hxs _).keep hB
  have n2 : Nd ((w.alloc (.cells #[.int .i64 e.kind, .string e.text, .int .i64 e.num, xn, xk] 27)).alloc (.cells #[.int .i64 f.kind, .string f.text, .int .i64 f.num, yn, yk] 27)) ⟨w.heap.size + 1, 0, none⟩ f := by
    have := node_box (hy.below hA) (Soft.Soft.keep (zL _) (keptF_below hA) _ _ hys) 27
    simpa using this
  have hs0 : ((w.alloc (.cells #[.int .i64 e.kind, .string e.text, .int .i64 e.num, xn, xk] 27)).alloc (.cells #[.int .i64 f.kind, .string f.text, .int .i64 f.num, yn, yk] 27)).heap.size = w.heap.size + 1 + 1 := by simp
  have HAB := zH (hA.trans (hB.mono (by simp)))
  have HN1 := zH n1
  have HN2 := zH n2
  have HS0 := zH hs0
  have HZ := zH hz
  generalize hD : eqE e f = D
  have HD := zH hD
  have hmm := @run_makeMap Tryz.prog
  clear hD hz hs0 n1 n2 hA hB hx hy hxs hys
  go_enter Tryz.func14, Tryz.ntmps14
  go_wp2_with fail
  generalize ((w.alloc (.cells #[.int .i64 e.kind, .string e.text, .int .i64 e.num, xn, xk] 27)).alloc (.cells #[.int .i64 f.kind, .string f.text, .int .i64 f.num, yn, yk] 27)) = W at *
  have HST : Hid (St W (w.heap.size + 1 + 1 + 1) (⟨w.heap.size, 0, none⟩, ⟨w.heap.size + 1, 0, none⟩) (size e) (size e) [(⟨w.heap.size, 0, none⟩, ⟨w.heap.size + 1, 0, none⟩)] (fun _ => none) (.slice (some ⟨w.heap.size + 1 + 1, 0, none⟩) 1 1)
      ((W.alloc (.cells #[.pointer (some ⟨w.heap.size, 0, none⟩), .pointer (some ⟨w.heap.size + 1, 0, none⟩)] 91)).alloc (.map #[] 0))) := by
    have hs := HS0.out
    have hb1 : Below W.heap.size W (W.alloc (.cells #[.pointer (some ⟨w.heap.size, 0, none⟩), .pointer (some ⟨w.heap.size + 1, 0, none⟩)] 91)) := (zB _ _).alloc (zL _) _
    refine ⟨⟨?_, ?_, (fun c u h => by cases h), hb1.alloc hb1.size _, by omega⟩, Pairs.inv_start ⟨⟨e, HN1.out⟩, ⟨f, HN2.out⟩⟩ (fun c h => h rfl), ?_, ?_⟩
    · have := (World.ownsRow_lit (base := W.heap.size) (e := 91) (size := 2) W #[.pointer (some ⟨w.heap.size, 0, none⟩), .pointer (some ⟨w.heap.size + 1, 0, none⟩)] 1 (zL _) (by unfold maxLen; omega) rfl).alloc (.map #[] 0)
      rw [hs] at this
      rw [hs]
      exact this
    · have := is_new (enc := encC) (dom := Fine2 W) (W.alloc (.cells #[.pointer (some ⟨w.heap.size, 0, none⟩), .pointer (some ⟨w.heap.size + 1, 0, none⟩)] 91))
      simpa [hs] using this
    · simp only [mu2, HN1.out.tree]; exact zL _
    · simp only [mu2, HN1.out.tree]; exact zL _
  have HNN : Hid (N0 W ⟨w.heap.size, 0, none⟩ /\ N0 W ⟨w.heap.size + 1, 0, none⟩) := ⟨⟨e, HN1.out⟩, ⟨f, HN2.out⟩⟩
  have HSZ : Hid (size e = size e) := rfl
  generalize hS : size e = S at HST HZ
  have HSS := zH hS; clear hS HSZ
  go_loopg [5] S (fun k v wr => ∃ q M, St W (w.heap.size + 1 + 1 + 1) (⟨w.heap.size, 0, none⟩, ⟨w.heap.size + 1, 0, none⟩) S k q M v wr)
  case atStart => exact ⟨_, _, HST.out⟩
  case round =>
    clear HST
    obtain ⟨q, M, hst⟩ := hrel
    cases q with
    | nil =>
      have hr := Pairs.inv_end (kids0 W) HNN.out hst.inv
      have hef : e = f := by
        have : treeAt W ⟨w.heap.size, 0, none⟩ = treeAt W ⟨w.heap.size + 1, 0, none⟩ := hr
        rw [HN1.out.tree, HN2.out.tree] at this
        exact this
      have hD : D = true := by rw [<- HD.out]; exact eqE_yes hef
      subst hD
      obtain ⟨ra, rc, rfl⟩ := Kit.zax hst.mem.own
      have HBW := zH (HAB.out.trans (hst.mem.below.mono HAB.out.size))
      clear hef hr hst
      simp only [List.length_nil]
      go_wp2_with fail
      go_ret
      exact ⟨rfl, HBW.out⟩
    | cons c q =>
      obtain ⟨a, b⟩ := c
      obtain ⟨hNa, hNb⟩ := hst.inv.nodes (a, b) (by simp)
      have NA := zH (nd_tree hNa)
      have NB := zH (nd_tree hNb)
      obtain ⟨g, cp, rfl, hcp⟩ : ∃ g cp, u5 = .slice (some ⟨g, 0, none⟩) (((a, b) :: q : List (Addr × Addr)).length) cp /\ q.length + 1 <= cp := by
        rcases hst.mem.own.2 with ⟨_, h2⟩ | ⟨g, cp, _, h, _, _, h2, _⟩
        · simp at h2
        · exact ⟨g, cp, h, h2⟩
      have ST := zH hst
      have hlen : q.length + 1 <= S := by have := mu2_len (T := treeAt W) ((a, b) :: q); have := hst.top; simp at *; omega
      have own := hst.mem.own
      have p0 : wr.cell? ⟨g, q.length * 2, none⟩ = some (.pointer (some a)) := (own.cellAt _ (by simp)).trans (row_a _ _ _)
      have p1 : wr.cell? ⟨g, q.length * 2 + 1, none⟩ = some (.pointer (some b)) := (own.cellAt _ (by simp; omega)).trans (row_b _ _ _)
      have sg : g < wr.heap.size := (own.lt g rfl).2
      have hz := HZ.out
      have hb1 : Below wr.heap.size wr (wr.alloc (.cells #[.pointer (some a), .pointer (some b)] 91)) := (zB _ _).alloc (zL _) _
      have KL := zH (like_any (hst.mem.below.alloc hst.mem.below.size (.cells #[.pointer (some a), .pointer (some b)] 91)) NA.out NB.out)
      simp only [List.length_cons] at *
      have M1 := zH (Mem.pop (hst.mem.step hb1))
      clear own hst hb1 hNa hNb
      generalize hm : q.length = m at *
      have HM := zH hm; clear hm
      by_cases hl : Like (treeAt W a) (treeAt W b)
      case neg =>
        have hD : D = false := by
          rw [<- HD.out]
          refine eqE_no fun hef => Pairs.inv_no ST.out.inv hl ?_
          show treeAt W _ = treeAt W _
          rw [HN1.out.tree, HN2.out.tree]; exact hef
        subst hD
        rw [likeB_no hl] at KL
        have HBW := zH (HAB.out.trans (ST.out.mem.below.mono HAB.out.size))
        clear hl
        go_wp2_with fail
        refine KL.out.mono ?_
        rintro r w1 ⟨rfl, hdr⟩
        have HB1 := zH ((HBW.out.alloc HBW.out.size (.cells #[.pointer (some a), .pointer (some b)] 91)).trans (hdr.below.mono (by have := HBW.out.size; simp; omega)))
        clear hdr
        go_wp2_with fail
        go_ret
        exact ⟨rfl, HB1.out⟩
      case pos =>
        rw [likeB_yes hl] at KL
        go_wp2_with fail
        refine KL.out.mono ?_
        rintro r w1 ⟨rfl, hdr⟩
        obtain ⟨wo, rfl⟩ : ∃ wo : World, wo = wr := ⟨_, rfl⟩
        have HL := zH hl
        have M2 := zH (M1.out.step hdr.below)
        have hw1 : wo.heap.size < w1.heap.size := by have := hdr.below.size; simp at this; omega
        have t0 : w1.cell? ⟨wo.heap.size, 0, none⟩ = some (.pointer (some a)) := cell_keep hdr.below (by go_simp)
        have t1 : w1.cell? ⟨wo.heap.size, 1, none⟩ = some (.pointer (some b)) := cell_keep hdr.below (by go_simp)
        have IN : Hid (In W (w.heap.size + 1 + 1 + 1) (⟨w.heap.size, 0, none⟩, ⟨w.heap.size + 1, 0, none⟩) S gk a b wo.heap.size 0 q M (.slice (some ⟨g, 0, none⟩) m cp) w1) := by
          have h1 := ST.out.mu
          have h2 := ST.out.top
          simp only [mu2] at h1 h2
          have h3 := size_mk (treeAt W a)
          exact ⟨M2.out, Pairs.inv_take ST.out.inv, fun j hj => by omega, by simp only [List.drop_zero]; omega, by simp only [List.drop_zero]; omega, t0, t1, hw1, by simp [Value.ownBlock]; omega, ST.out.mem.map.lt⟩
        obtain ⟨ba, oa, vna, xa, capa, rfl, -, -, -, -, d4, ha1, ha2, -, -, -, -, hka⟩ := NA.out.see
        obtain ⟨bb, ob, vnb, xb, capb, rfl, -, -, -, -, e4, hb1, hb2, -, -, -, -, hkb⟩ := NB.out.see
        rw [<- hl.2.2.2.2] at e4 hb1
        have HKA := zH hka
        have HKB : Hid (∀ i, i < (treeAt W ⟨ba, oa, none⟩).kids.length -> ∃ kb ko, xb = some ⟨kb, ko, none⟩ /\ kid W ⟨bb, ob, none⟩ i = ⟨kb, ko + i * 5, none⟩) := fun i hi => hkb i (by rw [<- hl.2.2.2.2]; exact hi)
        have d4' := cell_keep M2.out.below d4
        unfold maxLen at ha2 hb2
        clear hl hdr hka hkb p0 p1 M1
        have HN : Hid (∀ i, i < (treeAt W ⟨ba, oa, none⟩).kids.length -> i < (treeAt W ⟨ba, oa, none⟩).kids.length) := fun _ h => h
        generalize hnn : (treeAt W ⟨ba, oa, none⟩).kids.length = n at *
        have HNN2 := zH hnn; clear hnn HN
        go_wp2_with fail
        go_loopw [5, 39] (fun v j wq => ∃ (i : Nat) (q' : List (Addr × Addr)) (M' : Addr × Addr -> Option Value), i <= n /\ j = .int .i64 i /\ In W (w.heap.size + 1 + 1 + 1) (⟨w.heap.size, 0, none⟩, ⟨w.heap.size + 1, 0, none⟩) S gk ⟨ba, oa, none⟩ ⟨bb, ob, none⟩ wo.heap.size i q' M' v wq) (fun _ j _ => n - (intOf j).toNat)
        case atStart => exact ⟨0, q, M, by omega, rfl, IN.out⟩
        case round =>
          obtain ⟨i, q', M', hin, rfl, hIN⟩ := hrel
          have II := zH hIN
          clear t0 t1
          have t0 := hIN.c0
          have t1 := hIN.c1
          have tlt := hIN.lt
          have wA := cell_keep hIN.mem.below d4
          have wB := cell_keep hIN.mem.below e4
          have lA : ba < wr.heap.size := cell_lt (a := ⟨ba, oa + 4, none⟩) wA
          have lB : bb < wr.heap.size := cell_lt (a := ⟨bb, ob + 4, none⟩) wB
          obtain ⟨ra, rc, rfl⟩ := Kit.zax hIN.mem.own
          clear hIN
          by_cases hlt : i < n
          · obtain ⟨ka, kao, rfl, hke⟩ := HKA.out i hlt
            obtain ⟨kb, kbo, rfl, hkf⟩ := HKB.out i hlt
            have hif : i < (treeAt W ⟨ba, oa, none⟩).kids.length := by rw [HNN2.out]; exact hlt
            have hiv := Pairs.inv_meet (i := i) (kids0 W) II.out.inv ⟨⟨_, NA.out⟩, ⟨_, NB.out⟩⟩ HL.out hif (fun he => ST.out.inv.sound he _ (by simp))
            have hdr' := sizes_drop (treeAt W ⟨ba, oa, none⟩).kids i hif
            have FA : Hid (Fine2 W (⟨ka, kao + i * 5, none⟩, ⟨kb, kbo + i * 5, none⟩)) := by
              have f1 := (NA.out.kid_is hif).fine
              have f2 := (NB.out.kid_is (i := i) (by have := HL.out.2.2.2.2; omega)).fine
              rw [hke] at f1
              rw [hkf] at f2
              exact ⟨f1, f2⟩
            have hk2 : kid2 (kid W) ((⟨ba, oa, none⟩ : Addr), (⟨bb, ob, none⟩ : Addr)) i = (⟨ka, kao + i * 5, none⟩, ⟨kb, kbo + i * 5, none⟩) := by
              show (kid W _ i, kid W _ i) = _
              rw [hke, hkf]
            rw [<- hiv.2] at hdr'
            rw [hk2] at hiv hdr'
            have IV := zH hiv.1
            have HDS := zH hdr'
            have HK2 := zH hk2
            clear hiv hdr' hk2 hke hkf hif
            go_wp2_with fail
            go_region
            have hC : Below wr.heap.size wr (wr.alloc (.cells #[.pointer (some ⟨ka, kao + i * 5, none⟩), .pointer (some ⟨kb, kbo + i * 5, none⟩)] 91)).drew := ((zB _ _).alloc (zL _) _).drew
            have x0 : (wr.alloc (.cells #[.pointer (some ⟨ka, kao + i * 5, none⟩), .pointer (some ⟨kb, kbo + i * 5, none⟩)] 91)).drew.cell? ⟨wr.heap.size, 0, none⟩ = some (.pointer (some ⟨ka, kao + i * 5, none⟩)) := by go_simp
            have x1 : (wr.alloc (.cells #[.pointer (some ⟨ka, kao + i * 5, none⟩), .pointer (some ⟨kb, kbo + i * 5, none⟩)] 91)).drew.cell? ⟨wr.heap.size, 1, none⟩ = some (.pointer (some ⟨kb, kbo + i * 5, none⟩)) := by go_simp
            have hx : wr.heap.size < (wr.alloc (.cells #[.pointer (some ⟨ka, kao + i * 5, none⟩), .pointer (some ⟨kb, kbo + i * 5, none⟩)] 91)).drew.heap.size := by show _ < (wr.alloc _).heap.size; simp
            generalize (wr.alloc (.cells #[.pointer (some ⟨ka, kao + i * 5, none⟩), .pointer (some ⟨kb, kbo + i * 5, none⟩)] 91)).drew = w4 at *
            have I4 := zH (II.out.step hC)
            have hlk := I4.out.mem.map.look (law I4.out.mem.below) FA.out false
            clear hC wA wB lA lB t0 t1
            cases hMk : M' (⟨ka, kao + i * 5, none⟩, ⟨kb, kbo + i * 5, none⟩) with
            | some u =>
              rw [hMk] at hlk
              obtain rfl := II.out.mem.vals _ _ hMk
              simp only [Option.getD_some, Bool.false_eq_true, if_false, encC] at hlk
              have HMK := zH hMk; clear hMk
              go_wp2_with fail
              go_roundw
              case rel =>
                have h := I4.out
                have hd := HDS.out
                refine ⟨i + 1, q', M', by omega, by go_num, { h with seen := fun j hj => ?_, mu := by have := h.mu; omega, top := by have := h.top; omega }⟩
                by_cases e : j = i
                · subst e; rw [HK2.out, HMK.out]; exact fun h => by cases h
                · exact h.seen j (by omega)
              case measure => simp [intOf]; omega
            | none =>
              rw [hMk] at hlk
              simp only [Option.getD_none, Bool.false_eq_true, if_false, encC] at hlk
              have HMK := zH hMk; clear hMk
              obtain ⟨w5, hrun, his, hgr⟩ := I4.out.mem.map.store (law I4.out.mem.below) FA.out (.bool true)
              simp only [encC] at hrun
              have HME := zH (I4.out.met hgr)
              have y0 := hgr.cell x0 (by have := II.out.hB; have := II.out.lt; simp; omega)
              have y1 := hgr.cell x1 (by have := II.out.hB; have := II.out.lt; simp; omega)
              have HIS := zH his
              have hy : wr.heap.size < w5.heap.size := Nat.lt_of_lt_of_le hx hgr.size
              have hWs : W.heap.size <= w5.heap.size := HME.out.2.1.size
              have hql : q'.length + 1 <= S := by have := mu2_len (T := treeAt W) q'; have := II.out.top; omega
              clear his hgr
              go_wp2_with (at_builtin; go_must (refine wpList_append_own_at _ rfl _ _ 92 rfl W.heap.size 91 i0 (.agg #[.pointer none, .pointer none]) 2 16 Tryz.underlying92 hi hz0 hz1 hz2 rfl (by decide) _ _ _ rfl (HME.out.1.alloc _) ⟨w5.heap.size, 0, none⟩ 1 1 [.pointer (some ⟨ka, kao + i * 5, none⟩), .pointer (some ⟨kb, kbo + i * 5, none⟩)] rfl rfl ?c1 ?c2 ?c3 ?c4 ?c5 ?_))
              case c1 => exact ImplMeas.two_cells w5 _ _ _
              case c2 => exact two_ptr _ _
              case c3 => unfold maxLen; omega
              case c4 => omega
              case c5 => simp; omega
              intro v' w6 hown' hgr' _ hat
              have HOWN := zH hown'
              have HGR := zH hgr'
              have HAT := zH hat
              clear hown' hgr' hat
              go_wp2_with fail
              have hiv := IV.out
              have hmet : (fun x => x = ((⟨ka, kao + i * 5, none⟩ : Addr), (⟨kb, kbo + i * 5, none⟩ : Addr)) \/ M' x ≠ none) = (fun x => (if x = (⟨ka, kao + i * 5, none⟩, ⟨kb, kbo + i * 5, none⟩) then some (Value.bool true) else M' x) ≠ none) := by
                funext x
                apply propext
                by_cases h : x = ((⟨ka, kao + i * 5, none⟩ : Addr), (⟨kb, kbo + i * 5, none⟩ : Addr)) <;> simp [h]
              rw [hmet] at hiv
              have hd := HDS.out
              have hb5 : Below w5.heap.size w5 (w5.alloc (.cells #[.pointer (some ⟨ka, kao + i * 5, none⟩), .pointer (some ⟨kb, kbo + i * 5, none⟩)] 91)) := (zB _ _).alloc (zL _) _
              have hBt := II.out.hB
              have hblk : ∀ k, k < w5.heap.size -> some k ≠ (Value.slice ra q'.length rc).ownBlock -> w6.heap[k]? = w5.heap[k]? := fun k h1 h2 => (HGR.out.block k (Nat.lt_of_lt_of_le h1 hb5.size) h2).trans (hb5.block k h1)
              have ht5 := HME.out.2.2.2.2
              have IN6 : Hid (In W (w.heap.size + 1 + 1 + 1) (⟨w.heap.size, 0, none⟩, ⟨w.heap.size + 1, 0, none⟩) S gk ⟨ba, oa, none⟩ ⟨bb, ob, none⟩ wo.heap.size (i + 1) ((⟨ka, kao + i * 5, none⟩, ⟨kb, kbo + i * 5, none⟩) :: q') (fun k' => if k' = (⟨ka, kao + i * 5, none⟩, ⟨kb, kbo + i * 5, none⟩) then some (.bool true) else M' k') v' w6) := by
                refine ⟨⟨HOWN.out, HIS.out.kept (hblk _ HIS.out.lt (fun h => II.out.mem.apart h.symm)), fun c u hc => ?_, (HME.out.2.1.alloc HME.out.2.1.size _).grown HGR.out (by simp; omega) (fun k hk => (HME.out.1.lt k hk).1), II.out.mem.low⟩, hiv, fun j hj => ?_, ?_, ?_, ?_, ?_, ?_, ?_, hBt⟩
                · by_cases h : c = ((⟨ka, kao + i * 5, none⟩ : Addr), (⟨kb, kbo + i * 5, none⟩ : Addr))
                  · simp [h] at hc; exact hc.symm
                  · simp [h] at hc; exact II.out.mem.vals _ _ hc
                · by_cases e : j = i
                  · subst e; rw [HK2.out]; simp
                  · have := II.out.seen j (by omega)
                    split
                    · exact fun h => by cases h
                    · exact this
                · have := II.out.mu; simp only [mu2]; omega
                · have := II.out.top; simp only [mu2]; omega
                · exact (World.cell?_of_block (a := ⟨_, 0, none⟩) (hblk _ ht5 (fun h => II.out.ne h.symm))).trans HME.out.2.2.1
                · exact (World.cell?_of_block (a := ⟨_, 1, none⟩) (hblk _ ht5 (fun h => II.out.ne h.symm))).trans HME.out.2.2.2.1
                · exact Nat.lt_of_lt_of_le ht5 (Nat.le_trans hb5.size HGR.out.size)
                · rcases HAT.out with h | h
                  · rw [h]; exact II.out.ne
                  · rw [h]; simp; omega
              clear hiv hmet hd hb5 hBt hblk ht5
              go_roundw
              case rel => exact ⟨i + 1, _, _, by omega, by go_num, IN6.out⟩
              case measure => simp [intOf]; omega
          · have hin2 : i = n := by omega
            have hseen : Seen (treeAt W) (kid W) (fun c => M' c ≠ none) ((⟨ba, oa, none⟩ : Addr), (⟨bb, ob, none⟩ : Addr)) := ⟨HL.out, fun j hj => II.out.seen j (by have := HNN2.out; simp only at hj; omega)⟩
            have HSEEN := zH hseen
            clear hseen hin2 wA wB t0 t1
            go_wp2_with fail
            go_roundg (mu2 (treeAt W) q')
            case measure => have := II.out.mu; omega
            case rel => exact ⟨q', M', II.out.mem, Pairs.inv_seen II.out.inv HSEEN.out, zL _, by have := II.out.top; omega⟩
end ImplEqual
end Go.Proofs.YtbigfeblomfflaaGreatDoor
