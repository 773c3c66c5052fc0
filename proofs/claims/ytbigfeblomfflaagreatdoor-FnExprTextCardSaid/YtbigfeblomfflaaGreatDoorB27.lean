/-
  WriteBody WriteBlk WriteNil WriteTree
-/
import Derived.Test.YtbigfeblomfflaaGreatDoorB25
import Derived.Test.YtbigfeblomfflaaGreatDoorB26
namespace Go.Proofs.YtbigfeblomfflaaGreatDoor
namespace Wri
open Go.RowKit
open Strs Tree Bld Prn
theorem flat_names (ts : List ByteArray) : 32 :: flat (namesX ts) = Lib.joinTail [32] (ts.map (·.data.toList)) ++ [32] := by
  induction ts with
  | nil => rfl
  | cons p ts ih =>
    rw [namesX, flat_tk 1 _ _ (by decide) (by decide) (by decide), flat_sp, ih]
    show _ = [32] ++ (p.data.toList ++ Lib.joinTail [32] (ts.map (·.data.toList))) ++ [32]
    simp
theorem flat_bars (ts : List ByteArray) (h : ts ≠ []) : flat (barsX ts) = [124, 32] ++ (Lib.join (ts.map (·.data.toList)) [32] ++ [32, 124, 32]) := by
  unfold barsX
  cases ts with
  | nil => exact absurd rfl h
  | cons p ts =>
    rw [if_neg (by simp)]
    show 124 :: 32 :: flat (namesX (p :: ts) ++ [Prn.mark Gram.cBar, Prn.sp]) = _
    rw [zaj, namesX, flat_tk 1 _ _ (by decide) (by decide) (by decide), flat_sp, flat_names, List.map_cons, Lib.join_cons]
    show 124 :: 32 :: (p.data.toList ++ (Lib.joinTail [32] (ts.map (·.data.toList)) ++ [32]) ++ [124, 32]) = _
    simp
theorem block_of {w : World} {k o : Nat} {v : Value} (h : w.cell? ⟨k, o, none⟩ = some v) : k < w.heap.size := World.block_lt_of_cell? _ _ h
set_option maxRecDepth 10000 in
set_option maxHeartbeats 8000000 in
theorem body_write {w0 : World} {b : Nat} {l : List UInt8} {w : World} (h : St w0 b l w) (ts : List ByteArray) (vt : Value) (ht : Texts 0 w0 ts vt) (ks : List E) (vk : Value) (hk : KidsAt 0 w0 ks vk) (hw : ∀ k ∈ ks, WP w0 b k) (hts : ts.length <= 1048576)
    (hlen : l.length + (flat (bodyX ts (ks.map fm))).length <= 140737488355328) :
    Calls Tryz.prog 119 #[.pointer (some ⟨b, 0, none⟩), vt, vk] w (Wrote w0 b (l ++ flat (bodyX ts (ks.map fm))) w) := by
  have hb1 : flat (bodyX ts (ks.map fm)) = flat (barsX ts) ++ up [46, 32] (statsL ks) ks.length := by
    unfold bodyX; rw [zaj, flat_stats]
  rw [hb1] at hlen ⊢
  clear hb1
  obtain ⟨ta, tc, rfl, htm, -, htc⟩ := ht
  obtain ⟨ka, kc, rfl, hkm, hkc⟩ := hk
  unfold maxLen at htm hkm
  have HTXT : Hid (∀ (i : Nat) (x : E), ks[i]? = some x -> (statsL ks)[i]? = some (flat (px x))) := by
    refine zH fun i x hx => ?_
    unfold statsL
    rw [List.getElem?_map, hx]; rfl
  have hml : (statsL ks).length = ks.length := by simp [statsL]
  generalize hXX : statsL ks = XX at *
  clear hXX
  have HKC : Hid (∀ (i : Nat) (x : E), ks[i]? = some x -> ∃ kb off, ka = some ⟨kb, off, none⟩ /\ Spot 0 w0 kb (off + i * 5) x) := by
    refine zH fun i x hx => ?_
    obtain ⟨hi, rfl⟩ := List.getElem?_eq_some_iff.1 hx
    obtain ⟨kb, off, rfl, -, hr⟩ := hkc (by omega)
    exact ⟨kb, off, rfl, (row_iff _ off).1 hr i hi⟩
  have HMM := zH hw
  clear hkc hw
  generalize hN : ks.length = N at *
  have HN := zH hN; clear hN
  by_cases hemp : ts = []
  · subst hemp
    have e0 : flat (barsX []) = [] := rfl
    rw [e0, List.nil_append] at hlen ⊢
    have HLE := zH hlen
    have HST0 := zH h
    clear e0 hlen h htc htm hts
    go_enter Tryz.func119, Tryz.ntmps119
    go_wp2_with fail
    have HFR0 := zH (Fr.refl b w)
    go_loopw [21] (fun j wr => ∃ i : Nat, i <= N /\ j = .int .i64 i /\ St w0 b (l ++ up [46, 32] XX i) wr /\ Fr b w wr) (fun j _ => N - (intOf j).toNat)
    case atStart => exact ⟨0, Nat.zero_le _, rfl, by rw [up_zero, List.append_nil]; exact HST0.out, HFR0.out⟩
    case round =>
      clear HST0 HFR0
      obtain ⟨i, hi, rfl, hst, hfr⟩ := hrel
      have HST := zH hst
      have HFR := zH hfr
      clear hst hfr
      by_cases hlt : i < N
      · obtain ⟨x, hue⟩ : ∃ x, ks[i]? = some x := ⟨ks[i]'(by rw [HN.out]; exact hlt), List.getElem?_eq_getElem _⟩
        obtain ⟨kb, off, hka, xn, xk, d0, d1, d2, d3, d4, hxn⟩ := HKC.out i x hue
        have c0 := cell_keep HST.out.base d0
        have c1 := cell_keep HST.out.base d1
        have c2 := cell_keep HST.out.base d2
        have c3 := cell_keep HST.out.base d3
        have c4 := cell_keep HST.out.base d4
        have HAE := HTXT.out i x hue
        have hwm := HMM.out x (List.mem_of_getElem? hue)
        obtain ⟨za, zl, zc, ua, ul, uc, rfl, rfl⟩ := zaq hxn
        clear d0 d1 d2 d3 d4
        have hba5 : Below wr.heap.size wr (wr.alloc (.cells #[.int .i64 x.kind, .string x.text, .int .i64 x.num, .slice za zl zc, .slice ua ul uc] 27)) := (zB _ _).alloc (zL _) _
        have HBE5 := zH (Box.new wr #[.int .i64 x.kind, .string x.text, .int .i64 x.num, .slice za zl zc, .slice ua ul uc] 27 (by decide))
        have HST5 := zH (HST.out.below hba5)
        have HFR5 := zH (HFR.out.below hba5)
        have hbb : b < wr.heap.size := HST.out.lt.2
        have hbn : wr.heap.size ≠ b := by omega
        have HLI := zH (show (l).length + (up [46, 32] XX (i + 1)).length <= 140737488355328 by
          have h1 := up_le [46, 32] XX (i + 1)
          rw [hml] at h1
          have h2 := HLE.out
          simp at h2 ⊢
          omega)
        clear hba5
        rcases Nat.eq_zero_or_pos i with hi0 | hip
        · have HU : Hid (up [46, 32] XX (i + 1) = up [46, 32] XX i ++ flat (px x)) := by
            rw [hi0] at HAE ⊢
            exact zH (by rw [up_first (sep := [46, 32]) HAE, up_zero]; rfl)
          have ti : decide (0 < i) = false := by rw [decide_eq_false_iff_not]; omega
          rw [HU.out] at HLI
          clear HAE hi0
          have KX := zH (hwm (l ++ up [46, 32] XX i) 0 _ _ _ (by omega) hxn HST5.out (by have := HLI.out; rw [part_zero]; simp at this ⊢; omega))
          rw [part_zero] at KX
          obtain ⟨k0, k1, k2, k3, k4⟩ := box5 HBE5.out
          clear hxn
          subst hka
          go_wp2_with fail
          refine KX.out.mono ?_
          rintro r w6 ⟨rfl, hs6, hf6⟩
          have HS6 := zH hs6
          have HF6 := zH (HFR5.out.trans hf6)
          clear hs6 hf6 k0 k1 k2 k3 k4
          go_wp2_with fail
          go_roundw
          case rel =>
            refine ⟨i + 1, hlt, by go_num, ?_, HF6.out⟩
            rw [HU.out]
            have := HS6.out
            simpa using this
          case measure => simp [intOf]; omega
        · have HU : Hid (up [46, 32] XX (i + 1) = up [46, 32] XX i ++ ([46, 32] ++ flat (px x))) := zH (up_next hip HAE)
          have ti : decide (0 < i) = true := by rw [decide_eq_true_eq]; omega
          rw [HU.out] at HLI
          clear HAE
          have KZ := zH (put_str HST5.out ⟨#[46, 32]⟩ (by have := HLI.out; rw [<- Tok.zaa]; show _ + [46, 32].length <= _; simp at this ⊢; omega))
          have HXN := zH hxn
          clear hxn
          subst hka
          go_wp2_with fail
          refine KZ.out.mono ?_
          rintro r w2 ⟨rfl, hs2, hf2⟩
          have HF2 := zH hf2
          have KX := zH (hwm (l ++ up [46, 32] XX i ++ [46, 32]) 0 _ _ _ (by omega) HXN.out hs2 (by have := HLI.out; rw [part_zero]; simp at this ⊢; omega))
          rw [part_zero] at KX
          obtain ⟨k0, k1, k2, k3, k4⟩ := box5 (HBE5.out.fr HF2.out hbn)
          clear hs2 hf2
          go_wp2_with fail
          refine KX.out.mono ?_
          rintro r w6 ⟨rfl, hs6, hf6⟩
          have HS6 := zH hs6
          have HF6 := zH (HFR5.out.trans (HF2.out.trans hf6))
          clear hs6 hf6 k0 k1 k2 k3 k4
          go_wp2_with fail
          go_roundw
          case rel =>
            refine ⟨i + 1, hlt, by go_num, ?_, HF6.out⟩
            rw [HU.out]
            have := HS6.out
            simpa using this
          case measure => simp [intOf]; omega
      · have hiN : i = N := by omega
        have HIN := zH hiN
        clear hiN
        go_wp2_with fail
        go_end0
        exact ⟨rfl, by have := HST.out; rw [HIN.out] at this; simpa using this, HFR.out⟩
  · have hnn : 0 < ts.length := List.length_pos_iff.2 hemp
    rw [flat_bars ts hemp] at hlen ⊢
    obtain ⟨tb, to, rfl, -, htc2⟩ := htc hnn
    have HTC := zH htc2
    have htb := block_of (htc2 0 hnn)
    clear htc htc2
    have HLE := zH hlen
    have K1 := zH (put_str h ⟨#[124, 32]⟩ (by rw [<- Tok.zaa]; show _ + [124, 32].length <= _; simp at hlen ⊢; omega))
    have tg : decide (0 < ts.length) = true := by rw [decide_eq_true_eq]; exact hnn
    clear hlen h hemp
    have KJ := fun (w1 : World) (h1 : Below w0.heap.size w0 w1) => zH (Shelf.join_any tb to tc ts ⟨#[32]⟩ w1 (fun j x hx => by
      obtain ⟨hi, rfl⟩ := List.getElem?_eq_some_iff.1 hx
      exact cell_keep h1 (HTC.out j hi)) (Nat.lt_of_lt_of_le htb h1.size) (by omega) htm.1 (by have := HLE.out; show (Lib.join _ [32]).length <= _; simp at this ⊢; omega))
    have hj : (⟨#[32]⟩ : ByteArray).data.toList = [32] := rfl
    rw [hj] at KJ
    generalize hJJ : Lib.join (ts.map (·.data.toList)) [32] = JJ at *
    clear hJJ hj
    clear HTC
    generalize hTN : ts.length = TN at *
    clear hTN
    go_enter Tryz.func119, Tryz.ntmps119
    go_wp2_with fail
    refine K1.out.mono ?_
    rintro r w1 ⟨rfl, hs1, hf1⟩
    have HS1 := zH hs1
    have HF1 := zH hf1
    have KJ1 := KJ w1 hs1.base
    clear hs1 hf1 K1 KJ
    go_wp2_with fail
    refine KJ1.out.mono ?_
    rintro r w2 ⟨rfl, hb2⟩
    have HF2 := zH (HF1.out.below hb2)
    have K3 := zH (put_str (HS1.out.below hb2) ⟨JJ.toArray⟩ (by have := HLE.out; rw [<- Tok.zaa]; show _ + JJ.length <= _; simp at this ⊢; omega))
    clear hb2 KJ1 HS1
    go_wp2_with fail
    refine K3.out.mono ?_
    rintro r w3 ⟨rfl, hs3, hf3⟩
    have HF3 := zH (HF2.out.trans hf3)
    have K4 := zH (put_str hs3 ⟨#[32, 124, 32]⟩ (by have := HLE.out; rw [<- Tok.zaa]; show _ + [32, 124, 32].length <= _; simp at this ⊢; omega))
    clear hs3 hf3 K3
    go_wp2_with fail
    refine K4.out.mono ?_
    rintro r w4 ⟨rfl, hs4, hf4⟩
    have HST0 := zH hs4
    have HFR0 := zH (HF3.out.trans hf4)
    rw [show l ++ (⟨#[124, 32]⟩ : ByteArray).data.toList ++ (⟨JJ.toArray⟩ : ByteArray).data.toList ++ (⟨#[32, 124, 32]⟩ : ByteArray).data.toList = l ++ ([124, 32] ++ (JJ ++ [32, 124, 32])) by simp] at HST0
    clear hs4 hf4 K4
    go_wp2_with fail
    go_loopw [21] (fun j wr => ∃ i : Nat, i <= N /\ j = .int .i64 i /\ St w0 b (l ++ ([124, 32] ++ (JJ ++ [32, 124, 32])) ++ up [46, 32] XX i) wr /\ Fr b w wr) (fun j _ => N - (intOf j).toNat)
    case atStart => exact ⟨0, Nat.zero_le _, rfl, by rw [up_zero, List.append_nil]; exact HST0.out, HFR0.out⟩
    case round =>
      clear HST0 HFR0
      obtain ⟨i, hi, rfl, hst, hfr⟩ := hrel
      have HST := zH hst
      have HFR := zH hfr
      clear hst hfr
      by_cases hlt : i < N
      · obtain ⟨x, hue⟩ : ∃ x, ks[i]? = some x := ⟨ks[i]'(by rw [HN.out]; exact hlt), List.getElem?_eq_getElem _⟩
        obtain ⟨kb, off, hka, xn, xk, d0, d1, d2, d3, d4, hxn⟩ := HKC.out i x hue
        have c0 := cell_keep HST.out.base d0
        have c1 := cell_keep HST.out.base d1
        have c2 := cell_keep HST.out.base d2
        have c3 := cell_keep HST.out.base d3
        have c4 := cell_keep HST.out.base d4
        have HAE := HTXT.out i x hue
        have hwm := HMM.out x (List.mem_of_getElem? hue)
        obtain ⟨za, zl, zc, ua, ul, uc, rfl, rfl⟩ := zaq hxn
        clear d0 d1 d2 d3 d4
        have hba5 : Below wr.heap.size wr (wr.alloc (.cells #[.int .i64 x.kind, .string x.text, .int .i64 x.num, .slice za zl zc, .slice ua ul uc] 27)) := (zB _ _).alloc (zL _) _
        have HBE5 := zH (Box.new wr #[.int .i64 x.kind, .string x.text, .int .i64 x.num, .slice za zl zc, .slice ua ul uc] 27 (by decide))
        have HST5 := zH (HST.out.below hba5)
        have HFR5 := zH (HFR.out.below hba5)
        have hbb : b < wr.heap.size := HST.out.lt.2
        have hbn : wr.heap.size ≠ b := by omega
        have HLI := zH (show (l ++ ([124, 32] ++ (JJ ++ [32, 124, 32]))).length + (up [46, 32] XX (i + 1)).length <= 140737488355328 by
          have h1 := up_le [46, 32] XX (i + 1)
          rw [hml] at h1
          have h2 := HLE.out
          simp at h2 ⊢
          omega)
        clear hba5
        rcases Nat.eq_zero_or_pos i with hi0 | hip
        · have HU : Hid (up [46, 32] XX (i + 1) = up [46, 32] XX i ++ flat (px x)) := by
            rw [hi0] at HAE ⊢
            exact zH (by rw [up_first (sep := [46, 32]) HAE, up_zero]; rfl)
          have ti : decide (0 < i) = false := by rw [decide_eq_false_iff_not]; omega
          rw [HU.out] at HLI
          clear HAE hi0
          have KX := zH (hwm (l ++ ([124, 32] ++ (JJ ++ [32, 124, 32])) ++ up [46, 32] XX i) 0 _ _ _ (by omega) hxn HST5.out (by have := HLI.out; rw [part_zero]; simp at this ⊢; omega))
          rw [part_zero] at KX
          obtain ⟨k0, k1, k2, k3, k4⟩ := box5 HBE5.out
          clear hxn
          subst hka
          go_wp2_with fail
          refine KX.out.mono ?_
          rintro r w6 ⟨rfl, hs6, hf6⟩
          have HS6 := zH hs6
          have HF6 := zH (HFR5.out.trans hf6)
          clear hs6 hf6 k0 k1 k2 k3 k4
          go_wp2_with fail
          go_roundw
          case rel =>
            refine ⟨i + 1, hlt, by go_num, ?_, HF6.out⟩
            rw [HU.out]
            have := HS6.out
            simpa using this
          case measure => simp [intOf]; omega
        · have HU : Hid (up [46, 32] XX (i + 1) = up [46, 32] XX i ++ ([46, 32] ++ flat (px x))) := zH (up_next hip HAE)
          have ti : decide (0 < i) = true := by rw [decide_eq_true_eq]; omega
          rw [HU.out] at HLI
          clear HAE
          have KZ := zH (put_str HST5.out ⟨#[46, 32]⟩ (by have := HLI.out; rw [<- Tok.zaa]; show _ + [46, 32].length <= _; simp at this ⊢; omega))
          have HXN := zH hxn
          clear hxn
          subst hka
          go_wp2_with fail
          refine KZ.out.mono ?_
          rintro r w2 ⟨rfl, hs2, hf2⟩
          have HF2 := zH hf2
          have KX := zH (hwm (l ++ ([124, 32] ++ (JJ ++ [32, 124, 32])) ++ up [46, 32] XX i ++ [46, 32]) 0 _ _ _ (by omega) HXN.out hs2 (by have := HLI.out; rw [part_zero]; simp at this ⊢; omega))
          rw [part_zero] at KX
          obtain ⟨k0, k1, k2, k3, k4⟩ := box5 (HBE5.out.fr HF2.out hbn)
          clear hs2 hf2
          go_wp2_with fail
          refine KX.out.mono ?_
          rintro r w6 ⟨rfl, hs6, hf6⟩
          have HS6 := zH hs6
          have HF6 := zH (HFR5.out.trans (HF2.out.trans hf6))
          clear hs6 hf6 k0 k1 k2 k3 k4
          go_wp2_with fail
          go_roundw
          case rel =>
            refine ⟨i + 1, hlt, by go_num, ?_, HF6.out⟩
            rw [HU.out]
            have := HS6.out
            simpa using this
          case measure => simp [intOf]; omega
      · have hiN : i = N := by omega
        have HIN := zH hiN
        clear hiN
        go_wp2_with fail
        go_end0
        exact ⟨rfl, by have := HST.out; rw [HIN.out] at this; simpa using this, HFR.out⟩
end Wri
namespace Wri
open Go.RowKit
open Strs Tree Bld Prn
theorem pars_append (a b : List ByteArray) : parsX (a ++ b) = parsX a ++ parsX b := by
  induction a with
  | nil => rfl
  | cons x a ih => rw [List.cons_append, parsX, ih, parsX]; rfl
def pj (ps : List ByteArray) (i : Nat) : List UInt8 := flat (parsX (ps.take i))
theorem pj_next {ps : List ByteArray} {i : Nat} {x : ByteArray} (h : ps[i]? = some x) : pj ps (i + 1) = pj ps i ++ ([58] ++ (x.data.toList ++ [32])) := by
  obtain ⟨hi, rfl⟩ := List.getElem?_eq_some_iff.1 h
  unfold pj
  rw [List.take_succ_eq_append_getElem hi, pars_append, zaj, parsX]
  show _ ++ (58 :: flat (tk 1 ps[i] :: sp :: parsX [])) = _
  rw [flat_tk 1 _ _ (by decide) (by decide) (by decide)]
  rfl
theorem pj_le (ps : List ByteArray) (i : Nat) : (pj ps i).length <= (pj ps ps.length).length := by
  unfold pj
  have : parsX (ps.take ps.length) = parsX (ps.take i) ++ parsX (ps.drop i) := by rw [<- pars_append, List.take_append_drop, List.take_length]
  rw [this, zaj, List.length_append]; omega
theorem texts_drop {w0 : World} {ns : List ByteArray} {nb no cap : Nat} (h : Texts 0 w0 ns (.slice (some ⟨nb, no, none⟩) ns.length cap)) (n : Nat) (hn : n <= ns.length) : Texts 0 w0 (ns.drop n) (.slice (if cap = n then some ⟨nb, no, none⟩ else some ⟨nb, no + n, none⟩) (ns.length - n) (cap - n)) := by
  obtain ⟨a, c, he, hm, hx, hc⟩ := h
  simp only [Value.slice.injEq] at he
  obtain ⟨rfl, -, rfl⟩ := he
  refine ⟨_, _, by rw [List.length_drop], ⟨by rw [List.length_drop]; omega, by omega⟩, fun x hx' => hx x (List.mem_of_mem_drop hx'), fun h0 => ?_⟩
  rw [List.length_drop] at h0
  obtain ⟨b, o, he, -, hcc⟩ := hc (by omega)
  simp only [Option.some.injEq, Addr.mk.injEq] at he
  obtain ⟨rfl, rfl, -⟩ := he
  refine ⟨nb, no + n, if_neg (by omega), Nat.zero_le _, fun j hj => ?_⟩
  rw [List.length_drop] at hj
  rw [Nat.add_assoc, hcc (n + j) (by omega), List.getElem_drop]
set_option maxRecDepth 10000 in
set_option maxHeartbeats 8000000 in
theorem block_write {w0 : World} {b : Nat} {l : List UInt8} {w : World} (h : St w0 b l w) (n : Nat) (t : ByteArray) (ns : List ByteArray) (nb no nc : Nat) (hns : Texts 0 w0 ns (.slice (some ⟨nb, no, none⟩) ns.length nc)) (hn : n <= ns.length) (ks : List E) (ka : Option Addr) (kc : Nat)
    (hb : ∀ (l : List UInt8) (w : World) (vt : Value), Texts 0 w0 (ns.drop n) vt -> St w0 b l w -> l.length + (flat (bodyX (ns.drop n) (ks.map fm))).length <= 140737488355328 -> Calls Tryz.prog 119 #[.pointer (some ⟨b, 0, none⟩), vt, .slice ka ks.length kc] w (Wrote w0 b (l ++ flat (bodyX (ns.drop n) (ks.map fm))) w))
    (hlen : l.length + ([91] ++ (flat (parsX (ns.take n)) ++ ((if 0 < n then [124, 32] else []) ++ (flat (bodyX (ns.drop n) (ks.map fm)) ++ [93])))).length <= 140737488355328) :
    Calls Tryz.prog 304 #[.agg #[.int .i64 8, .string t, .int .i64 (n : Int), .slice (some ⟨nb, no, none⟩) ns.length nc, .slice ka ks.length kc], .pointer (some ⟨b, 0, none⟩)] w (Wrote w0 b (l ++ ([91] ++ (flat (parsX (ns.take n)) ++ ((if 0 < n then [124, 32] else []) ++ (flat (bodyX (ns.drop n) (ks.map fm)) ++ [93]))))) w) := by
  have hdrop := texts_drop hns n hn
  have hba : Below w.heap.size w (w.alloc (.cells #[.int .i64 8, .string t, .int .i64 (n : Int), .slice (some ⟨nb, no, none⟩) ns.length nc, .slice ka ks.length kc] 193)) := (zB _ _).alloc (zL _) _
  have HA := zH (Fr.of_below (b := b) hba)
  have HBX := zH (Box.new w #[.int .i64 8, .string t, .int .i64 (n : Int), .slice (some ⟨nb, no, none⟩) ns.length nc, .slice ka ks.length kc] 193 (by decide))
  have hbw := h.lt
  have hpt : flat (parsX (ns.take n)) = pj (ns.take n) n := by unfold pj; rw [List.take_take, Nat.min_self]
  have hpl : (ns.take n).length = n := by rw [List.length_take]; omega
  rw [hpt] at hlen ⊢
  generalize hBB : (if 0 < n then [124, 32] else [] : List UInt8) = BB at *
  have HBB := zH hBB; clear hBB
  generalize hTT : flat (bodyX (ns.drop n) (ks.map fm)) = TT at *
  clear hTT
  have HLE := zH hlen
  have K1 := zH (put_byte (h.below hba) 91 (by simp at hlen ⊢; omega))
  have HB := zH (fun (w : World) (h : St w0 b (l ++ [91] ++ pj (ns.take n) n ++ BB) w) => zH (hb _ w _ hdrop h (by simp at hlen ⊢; omega)))
  obtain ⟨a0, c0, he, hm, -, hcell⟩ := hns
  simp only [Value.slice.injEq] at he
  obtain ⟨rfl, -, rfl⟩ := he
  unfold maxLen at hm
  have HCELL : Hid (∀ (i : Nat) (x : ByteArray), (ns.take n)[i]? = some x -> w0.cell? ⟨nb, no + i, none⟩ = some (.string x)) := by
    refine zH fun i x hx => ?_
    obtain ⟨hi, rfl⟩ := List.getElem?_eq_some_iff.1 hx
    rw [List.length_take] at hi
    obtain ⟨b', o', he, -, hcc⟩ := hcell (by omega)
    simp only [Option.some.injEq, Addr.mk.injEq] at he
    obtain ⟨rfl, rfl, -⟩ := he
    rw [hcc i (by omega), List.getElem_take]
  clear h hlen hba hdrop hpt hcell hb
  generalize hPP : ns.take n = PP at *
  clear hPP
  generalize hN : ns.length = N at *
  clear hN
  generalize ks.length = K at *
  go_enter Tryz.func304, Tryz.ntmps304
  go_wp2_with fail
  refine K1.out.mono ?_
  rintro r w1 ⟨rfl, hs1, hf1⟩
  have HS1 := zH hs1
  have HF1 := zH (HA.out.trans hf1)
  have HBX1 := zH (HBX.out.fr hf1 (by omega))
  obtain ⟨f0, f1, f2, f3, f4⟩ := box5 HBX1.out
  clear hs1 hf1 K1
  have t1 : (0 : Int) <= (n : Int) := by omega
  have t2 : (n : Int) <= (N : Int) := by omega
  have t3 : (n : Int) <= (nc : Int) := by omega
  go_wp2_with fail
  go_loopw [14] (fun j wr => ∃ i : Nat, i <= n /\ j = .int .i64 i /\ St w0 b (l ++ [91] ++ pj PP i) wr /\ Fr b w wr /\ Box w.heap.size #[.int .i64 8, .string t, .int .i64 (n : Int), .slice (some ⟨nb, no, none⟩) N nc, .slice ka K kc] 193 wr) (fun j _ => n - (intOf j).toNat)
  case atStart => exact ⟨0, Nat.zero_le _, rfl, by have : pj PP 0 = [] := rfl; rw [this, List.append_nil]; exact HS1.out, HF1.out, HBX1.out⟩
  case round =>
    clear f0 f1 f2 f3 f4 HS1 HF1 HBX1
    obtain ⟨i, hi, rfl, hst, hfr, hbx⟩ := hrel
    have HST := zH hst
    have HFR := zH hfr
    have HBXI := zH hbx
    clear hst hfr hbx
    by_cases hlt : i < n
    · obtain ⟨x, hpx⟩ : ∃ x, PP[i]? = some x := ⟨PP[i]'(by omega), List.getElem?_eq_getElem _⟩
      have c0 := cell_keep HST.out.base (HCELL.out i x hpx)
      have HU := zH (pj_next hpx)
      have HLI := zH (show l.length + 1 + (pj PP (i + 1)).length <= 140737488355328 by
        have h1 := pj_le PP (i + 1)
        rw [hpl] at h1
        have h2 := HLE.out
        simp at h2
        omega)
      rw [HU.out] at HLI
      have K2 := zH (put_byte HST.out 58 (by have := HLI.out; simp at this ⊢; omega))
      clear hpx
      go_wp2_with fail
      refine K2.out.mono ?_
      rintro r w2 ⟨rfl, hs2, hf2⟩
      have HF2 := zH hf2
      have K3 := zH (put_str hs2 x (by have := HLI.out; rw [<- Tok.zaa]; simp at this ⊢; omega))
      clear hs2 hf2 K2 c0
      go_wp2_with fail
      refine K3.out.mono ?_
      rintro r w3 ⟨rfl, hs3, hf3⟩
      have HF3 := zH (HF2.out.trans hf3)
      have K4 := zH (put_byte hs3 32 (by have := HLI.out; simp at this ⊢; omega))
      clear hs3 hf3 K3
      go_wp2_with fail
      refine K4.out.mono ?_
      rintro r w4 ⟨rfl, hs4, hf4⟩
      have HS4 := zH hs4
      have HF4 := zH (HF3.out.trans hf4)
      have HBX4 := zH (HBXI.out.fr HF4.out (by omega))
      clear hs4 hf4 K4
      go_wp2_with fail
      go_roundw
      case rel =>
        refine ⟨i + 1, hlt, by go_num, ?_, HFR.out.trans HF4.out, HBX4.out⟩
        rw [HU.out]
        have := HS4.out
        simpa using this
      case measure => simp [intOf]; omega
    · have hiN : i = n := by omega
      subst hiN
      obtain ⟨f0, f1, f2, f3, f4⟩ := box5 HBXI.out
      by_cases h0 : 0 < i
      · have hB2 : BB = [124, 32] := by rw [<- HBB.out, if_pos h0]
        have ti : decide (0 < i) = true := by rw [decide_eq_true_eq]; exact h0
        have K5 := zH (put_str HST.out ⟨#[124, 32]⟩ (by have := HLE.out; rw [hB2] at this; rw [<- Tok.zaa]; show _ + [124, 32].length <= _; simp at this ⊢; omega))
        subst hB2
        clear HBB h0
        go_wp2_with fail
        refine K5.out.mono ?_
        rintro r w5 ⟨rfl, hs5, hf5⟩
        have HS5 := zH hs5
        have HF5 := zH (HFR.out.trans hf5)
        have HBX5 := zH (HBXI.out.fr hf5 (by omega))
        clear hs5 hf5 K5 f0 f1 f2 f3 f4
        obtain ⟨g0, g1, g2, g3, g4⟩ := box5 HBX5.out
        go_wp2_with fail
        go_still_tail 8, (by kernel_rfl)
        change wpList _ _ _ _ _ w5.drew
        have HS8 := zH (HS5.out.below (zai w5 1))
        have HF8 := zH (HF5.out.below (zai w5 1))
        rw [show w5.drewN 1 = w5.drew from rfl] at HS8 HF8
        clear g0 g1 g2 g3 g4
        generalize w5.drew = w8 at *
        generalize (if nc = i then some (⟨nb, no, none⟩ : Addr) else some ⟨nb, no + i, none⟩) = V at *
        go_wp2_with fail
        refine (HB.out _ HS8.out).out.mono ?_
        rintro r w9 ⟨rfl, hs9, hf9⟩
        have HS9 := zH hs9
        have HF9 := zH (HF8.out.trans hf9)
        have K9 := zH (put_byte hs9 93 (by have := HLE.out; simp at this ⊢; omega))
        clear hs9 hf9
        go_wp2_with fail
        refine K9.out.mono ?_
        rintro r w10 ⟨rfl, hs10, hf10⟩
        have HS10 := zH hs10
        have HF10 := zH (HF9.out.trans hf10)
        clear hs10 hf10
        go_wp2_with fail
        go_end0
        exact ⟨rfl, by have := HS10.out; simpa using this, HF10.out⟩
      · have hB2 : BB = [] := by rw [<- HBB.out, if_neg h0]
        have ti : decide (0 < i) = false := by rw [decide_eq_false_iff_not]; exact h0
        subst hB2
        have HS5 : Hid (St w0 b (l ++ [91] ++ pj PP i ++ []) wr) := zH (by rw [List.append_nil]; exact HST.out)
        have HF5 := HFR
        have HBX5 := HBXI
        clear HBB h0 f0 f1 f2 f3 f4
        obtain ⟨g0, g1, g2, g3, g4⟩ := box5 HBX5.out
        go_wp2_with fail
        go_still_tail 8, (by kernel_rfl)
        change wpList _ _ _ _ _ wr.drew
        have HS8 := zH (HS5.out.below (zai wr 1))
        have HF8 := zH (HF5.out.below (zai wr 1))
        rw [show wr.drewN 1 = wr.drew from rfl] at HS8 HF8
        clear g0 g1 g2 g3 g4
        generalize wr.drew = w8 at *
        generalize (if nc = i then some (⟨nb, no, none⟩ : Addr) else some ⟨nb, no + i, none⟩) = V at *
        go_wp2_with fail
        refine (HB.out _ HS8.out).out.mono ?_
        rintro r w9 ⟨rfl, hs9, hf9⟩
        have HS9 := zH hs9
        have HF9 := zH (HF8.out.trans hf9)
        have K9 := zH (put_byte hs9 93 (by have := HLE.out; simp at this ⊢; omega))
        clear hs9 hf9
        go_wp2_with fail
        refine K9.out.mono ?_
        rintro r w10 ⟨rfl, hs10, hf10⟩
        have HS10 := zH hs10
        have HF10 := zH (HF9.out.trans hf10)
        clear hs10 hf10
        go_wp2_with fail
        go_end0
        exact ⟨rfl, by have := HS10.out; simpa using this, HF10.out⟩
end Wri
namespace Wri
open Go.RowKit
open Strs Tree Bld Prn
set_option maxRecDepth 10000 in
set_option maxHeartbeats 8000000 in
theorem block_nil {w0 : World} {b : Nat} {l : List UInt8} {w : World} (h : St w0 b l w) (t : ByteArray) (na : Option Addr) (nc : Nat) (hnc : nc <= 9223372036854775807) (ks : List E) (ka : Option Addr) (kc : Nat)
    (hb : ∀ (l : List UInt8) (w : World) (vt : Value), Texts 0 w0 [] vt -> St w0 b l w -> l.length + (flat (bodyX [] (ks.map fm))).length <= 140737488355328 -> Calls Tryz.prog 119 #[.pointer (some ⟨b, 0, none⟩), vt, .slice ka ks.length kc] w (Wrote w0 b (l ++ flat (bodyX [] (ks.map fm))) w))
    (hlen : l.length + ([91] ++ (flat (bodyX [] (ks.map fm)) ++ [93])).length <= 140737488355328) :
    Calls Tryz.prog 304 #[.agg #[.int .i64 8, .string t, .int .i64 0, .slice na 0 nc, .slice ka ks.length kc], .pointer (some ⟨b, 0, none⟩)] w (Wrote w0 b (l ++ ([91] ++ (flat (bodyX [] (ks.map fm)) ++ [93]))) w) := by
  have htx : ∀ (a : Option Addr), Texts 0 w0 [] (.slice a 0 nc) := fun a => ⟨a, nc, rfl, ⟨Nat.zero_le _, hnc⟩, (fun _ h => by cases h), (fun h => absurd h (by decide))⟩
  have hba : Below w.heap.size w (w.alloc (.cells #[.int .i64 8, .string t, .int .i64 0, .slice na 0 nc, .slice ka ks.length kc] 193)) := (zB _ _).alloc (zL _) _
  have HA := zH (Fr.of_below (b := b) hba)
  have HBX := zH (Box.new w #[.int .i64 8, .string t, .int .i64 0, .slice na 0 nc, .slice ka ks.length kc] 193 (by decide))
  have hbw := h.lt
  have K1 := zH (put_byte (h.below hba) 91 (by simp at hlen ⊢; omega))
  have HB := zH (fun (w : World) (a : Option Addr) (h : St w0 b (l ++ [91]) w) => zH (hb _ w _ (htx a) h (by simp at hlen ⊢; omega)))
  generalize hTT : flat (bodyX [] (ks.map fm)) = TT at *
  clear hTT
  have HLE := zH hlen
  clear h hlen hba hb htx
  generalize ks.length = K at *
  have tn : (0 : Int) <= (nc : Int) := by omega
  cases na with
  | none =>
    go_enter Tryz.func304, Tryz.ntmps304
    go_wp2_with fail
    refine K1.out.mono ?_
    rintro r w1 ⟨rfl, hs1, hf1⟩
    have HS1 := zH hs1
    have HF1 := zH (HA.out.trans hf1)
    have HBX1 := zH (HBX.out.fr hf1 (by omega))
    obtain ⟨f0, f1, f2, f3, f4⟩ := box5 HBX1.out
    clear hs1 hf1 K1
    go_wp2_with fail
    go_loopw [14] (fun j wr => j = .int .i64 0 /\ St w0 b (l ++ [91]) wr /\ Fr b w wr /\ Box w.heap.size #[.int .i64 8, .string t, .int .i64 0, .slice none 0 nc, .slice ka K kc] 193 wr) (fun j _ => 0)
    case atStart => exact ⟨rfl, HS1.out, HF1.out, HBX1.out⟩
    case round =>
      clear f0 f1 f2 f3 f4 HS1 HF1 HBX1
      obtain ⟨rfl, hst, hfr, hbx⟩ := hrel
      have HST := zH hst
      have HFR := zH hfr
      obtain ⟨f0, f1, f2, f3, f4⟩ := box5 hbx
      clear hst hfr hbx
      go_wp2_with fail
      go_still_tail 8, (by kernel_rfl)
      change wpList _ _ _ _ _ wr.drew
      have HS8 := zH (HST.out.below (zai wr 1))
      have HF8 := zH (HFR.out.below (zai wr 1))
      rw [show wr.drewN 1 = wr.drew from rfl] at HS8 HF8
      clear f0 f1 f2 f3 f4
      generalize wr.drew = w8 at *
      go_wp2_with fail
      refine (HB.out _ _ HS8.out).out.mono ?_
      rintro r w9 ⟨rfl, hs9, hf9⟩
      have HS9 := zH hs9
      have HF9 := zH (HF8.out.trans hf9)
      have K9 := zH (put_byte hs9 93 (by have := HLE.out; simp at this ⊢; omega))
      clear hs9 hf9
      go_wp2_with fail
      refine K9.out.mono ?_
      rintro r w10 ⟨rfl, hs10, hf10⟩
      have HS10 := zH hs10
      have HF10 := zH (HF9.out.trans hf10)
      clear hs10 hf10
      go_wp2_with fail
      go_end0
      exact ⟨rfl, by have := HS10.out; simpa using this, HF10.out⟩
  | some na =>
    go_enter Tryz.func304, Tryz.ntmps304
    go_wp2_with fail
    refine K1.out.mono ?_
    rintro r w1 ⟨rfl, hs1, hf1⟩
    have HS1 := zH hs1
    have HF1 := zH (HA.out.trans hf1)
    have HBX1 := zH (HBX.out.fr hf1 (by omega))
    obtain ⟨f0, f1, f2, f3, f4⟩ := box5 HBX1.out
    clear hs1 hf1 K1
    go_wp2_with fail
    go_loopw [14] (fun j wr => j = .int .i64 0 /\ St w0 b (l ++ [91]) wr /\ Fr b w wr /\ Box w.heap.size #[.int .i64 8, .string t, .int .i64 0, .slice (some na) 0 nc, .slice ka K kc] 193 wr) (fun j _ => 0)
    case atStart => exact ⟨rfl, HS1.out, HF1.out, HBX1.out⟩
    case round =>
      clear f0 f1 f2 f3 f4 HS1 HF1 HBX1
      obtain ⟨rfl, hst, hfr, hbx⟩ := hrel
      have HST := zH hst
      have HFR := zH hfr
      obtain ⟨f0, f1, f2, f3, f4⟩ := box5 hbx
      clear hst hfr hbx
      go_wp2_with fail
      go_still_tail 8, (by kernel_rfl)
      change wpList _ _ _ _ _ wr.drew
      have HS8 := zH (HST.out.below (zai wr 1))
      have HF8 := zH (HFR.out.below (zai wr 1))
      rw [show wr.drewN 1 = wr.drew from rfl] at HS8 HF8
      clear f0 f1 f2 f3 f4
      generalize wr.drew = w8 at *
      go_wp2_with fail
      refine (HB.out _ _ HS8.out).out.mono ?_
      rintro r w9 ⟨rfl, hs9, hf9⟩
      have HS9 := zH hs9
      have HF9 := zH (HF8.out.trans hf9)
      have K9 := zH (put_byte hs9 93 (by have := HLE.out; simp at this ⊢; omega))
      clear hs9 hf9
      go_wp2_with fail
      refine K9.out.mono ?_
      rintro r w10 ⟨rfl, hs10, hf10⟩
      have HS10 := zH hs10
      have HF10 := zH (HF9.out.trans hf10)
      clear hs10 hf10
      go_wp2_with fail
      go_end0
      exact ⟨rfl, by have := HS10.out; simpa using this, HF10.out⟩
end Wri
namespace Wri
open Go.RowKit
open Strs Tree Bld Prn
theorem text_le {t : ByteArray} {k : Int} {n : Int} {ns : List ByteArray} {ks : List E} (h : weight (.mk k t n ns ks) <= 1048576) : t.size <= 1048576 := by
  rw [weight] at h; omega
theorem names_le {t : ByteArray} {k : Int} {n : Int} {ns : List ByteArray} {ks : List E} (h : weight (.mk k t n ns ks) <= 1048576) : ns.length <= 1048576 := by
  rw [weight] at h; omega
theorem kid_le {t : ByteArray} {k : Int} {n : Int} {ns : List ByteArray} {ks : List E} (h : weight (.mk k t n ns ks) <= 1048576) {e : E} (he : e ∈ ks) : weight e <= 1048576 := by
  rw [weight] at h
  have : weight e <= weights ks := by
    clear h
    induction ks with
    | nil => cases he
    | cons x xs ih =>
      rw [weights]
      cases he with
      | head => omega
      | tail _ he => have := ih he; omega
  omega
theorem flat_paren (need : Nat) (e : E) (B : Nat) (hB : bind e = B) : (need <= B -> flat (Prn.part need e) = flat (px e)) /\ (B < need -> flat (Prn.part need e) = 40 :: (flat (px e) ++ [41])) := by
  rw [flat_part, hB]
  exact ⟨fun h => if_neg (by omega), fun h => if_pos h⟩
theorem write_both {w0 : World} {b : Nat} (hM : Strs.Max w0) (e : E) : (∀ st, right e st = true -> weight e <= 1048576 -> WP w0 b e) /\ (Msg e -> weight e <= 1048576 -> ∀ u ∈ e.kids, WP w0 b u) := by
  refine ind (P := fun e => (∀ st, right e st = true -> weight e <= 1048576 -> WP w0 b e) /\ (Msg e -> weight e <= 1048576 -> ∀ u ∈ e.kids, WP w0 b u)) ?_ e
  intro k t n ns ks ih
  refine ⟨?_, fun hm hwt u hu => by
    obtain ⟨t', ks', he, -, ha⟩ := hm
    cases he
    exact (ih u hu).1 false (ha u hu) (kid_le hwt hu)⟩
  intro st hR hwt l need w vn vk hn4 hnode h hlen
  obtain ⟨a, p, c, a', p', c', rfl, rfl⟩ := zaq hnode
  have hnd := zaw.1 hnode
  obtain ⟨hk, hnum, -, hns, hks⟩ := hnd
  have htl := text_le hwt
  have hnl := names_le hwt
  simp only [E.kind, E.text, E.num, E.names, E.kids] at hk hnum hns hks ⊢
  have hkid : ∀ x, x ∈ ks -> ∀ st, right x st = true -> WP w0 b x := fun x hx st hr => (ih x hx).1 st hr (kid_le hwt hx)
  have hkw : ∀ x, x ∈ ks -> weight x <= 1048576 := fun x hx => kid_le hwt hx
  have hv := view _ st hR
  cases hv with
  | int z hz =>
    have hp := (flat_paren need (.mk 1 Gram.none_ n [] []) 4 rfl).1 hn4
    have hf : flat (px (.mk 1 Gram.none_ n [] [])) = Tok.fmt 3 [] n := by
      rw [px_mk]; show Tok.fmt 3 [] n ++ [] = _; rw [List.append_nil]
    rw [hp, hf] at hlen ⊢
    exact part1 h Gram.none_ n a p c a' p' c' need htl _ (fun l w h hl => leaf_write h hM 3 ByteArray.empty n (by decide) (by omega) (by omega) hl) hn4 hlen
  | text t hz =>
    have hp := (flat_paren need (.mk 2 t 0 [] []) 4 rfl).1 hn4
    have hf : flat (px (.mk 2 t 0 [] [])) = Tok.fmt 4 t.data.toList 0 := by
      rw [px_mk]; show Tok.fmt 4 t.data.toList 0 ++ [] = _; rw [List.append_nil]
    rw [hp, hf] at hlen ⊢
    exact part2 h t 0 a p c a' p' c' need htl _ (fun l w h hl => leaf_write h hM 4 t 0 htl (by omega) (by omega) hl) hn4 hlen
  | sym t hz =>
    have hp := (flat_paren need (.mk 3 t 0 [] []) 4 rfl).1 hn4
    have hf : flat (px (.mk 3 t 0 [] [])) = Tok.fmt 5 t.data.toList 0 := by
      rw [px_mk]; show Tok.fmt 5 t.data.toList 0 ++ [] = _; rw [List.append_nil]
    rw [hp, hf] at hlen ⊢
    exact part3 h t 0 a p c a' p' c' need htl _ (fun l w h hl => leaf_write h hM 5 t 0 htl (by omega) (by omega) hl) hn4 hlen
  | name t hz =>
    have hp := (flat_paren need (.mk 4 t 0 [] []) 4 rfl).1 hn4
    have hf : flat (px (.mk 4 t 0 [] [])) = Tok.fmt 1 t.data.toList 0 := by
      rw [px_mk]; show Tok.fmt 1 t.data.toList 0 ++ [] = _; rw [List.append_nil]
    rw [hp, hf] at hlen ⊢
    exact part4 h t 0 a p c a' p' c' need htl _ (fun l w h hl => leaf_write h hM 1 t 0 htl (by omega) (by omega) hl) hn4 hlen
  | assign t q hz hq =>
    have hf : flat (px (.mk 5 t 0 [] [q])) = t.data.toList ++ ([32, 58, 61, 32] ++ flat (px q)) := by
      rw [px_mk]
      show flat (tk 1 t :: sp :: Prn.mark Gram.cGets :: sp :: px q) = _
      rw [flat_tk 1 _ _ (by decide) (by decide) (by decide)]; rfl
    have hp := flat_paren need (.mk 5 t 0 [] [q]) 0 rfl
    rw [hf] at hp
    have hX := fun l w (h : St w0 b l w) hl => assign_write h 0 t a p c _ q hks (hkid q List.mem_cons_self _ hq) hl
    rcases Nat.eq_zero_or_pos need with h0 | h0
    · rw [hp.1 (by omega)] at hlen ⊢
      exact part5 h t 0 a p c a' p' c' need htl _ hX (by omega) hlen
    · rw [hp.2 h0] at hlen ⊢
      exact part5p h t 0 a p c a' p' c' need htl _ hX h0 hlen
  | send t q us hz hq ha =>
    have hf : flat (px (.mk 6 t 0 [] (q :: us))) = flat (Prn.part (recvNeed t) q) ++ ([32] ++ flat (msgX t (us.map fm))) := by
      rw [px_mk]
      show flat (Prn.part (recvNeed t) q ++ sp :: msgX t (us.map fm)) = _
      rw [zaj]; rfl
    have hp := flat_paren need (.mk 6 t 0 [] (q :: us)) (bindSel t) (if_pos rfl)
    rw [hf] at hp
    have hm : WM w0 b t us := msg_any hM t us htl hz fun u hu => hkid u (List.mem_cons_of_mem _ hu) _ (ha u hu)
    have hX := fun l w (h : St w0 b l w) hl => send_write h 0 t htl a p c _ q us hks (hkid q List.mem_cons_self _ hq) hm hl
    rcases Nat.lt_or_ge (bindSel t) need with h0 | h0
    · rw [hp.2 h0] at hlen ⊢
      exact part6p h t 0 a p c a' p' c' need htl _ hX h0 hlen
    · rw [hp.1 h0] at hlen ⊢
      exact part6 h t 0 a p c a' p' c' need htl _ hX h0 hlen
  | cas q m m2 ms hq hm =>
    have hf : flat (px (.mk 7 Gram.none_ 0 [] (q :: m :: m2 :: ms))) = flat (Prn.part (recvNeed m.text) q) ++ ([32] ++ up [59, 32] (msgsL (m :: m2 :: ms)) (m :: m2 :: ms).length) := by
      rw [px_mk, <- flat_msgs]
      show flat (Prn.part (recvNeed m.text) q ++ sp :: (pm m ++ casTail ((m2 :: ms).map fm))) = _
      rw [zaj]; rfl
    have hp := flat_paren need (.mk 7 Gram.none_ 0 [] (q :: m :: m2 :: ms)) 0 rfl
    rw [hf] at hp
    have hmw : ∀ x ∈ m :: m2 :: ms, WM w0 b x.text x.kids /\ pm x = msgX x.text (x.kids.map fm) := by
      intro x hx
      have hxw := hkw x (List.mem_cons_of_mem _ hx)
      have hkids := (ih x (List.mem_cons_of_mem _ hx)).2 (hm x hx) hxw
      obtain ⟨xt, xs, rfl, hl, ha⟩ := hm x hx
      exact ⟨msg_any hM xt xs (text_le hxw) hl hkids, pm_mk _ _ _ _ _⟩
    have hX := fun l w (h : St w0 b l w) hl => cas_write h 0 Gram.none_ a p c _ q m m2 ms hks (hkid q List.mem_cons_self _ hq) (by
      have hmk := hkw m (by simp)
      obtain ⟨xt, xs, rfl, -⟩ := hm m List.mem_cons_self
      exact text_le hmk) hmw hl
    rcases Nat.eq_zero_or_pos need with h0 | h0
    · rw [hp.1 (by omega)] at hlen ⊢
      exact part7 h Gram.none_ 0 a p c a' p' c' need htl _ hX (by omega) hlen
    · rw [hp.2 h0] at hlen ⊢
      exact part7p h Gram.none_ 0 a p c a' p' c' need htl _ hX h0 hlen
  | block m ns ks hn hnn hr =>
    have hf : flat (px (.mk 8 Gram.none_ m ns ks)) = [91] ++ (flat (parsX (ns.take m)) ++ ((if 0 < m then [124, 32] else []) ++ (flat (bodyX (ns.drop m) (ks.map fm)) ++ [93]))) := by
      rw [px_mk]
      show flat (blockX (m : Int).toNat ns (ks.map fm)) = _
      rw [Int.toNat_natCast]
      unfold blockX
      show 91 :: flat (_ ++ (_ ++ (_ ++ _))) = _
      have e1 : flat (if 0 < m then [Prn.mark Gram.cBar, sp] else []) = if 0 < m then [124, 32] else [] := by split <;> rfl
      rw [zaj, zaj, zaj, e1]
      rfl
    have hp := (flat_paren need (.mk 8 Gram.none_ m ns ks) 4 rfl).1 hn4
    rw [hp, hf] at hlen ⊢
    have hkk : ∀ x ∈ ks, WP w0 b x := fun x hx => by
      obtain ⟨i, hi, rfl⟩ := List.mem_iff_getElem.1 hx
      exact hkid _ (List.getElem_mem hi) true ((rights_iff true ks).1 hr i hi).1
    obtain ⟨ka, kc, hke, hkm, hkc⟩ := hks
    simp only [Value.slice.injEq] at hke
    obtain ⟨rfl, rfl, rfl⟩ := hke
    have hbody := fun (l : List UInt8) (w : World) (vt : Value) (hvt : Texts 0 w0 (ns.drop m) vt) (h : St w0 b l w) hl => body_write h (ns.drop m) vt hvt ks _ ⟨_, _, rfl, hkm, hkc⟩ hkk (by rw [List.length_drop]; omega) hl
    obtain ⟨na, nc, hne, hnm, hnx, hnc⟩ := hns
    simp only [Value.slice.injEq] at hne
    obtain ⟨rfl, rfl, rfl⟩ := hne
    cases ns with
    | nil =>
      have hm0 : m = 0 := by simpa using hn
      subst hm0
      exact part8 h Gram.none_ _ a _ c a' _ c' need htl _ (fun l w h hl => block_nil h Gram.none_ a c (by unfold maxLen at hnm; omega) ks a' c' hbody hl) hn4 hlen
    | cons x xs =>
      obtain ⟨nb, no, rfl, -, hcc⟩ := hnc (by simp)
      exact part8 h Gram.none_ _ _ _ c a' _ c' need htl _ (fun l w h hl => block_write h m Gram.none_ (x :: xs) nb no c ⟨_, _, rfl, hnm, hnx, hnc⟩ hn ks a' c' hbody hl) hn4 hlen
  | ret q hs hq =>
    have hf : flat (px (.mk 9 Gram.none_ 0 [] [q])) = [94, 32] ++ flat (px q) := by
      rw [px_mk]; rfl
    have hp := flat_paren need (.mk 9 Gram.none_ 0 [] [q]) 0 rfl
    rw [hf] at hp
    have hX := fun l w (h : St w0 b l w) hl => return_write h 0 Gram.none_ a p c _ q hks (hkid q List.mem_cons_self _ hq) hl
    rcases Nat.eq_zero_or_pos need with h0 | h0
    · rw [hp.1 (by omega)] at hlen ⊢
      exact part9 h Gram.none_ 0 a p c a' p' c' need htl _ hX (by omega) hlen
    · rw [hp.2 h0] at hlen ⊢
      exact part9p h Gram.none_ 0 a p c a' p' c' need htl _ hX h0 hlen
theorem write_tree {w0 : World} {b : Nat} (hM : Strs.Max w0) (e : E) (st : Bool) (h : right e st = true) (hw : weight e <= 1048576) : WP w0 b e := (write_both hM e).1 st h hw
end Wri
end Go.Proofs.YtbigfeblomfflaaGreatDoor
