/-
  The walk of laws.FnExactJoin: it returns true at every list of texts and every separator.
-/
import Derived.Test.YtcjjlciamalnfaaJoinWalks
namespace Go.Proofs.Ytcjjlciamalnfaa.fnExactJoinW
open Go.RowKit
open Strs JoinMath JoinWalks

theorem lies_own {w : World} {g base n : Nat} {xs : List ByteArray} (hn : xs.length = n) (h : w.ownsRow base 9 1 (.slice (some ⟨g, 0, none⟩) n n) n (xs.map Value.string)) : Lies w g 0 xs ∧ g < w.heap.size := by
  refine ⟨fun j hj => ?_, (h.lt g rfl).2⟩
  rw [Nat.zero_add, h.cellAt j (by omega)]
  simp [at_, List.getD, hj]

set_option maxHeartbeats 2000000 in
theorem walk (w : World) (a : Option Addr) (len cap : Nat) (zs : List ByteArray) (hz : Kit.IsStrs w a len cap zs) (sep : ByteArray) (hm : sep.size ≤ maxLen) :
    Calls Try.prog 8 #[.slice a len cap, .string sep] w fun e w' => e = .returned (.bool true) ∧ Below w.heap.size w w' := by
  unfold maxLen at hm
  by_cases hbig : (1048576 : Int) < (sep.size : Int)
  · go_enter Try.func8, Try.ntmps8
    go_wp2_with fail
    go_ret
    exact ⟨rfl, Below.refl _ _⟩
  · have hs : sep.size ≤ 1048576 := by omega
    obtain ⟨xs, hxs, HSZ, HTO⟩ : ∃ xs : List ByteArray, xs.length = len ∧ Hid (Calls Try.prog 24 #[.slice a len cap, .int .i64 1048576] w (Small xs w)) ∧
        Hid (len ≤ 1048576 → ∀ w', Below w.heap.size w w' → Calls Try.prog 26 #[.slice a len cap] w' (Copied xs len w')) := by
      rcases hz with ⟨rfl, rfl, rfl, rfl⟩ | ⟨x, rfl, hl, hm2, hlen, hc, hsz⟩
      · exact ⟨[], rfl, sz_nil none 0 w, fun _ w' _ => to_nil none 0 w'⟩
      · by_cases h0 : len = 0
        · subst h0
          exact ⟨[], rfl, sz_nil _ _ w, fun _ w' _ => to_nil _ _ w'⟩
        · obtain ⟨b, off, spot⟩ := x
          have hc0 := hc 0 (by omega)
          have hspot : spot = none := by simpa [Addr.add] using World.cell?_spot hc0
          subst hspot
          have hL : Lies w b off (zs.take len) := by
            intro j hj
            rw [List.length_take] at hj
            have h1 := hc j (by omega)
            have e : (⟨b, off, none⟩ : Addr).add j = ⟨b, off + j, none⟩ := by unfold Addr.add; split <;> simp_all
            rw [e] at h1
            rw [h1]
            have h2 : j < zs.length := by omega
            have h3 : j < (zs.take len).length := by rw [List.length_take]; omega
            simp [at_, List.getD, h2, show j < len by omega]
          have hl2 : (zs.take len).length = len := by rw [List.length_take]; omega
          refine ⟨zs.take len, hl2, sz_cons b off cap len _ w hl2 (by omega) hL (fun j hj => ?_), fun hle w' hb => to_cons b off cap len _ w' hl2 hle (hL.keep hb)⟩
          have h2 : j < zs.length := by omega
          have e : at_ (zs.take len) j = zs[j] := by simp [at_, List.getD, h2, hj]
          rw [e]; exact hsz _ (List.getElem_mem h2)
    clear hz
    have HX := Lib.hid hxs; clear hxs
    go_enter Try.func8, Try.ntmps8
    go_wp2_with fail
    refine HSZ.out.mono ?_
    rintro e w1 ⟨r, rfl, hr, hr1, hr2, rfl⟩
    have HR := Lib.hid hr; clear hr
    by_cases hneg : r < 0
    · go_wp2_with fail
      go_ret
      exact ⟨rfl, Below.refl _ _⟩
    · obtain ⟨hn, ht⟩ := HR.out (by omega)
      rw [HX.out] at hn ht
      have HT := Lib.hid ht; clear ht
      go_wp2_with fail
      refine (HTO.out hn w (Below.refl _ _)).mono ?_
      rintro e w1 ⟨rfl, ho1, hb1⟩
      obtain ⟨hL1, hg1⟩ := lies_own HX.out ho1
      have L1 := Lib.hid hL1; clear hL1 ho1
      generalize hG : w.heap.size = g1 at *
      have HG := Lib.hid hG; clear hG
      go_wp2_with fail
      refine (spec_some g1 0 len len xs sep w1 HX.out L1.out HT.out hn hs).mono ?_
      rintro e w2 ⟨rfl, hb2⟩
      have B2 : Hid (Below g1 w w2) := hb1.trans (hb2.mono (by omega))
      clear hb2 hb1 L1
      go_wp2_with fail
      refine (HTO.out hn w2 B2.out).mono ?_
      rintro e w3 ⟨rfl, ho3, hb3⟩
      obtain ⟨hL3, hg3⟩ := lies_own HX.out ho3
      have O3 := Lib.hid ho3
      have L3 := Lib.hid hL3; clear hL3 ho3
      have B3 : Hid (Below g1 w w3) := B2.out.trans (hb3.mono (by have := B2.out.size; rw [HG.out] at this; exact this))
      clear hb3
      generalize hG2 : w2.heap.size = g2 at *
      have HG2 := Lib.hid hG2; clear hG2
      go_wp2_with fail
      refine (impl_some g2 0 len len xs sep w3 HX.out L3.out (by omega) (Nat.le_refl _) HT.out hn hs).mono ?_
      rintro e w4 ⟨rfl, hb4⟩
      have O4 := Lib.hid (own_keep O3.out hb4)
      have B4 : Hid (Below g1 w w4) := B3.out.trans (hb4.mono (by have := B3.out.size; rw [HG.out] at this; exact this))
      clear hb4 L3 O3 B3 B2
      generalize Out xs sep = o at *
      go_wp2_with fail
      refine (HTO.out hn w4 B4.out).mono ?_
      rintro e w5 ⟨rfl, ho5, hb5⟩
      have A5 : Hid (At w5 (.slice (some ⟨w4.heap.size, 0, none⟩) len len) xs) := by
        have := HX.out; subst this; exact at_own ho5
      have A4 : Hid (At w5 (.slice (some ⟨g2, 0, none⟩) len len) xs) := by
        have := HX.out; subst this; exact at_own (own_keep O4.out hb5)
      have B5 : Hid (Below g1 w w5) := B4.out.trans (hb5.mono (by have := B4.out.size; rw [HG.out] at this; exact this))
      clear hb5 O4 B4 ho5
      go_wp2_with fail
      refine (eq_same A4.out A5.out).mono ?_
      rintro e w6 ⟨rfl, hb6⟩
      have B6 : Hid (Below g1 w w6) := B5.out.trans (hb6.mono (by have := B5.out.size; rw [HG.out] at this; exact this))
      go_wp2_with fail
      go_ret
      exact ⟨rfl, by rw [HG.out]; exact B6.out⟩
end Go.Proofs.Ytcjjlciamalnfaa.fnExactJoinW
