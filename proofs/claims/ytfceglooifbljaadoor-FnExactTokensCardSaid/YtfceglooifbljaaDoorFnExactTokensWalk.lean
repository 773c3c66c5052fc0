/-
  The walk of laws.FnExactTokens: it returns true at every text.
-/
import Derived.Test.YtfceglooifbljaaDoorToks
import Derived.Test.YtfceglooifbljaaDoorImplTokens
import Derived.OpenShut
namespace Go.Proofs.YtfceglooifbljaaDoor.fnExactTokensW
open Go.RowKit
open Strs Toks SpecTokens

theorem spec_any (s : ByteArray) (w : World) (hs : s.size ≤ 1048576) :
    Calls Tryd.prog 4 #[.string s] w (SpecTokens.Read (Tok.tokens s) w) := by
  by_cases h : 4000 < s.size
  · exact SpecTokens.tokens_big s w hs h
  · exact SpecTokens.tokens_small s w h

set_option maxHeartbeats 2000000 in
theorem walk (s : ByteArray) (hm : s.size ≤ maxLen) (w : World) (hM : Max w) :
    Calls Tryd.prog 3 #[.string s] w fun e w' => e = .returned (.bool true) ∧ Below w.heap.size w w' := by
  unfold maxLen at hm
  by_cases hbig : (1048576 : Int) < (s.size : Int)
  · go_enter Tryd.func3, Tryd.ntmps3
    go_wp2_with fail
    go_ret
    exact ⟨rfl, Below.refl _ _⟩
  · have hs : s.size ≤ 1048576 := by omega
    have HS := fun w => Lib.hid ((spec_any s w hs).mono fun e w' h => read_form h)
    have HI := fun w h => Lib.hid ((ImplTokens.tokens_any s w h).mono fun e w' h => read_form h)
    have hlen := tokens_len s
    generalize (Tok.tokens s).getD [] = ts at *
    generalize (Tok.tokens s).isSome = ok at *
    have hrl := row_len ts
    go_enter Tryd.func3, Tryd.ntmps3
    go_wp2_with fail
    refine (HS w).out.mono ?_
    rintro e w1 ⟨v0, rfl, ho0, hb1⟩
    have A0 := Lib.hid (at_own ho0); clear ho0
    have M1 := Lib.hid (hM.keep hb1)
    go_wp2_with fail
    refine (HI w1 M1.out).out.mono ?_
    rintro e w2 ⟨v1, rfl, ho1, hb2⟩
    have A1 := Lib.hid (at_own ho1)
    have O1 := Lib.hid ho1; clear ho1
    have B2 := Lib.hid hb2; clear hb2
    go_wp2_with fail
    refine (eq_same (by omega) A1.out (A0.out.keep B2.out)).mono ?_
    rintro e w3 ⟨rfl, hb3⟩
    have O3 := Lib.hid (own_keep O1.out hb3)
    go_wp2_with fail
    refine (mark_any 1 hrl (by omega) (by omega) O3.out).mono ?_
    rintro e w4 ⟨rfl, ho4, hb4⟩
    have O4 := Lib.hid ho4; clear ho4
    have B14 : Hid (Below w1.heap.size w1 w4) := (B2.out.trans (hb3.mono B2.out.size)).trans hb4
    clear hb3 hb4 O3 O1 B2 A1
    go_wp2_with fail
    refine (held_any 1 (by omega) (by omega) O4.out).mono ?_
    rintro e w5 ⟨rfl, hb5⟩
    have O5 := Lib.hid (own_keep O4.out hb5)
    have B15 : Hid (Below w1.heap.size w1 w5) := B14.out.trans (hb5.mono B14.out.size)
    clear hb5 O4 B14
    go_wp2_with fail
    refine (HI w5 (M1.out.keep B15.out)).out.mono ?_
    rintro e w6 ⟨v2, rfl, ho6, hb6⟩
    have A2 := Lib.hid (at_own ho6); clear ho6
    have O6 := Lib.hid (own_keep O5.out hb6)
    have B16 : Hid (Below w1.heap.size w1 w6) := B15.out.trans (hb6.mono B15.out.size)
    clear hb6 O5 B15
    go_wp2_with fail
    refine (eq_same (by omega) A2.out (A0.out.keep B16.out)).mono ?_
    rintro e w7 ⟨rfl, hb7⟩
    have O7 := Lib.hid (own_keep O6.out hb7)
    have B17 : Hid (Below w1.heap.size w1 w7) := B16.out.trans (hb7.mono B16.out.size)
    clear hb7 O6 B16
    go_wp2_with fail
    refine (held_any 1 (by omega) (by omega) O7.out).mono ?_
    rintro e w8 ⟨rfl, hb8⟩
    have B18 : Hid (Below w1.heap.size w1 w8) := B17.out.trans (hb8.mono B17.out.size)
    clear hb8 O7 B17
    go_wp2_with fail
    go_ret
    exact ⟨rfl, hb1.trans (B18.out.mono hb1.size)⟩
end Go.Proofs.YtfceglooifbljaaDoor.fnExactTokensW
