/-
  spec.l9SomeValue draws a right value.
-/
import Derived.Test.YtkmclgofghaeoaaBDrawVal
import Derived.Test.YtkmclgofghaeoaaBNamesMath
import Derived.Test.YtkmclgofghaeoaaBSpecBasA
namespace Go.Proofs.Ytkmclgofghaeoaa.DrawVal
open Go.RowKit
open Strs Sto Bas SpecBas Cur Draw
set_option linter.unusedVariables false
theorem ok_int {n : Int} (h : n ∈ ([0, 1, 2, 3, (-1), 7, 999999999, (-999999999), 50] : List Int)) : valB (intV n) = true := by
  simp only [List.mem_cons, List.not_mem_nil, or_false] at h
  rcases h with rfl | rfl | rfl | rfl | rfl | rfl | rfl | rfl | rfl <;> rfl
theorem ok_text {t : ByteArray} (h : t ∈ ([⟨#[]⟩, ⟨#[97, 98, 99]⟩, ⟨#[105, 116, 39, 115]⟩, ⟨#[49, 50]⟩, ⟨#[45, 53]⟩, ⟨#[97, 116, 58, 112, 117, 116, 58]⟩] : List ByteArray)) : valB (textV t) = true ∧ t.size ≤ 8 := by
  simp only [List.mem_cons, List.not_mem_nil, or_false] at h
  rcases h with rfl | rfl | rfl | rfl | rfl | rfl <;> decide
theorem wf_in {n : Int} (h : -999999999 ≤ n ∧ n ≤ 999999999) : (Lit.int .i64 n).wf = true := by
  simp [Lit.wf, IntKind.min, IntKind.max, IntKind.signed, IntKind.bits]; omega
theorem has_of2 {xs : List ByteArray} {s : ByteArray} (h : s ∈ xs) : Tok.has xs s = true := by
  unfold Tok.has; rw [List.any_eq_true]; exact ⟨s, h, beq_self_eq_true _⟩
theorem sel_one {s : ByteArray} (h : s ∈ Tok.binaries) : Tok.sel s = true := by
  unfold Tok.sel
  rw [has_of2 h]; rfl
theorem ok_sym {t : ByteArray} (h : t ∈ ([⟨#[115, 105, 122, 101]⟩, ⟨#[43]⟩, ⟨#[97, 116, 58, 112, 117, 116, 58]⟩] : List ByteArray)) : valB (symV t) = true ∧ t.size ≤ 8 := by
  have key : valB (symV t) = Tok.sel t := by
    unfold valB symV
    simp only
    rw [if_neg (by decide), if_neg (by decide), if_neg (by decide), if_neg (by decide), if_pos trivial]
    rfl
  rw [key]
  simp only [List.mem_cons, List.not_mem_nil, or_false] at h
  rcases h with rfl | rfl | rfl
  · exact ⟨by simp only [Tok.sel, Tok.has, Tok.keys, Tok.isName, ByteArray.toList_eq]; decide +kernel, by decide⟩
  · exact ⟨by simp only [Tok.sel, Tok.has, Tok.keys, Tok.isName, ByteArray.toList_eq]; decide +kernel, by decide⟩
  · exact ⟨by simp only [Tok.sel, Tok.has, Tok.keys, Tok.isName, ByteArray.toList_eq]; decide +kernel, by decide⟩
theorem ok_ix {k n : Int} (hk : k = 5 ∨ k = 7) (hn : 0 ≤ n) : valB ⟨k, n, ⟨#[]⟩⟩ = true := by
  rcases hk with rfl | rfl
  all_goals
    unfold valB
    simp only
    rw [if_neg (by decide), if_neg (by decide), if_neg (by decide), if_neg (by decide), if_neg (by decide), if_pos (by decide), decide_eq_true hn]
    rfl
set_option maxRecDepth 10000 in
set_option maxHeartbeats 16000000 in
theorem value_any {w : World} {g : Nat} {a : Option Addr} {len cap sb : Nat} {sa : Option Addr} (hc : Cur w g a len cap) (hb : Bytes w g a len) (h0 : w.cell? ⟨sb, 0, none⟩ = some (.slice sa 16 16)) (h1 : w.cell? ⟨sb, 1, none⟩ = some (.slice none 0 0)) (hn : sb ≠ g) :
    Calls Try.prog 11 #[.pointer (some ⟨g, 0, none⟩), .pointer (some ⟨sb, 0, none⟩)] w (Drawn g a len cap w) := by
  have HD := Lib.hid (dr_new hc hb h0 h1 hn 25)
  clear hc hb h0 h1 hn
  have HP9 := Lib.hid (below_keep 9 (by decide) (by decide) HD.out.cur HD.out.bytes)
  unfold Drawn
  go_enter Try.func11, Try.ntmps11
  go_wp2_with fail
  refine HP9.out.mono ?_
  rintro e w1 ⟨x, rfl, hx0, hx1, hc1, -, hg1⟩
  have HD1 := Lib.hid (HD.out.draw hc1 hg1)
  clear hc1 hg1 HP9 HD
  obtain rfl | rfl | rfl | rfl | rfl | rfl | rfl | rfl | rfl : x = 0 ∨ x = 1 ∨ x = 2 ∨ x = 3 ∨ x = 4 ∨ x = 5 ∨ x = 6 ∨ x = 7 ∨ x = 8 := by omega
  · clear hx0 hx1
    obtain ⟨hlt0, a0, a1, a2, fz⟩ := HD1.out.zb
    have HP := Lib.hid (HD1.out.put (.int .i64 (nilV).kind) (.int .i64 (nilV).num) (.string (nilV).text))
    unfold put3 at HP
    go_wp2_with fail
    exact bodyPost_ret (v := vval (nilV)) (by simp [results, Try.results11, go_sem, *]; try rfl) rfl ⟨nilV, rfl, ⟨Nat.zero_le _, by decide⟩, rfl, HP.out.1, HP.out.2.1, HP.out.2.2⟩
  · clear hx0 hx1
    have KO := Lib.hid (once_keep 2 (by decide) (by decide) HD1.out.cur HD1.out.bytes)
    go_wp2_with fail
    refine KO.out.mono ?_
    rintro e w2 ⟨b, rfl, hc2, -, hg2⟩
    have HD2 := Lib.hid (HD1.out.draw hc2 hg2)
    clear hc2 hg2 KO HD1
    go_wp2_with fail
    refine (bool_is b _).mono ?_
    rintro e w3 ⟨rfl, hb3⟩
    have HD3 := Lib.hid (HD2.out.step hb3)
    clear hb3 HD2
    unfold vval
    obtain ⟨hlt0, a0, a1, a2, fz⟩ := HD3.out.zb
    have HP := Lib.hid (HD3.out.put (.int .i64 (boolV b).kind) (.int .i64 (boolV b).num) (.string (boolV b).text))
    unfold put3 at HP
    go_wp2_with fail
    exact bodyPost_ret (v := vval (boolV b)) (by simp [results, Try.results11, go_sem, *]; try rfl) rfl ⟨boolV b, by cases b <;> rfl, ⟨Nat.zero_le _, by cases b <;> decide⟩, rfl, HP.out.1, HP.out.2.1, HP.out.2.2⟩
  · clear hx0 hx1
    have KO := Lib.hid (pickint_lit HD1.out.cur HD1.out.bytes [0, 1, 2, 3, (-1), 7, 999999999, (-999999999), 50] #[.int .i64 0, .int .i64 1, .int .i64 2, .int .i64 3, .int .i64 (-1), .int .i64 7, .int .i64 999999999, .int .i64 (-999999999), .int .i64 50] 9 rfl rfl (by decide) (by decide))
    go_wp2_with fail
    refine KO.out.mono ?_
    rintro e w2 ⟨n, hn, rfl, hc2, -, hg2⟩
    have HD2 := Lib.hid (HD1.out.draw hc2 hg2)
    have HN := Lib.hid (ok_int hn)
    clear hc2 hg2 KO HD1 hn
    go_wp2_with fail
    refine (int_is n _).mono ?_
    rintro e w3 ⟨rfl, hb3⟩
    have HD3 := Lib.hid (HD2.out.step hb3)
    clear hb3 HD2
    unfold vval
    obtain ⟨hlt0, a0, a1, a2, fz⟩ := HD3.out.zb
    have HP := Lib.hid (HD3.out.put (.int .i64 (intV n).kind) (.int .i64 (intV n).num) (.string (intV n).text))
    unfold put3 at HP
    go_wp2_with fail
    exact bodyPost_ret (v := vval (intV n)) (by simp [results, Try.results11, go_sem, *]; try rfl) rfl ⟨intV n, HN.out, ⟨Nat.zero_le _, wf_in ((num_iff _).1 (val_num HN.out rfl))⟩, rfl, HP.out.1, HP.out.2.1, HP.out.2.2⟩
  · clear hx0 hx1
    have KO := Lib.hid (pickint_lit HD1.out.cur HD1.out.bytes [0, 1, 2, 3, (-1), 7, 999999999, (-999999999), 50] #[.int .i64 0, .int .i64 1, .int .i64 2, .int .i64 3, .int .i64 (-1), .int .i64 7, .int .i64 999999999, .int .i64 (-999999999), .int .i64 50] 9 rfl rfl (by decide) (by decide))
    go_wp2_with fail
    refine KO.out.mono ?_
    rintro e w2 ⟨n, hn, rfl, hc2, -, hg2⟩
    have HD2 := Lib.hid (HD1.out.draw hc2 hg2)
    have HN := Lib.hid (ok_int hn)
    clear hc2 hg2 KO HD1 hn
    go_wp2_with fail
    refine (int_is n _).mono ?_
    rintro e w3 ⟨rfl, hb3⟩
    have HD3 := Lib.hid (HD2.out.step hb3)
    clear hb3 HD2
    unfold vval
    obtain ⟨hlt0, a0, a1, a2, fz⟩ := HD3.out.zb
    have HP := Lib.hid (HD3.out.put (.int .i64 (intV n).kind) (.int .i64 (intV n).num) (.string (intV n).text))
    unfold put3 at HP
    go_wp2_with fail
    exact bodyPost_ret (v := vval (intV n)) (by simp [results, Try.results11, go_sem, *]; try rfl) rfl ⟨intV n, HN.out, ⟨Nat.zero_le _, wf_in ((num_iff _).1 (val_num HN.out rfl))⟩, rfl, HP.out.1, HP.out.2.1, HP.out.2.2⟩
  · clear hx0 hx1
    have KO := Lib.hid (pick_lit HD1.out.cur HD1.out.bytes [⟨#[]⟩, ⟨#[97, 98, 99]⟩, ⟨#[105, 116, 39, 115]⟩, ⟨#[49, 50]⟩, ⟨#[45, 53]⟩, ⟨#[97, 116, 58, 112, 117, 116, 58]⟩] #[.string ⟨#[]⟩, .string ⟨#[97, 98, 99]⟩, .string ⟨#[105, 116, 39, 115]⟩, .string ⟨#[49, 50]⟩, .string ⟨#[45, 53]⟩, .string ⟨#[97, 116, 58, 112, 117, 116, 58]⟩] 6 rfl rfl (by decide) (by decide))
    go_wp2_with fail
    refine KO.out.mono ?_
    rintro e w2 ⟨t, hn, rfl, hc2, -, hg2⟩
    have HD2 := Lib.hid (HD1.out.draw hc2 hg2)
    have HN := Lib.hid (ok_text hn)
    clear hc2 hg2 KO HD1 hn
    go_wp2_with fail
    refine (text_is t _).mono ?_
    rintro e w3 ⟨rfl, hb3⟩
    have HD3 := Lib.hid (HD2.out.step hb3)
    clear hb3 HD2
    unfold vval
    obtain ⟨hlt0, a0, a1, a2, fz⟩ := HD3.out.zb
    have HP := Lib.hid (HD3.out.put (.int .i64 (textV t).kind) (.int .i64 (textV t).num) (.string (textV t).text))
    unfold put3 at HP
    go_wp2_with fail
    exact bodyPost_ret (v := vval (textV t)) (by simp [results, Try.results11, go_sem, *]; try rfl) rfl ⟨textV t, HN.out.1, ⟨HN.out.2, by show (Lit.int .i64 0).wf = true; decide⟩, rfl, HP.out.1, HP.out.2.1, HP.out.2.2⟩
  · clear hx0 hx1
    have KO := Lib.hid (pick_lit HD1.out.cur HD1.out.bytes [⟨#[115, 105, 122, 101]⟩, ⟨#[43]⟩, ⟨#[97, 116, 58, 112, 117, 116, 58]⟩] #[.string ⟨#[115, 105, 122, 101]⟩, .string ⟨#[43]⟩, .string ⟨#[97, 116, 58, 112, 117, 116, 58]⟩] 3 rfl rfl (by decide) (by decide))
    go_wp2_with fail
    refine KO.out.mono ?_
    rintro e w2 ⟨t, hn, rfl, hc2, -, hg2⟩
    have HD2 := Lib.hid (HD1.out.draw hc2 hg2)
    have HN := Lib.hid (ok_sym hn)
    clear hc2 hg2 KO HD1 hn
    obtain ⟨hlt0, a0, a1, a2, fz⟩ := HD2.out.zb
    have HP := Lib.hid (HD2.out.put (.int .i64 (symV t).kind) (.int .i64 (symV t).num) (.string (symV t).text))
    unfold put3 at HP
    go_wp2_with fail
    exact bodyPost_ret (v := vval (symV t)) (by simp [results, Try.results11, go_sem, *]; try rfl) rfl ⟨symV t, HN.out.1, ⟨HN.out.2, by show (Lit.int .i64 0).wf = true; decide⟩, rfl, HP.out.1, HP.out.2.1, HP.out.2.2⟩
  · clear hx0 hx1
    have KO := Lib.hid (below_keep 16 (by decide) (by decide) HD1.out.cur HD1.out.bytes)
    have s0 := HD1.out.s0
    go_wp2_with fail
    refine KO.out.mono ?_
    rintro e w2 ⟨n, rfl, hn0, hn1, hc2, -, hg2⟩
    have HD2 := Lib.hid (HD1.out.draw hc2 hg2)
    have HN2 := Lib.hid (wf_in (n := n) (by omega))
    have HN : Hid (valB ⟨5, n, ⟨#[]⟩⟩ = true) := Lib.hid (ok_ix (by omega) hn0)
    clear hc2 hg2 KO HD1 hn0 hn1 s0
    obtain ⟨hlt0, a0, a1, a2, fz⟩ := HD2.out.zb
    have HP := Lib.hid (HD2.out.put (.int .i64 ((⟨5, n, ⟨#[]⟩⟩ : V)).kind) (.int .i64 ((⟨5, n, ⟨#[]⟩⟩ : V)).num) (.string ((⟨5, n, ⟨#[]⟩⟩ : V)).text))
    unfold put3 at HP
    go_wp2_with fail
    exact bodyPost_ret (v := vval ((⟨5, n, ⟨#[]⟩⟩ : V))) (by simp [results, Try.results11, go_sem, *]; try rfl) rfl ⟨(⟨5, n, ⟨#[]⟩⟩ : V), HN.out, ⟨Nat.zero_le _, HN2.out⟩, rfl, HP.out.1, HP.out.2.1, HP.out.2.2⟩
  · clear hx0 hx1
    have KO := Lib.hid (once_keep 3 (by decide) (by decide) HD1.out.cur HD1.out.bytes)
    go_wp2_with fail
    refine KO.out.mono ?_
    rintro e w2 ⟨b, rfl, hc2, -, hg2⟩
    have HD2 := Lib.hid (HD1.out.draw hc2 hg2)
    clear hc2 hg2 KO HD1
    cases b with
    | true =>
      have KB := Lib.hid (below_keep 3 (by decide) (by decide) HD2.out.cur HD2.out.bytes)
      go_wp2_with fail
      refine KB.out.mono ?_
      rintro e w3 ⟨n, rfl, hn0, hn1, hc3, -, hg3⟩
      have HD3 := Lib.hid (HD2.out.draw hc3 hg3)
      have HN2 := Lib.hid (wf_in (n := n) (by omega))
      have HN : Hid (valB ⟨7, n, ⟨#[]⟩⟩ = true) := Lib.hid (ok_ix (by omega) hn0)
      clear hc3 hg3 KB HD2 hn0 hn1
      obtain ⟨hlt0, a0, a1, a2, fz⟩ := HD3.out.zb
      have HP := Lib.hid (HD3.out.put (.int .i64 ((⟨7, n, ⟨#[]⟩⟩ : V)).kind) (.int .i64 ((⟨7, n, ⟨#[]⟩⟩ : V)).num) (.string ((⟨7, n, ⟨#[]⟩⟩ : V)).text))
      unfold put3 at HP
      go_wp2_with fail
      exact bodyPost_ret (v := vval ((⟨7, n, ⟨#[]⟩⟩ : V))) (by simp [results, Try.results11, go_sem, *]; try rfl) rfl ⟨(⟨7, n, ⟨#[]⟩⟩ : V), HN.out, ⟨Nat.zero_le _, HN2.out⟩, rfl, HP.out.1, HP.out.2.1, HP.out.2.2⟩
    | false =>
      have s1 := HD2.out.s1
      go_wp2_with fail
      refine (int_is 4 _).mono ?_
      rintro e w7 ⟨rfl, hb7⟩
      have HD7 := Lib.hid (HD2.out.step hb7)
      clear hb7 HD2 s1
      unfold vval
      obtain ⟨hlt0, a0, a1, a2, fz⟩ := HD7.out.zb
      have HP := Lib.hid (HD7.out.put (.int .i64 (intV 4).kind) (.int .i64 (intV 4).num) (.string (intV 4).text))
      unfold put3 at HP
      go_wp2_with fail
      exact bodyPost_ret (v := vval (intV 4)) (by simp [results, Try.results11, go_sem, *]; try rfl) rfl ⟨intV 4, rfl, ⟨Nat.zero_le _, by decide⟩, rfl, HP.out.1, HP.out.2.1, HP.out.2.2⟩
  · clear hx0 hx1
    have s1 := HD1.out.s1
    go_wp2_with fail
    refine (int_is 4 _).mono ?_
    rintro e w7 ⟨rfl, hb7⟩
    have HD7 := Lib.hid (HD1.out.step hb7)
    clear hb7 HD1 s1
    unfold vval
    obtain ⟨hlt0, a0, a1, a2, fz⟩ := HD7.out.zb
    have HP := Lib.hid (HD7.out.put (.int .i64 (intV 4).kind) (.int .i64 (intV 4).num) (.string (intV 4).text))
    unfold put3 at HP
    go_wp2_with fail
    exact bodyPost_ret (v := vval (intV 4)) (by simp [results, Try.results11, go_sem, *]; try rfl) rfl ⟨intV 4, rfl, ⟨Nat.zero_le _, by decide⟩, rfl, HP.out.1, HP.out.2.1, HP.out.2.2⟩
end Go.Proofs.Ytkmclgofghaeoaa.DrawVal
