/-
  impl.FormatToken answers the text of a token. It writes nothing that was there. The token's text has at most 1048576 bytes.
-/
import Derived.Test.YtamjfbjkdicmcaaGreatDoorBImplFmt
import Derived.Test.YtamjfbjkdicmcaaGreatDoorBMax
import Derived.Test.YtamjfbjkdicmcaaGreatDoorBReadMath
namespace Go.Proofs.YtamjfbjkdicmcaaGreatDoor.ImplFormat
open Go.RowKit
open Strs
set_option maxHeartbeats 1000000 in
theorem fmt_int (t : ByteArray) (n : Int) (w : World) (h1 : -9223372036854775808 ≤ n) (h2 : n ≤ 9223372036854775807) :
    Calls Tryz.prog 8 #[.agg #[.int .i64 3, .string t, .int .i64 n]] w fun e w' => e = .returned (.string ⟨(Tok.fmt 3 t.data.toList n).toArray⟩) ∧ Below w.heap.size w w' := by
  have HV : Hid (Tok.fmt 3 t.data.toList n = Num.intText n) := rfl
  go_enter Tryz.func8, Tryz.ntmps8
  go_wp2_with fail
  refine (ImplFmt.fmt_any n _ h1 h2).mono ?_
  rintro e w1 ⟨rfl, hb1⟩
  go_wp2_with fail
  go_ret
  exact ⟨by rw [HV.out]; rfl, ((Below.refl _ _).alloc (Nat.le_refl _) _).trans (hb1.mono (by simp))⟩
theorem esc_size (t : ByteArray) : (⟨(Tok.esc t.data.toList).toArray⟩ : ByteArray).size ≤ 2 * t.size := by
  rw [← Tok.len_list, ← Tok.len_list t]
  exact Tok.esc_len t.data.toList
set_option maxHeartbeats 1000000 in
theorem fmt_text (t : ByteArray) (n : Int) (w : World) (hM : Max w) (ht : t.size ≤ 1048576) :
    Calls Tryz.prog 8 #[.agg #[.int .i64 4, .string t, .int .i64 n]] w fun e w' => e = .returned (.string ⟨(Tok.fmt 4 t.data.toList n).toArray⟩) ∧ Below w.heap.size w w' := by
  have HV : Hid ((⟨(Tok.fmt 4 t.data.toList n).toArray⟩ : ByteArray) = ⟨#[39]⟩ ++ ⟨(Tok.esc t.data.toList).toArray⟩ ++ ⟨#[39]⟩) := by
    show _ = _
    apply Tok.ba_ext
    rw [ByteArray.data_append, ByteArray.data_append, Array.toList_append, Array.toList_append]
    show (39 :: Tok.esc t.data.toList ++ [39]) = _
    simp
  have hsz := esc_size t
  have KR := fun w h => Lib.hid (rep_any t ⟨#[39]⟩ ⟨#[39, 39]⟩ w h ht (by decide) (by decide))
  have HE : Hid (Lib.replaceAll t.data.toList (⟨#[39]⟩ : ByteArray).data.toList (⟨#[39, 39]⟩ : ByteArray).data.toList = Tok.esc t.data.toList) := Tok.esc_rep t.data.toList
  simp only [HE.out] at KR
  clear HE
  generalize (⟨(Tok.esc t.data.toList).toArray⟩ : ByteArray) = x at *
  have hadd : ∀ W, (Op.stringOp .add ⟨#[39]⟩ x).run Tryz.prog W = .ok (.string (⟨#[39]⟩ ++ x)) W := fun W => run_string_add_sum W _ _ (by show 1 + x.size ≤ _; omega)
  have hsz2 : (⟨#[39]⟩ ++ x : ByteArray).size = 1 + x.size := by rw [ByteArray.size_append]; rfl
  have hadd2 : ∀ W, (Op.stringOp .add (⟨#[39]⟩ ++ x) ⟨#[39]⟩).run Tryz.prog W = .ok (.string (⟨#[39]⟩ ++ x ++ ⟨#[39]⟩)) W := fun W => run_string_add_sum W _ _ (by rw [hsz2]; show 1 + x.size + 1 ≤ _; omega)
  go_enter Tryz.func8, Tryz.ntmps8
  go_wp2_with fail
  refine (KR _ (hM.keep ((Below.refl _ _).alloc (Nat.le_refl _) _))).out.mono ?_
  rintro e w1 ⟨rfl, hb1⟩
  go_wp2_with fail
  go_ret
  exact ⟨by rw [HV.out]; rfl, ((Below.refl _ _).alloc (Nat.le_refl _) _).trans (hb1.mono (by simp))⟩
set_option maxHeartbeats 1000000 in
theorem fmt_symbol (t : ByteArray) (n : Int) (w : World) (ht : t.size ≤ 1048576) :
    Calls Tryz.prog 8 #[.agg #[.int .i64 5, .string t, .int .i64 n]] w fun e w' => e = .returned (.string ⟨(Tok.fmt 5 t.data.toList n).toArray⟩) ∧ Below w.heap.size w w' := by
  have HV : Hid ((⟨(Tok.fmt 5 t.data.toList n).toArray⟩ : ByteArray) = ⟨#[35]⟩ ++ t) := by
    show _ = _
    apply ByteArray.ext
    rw [ByteArray.data_append]
    show (35 :: t.data.toList).toArray = #[35] ++ t.data
    apply Array.toList_inj.1
    simp
  go_enter Tryz.func8, Tryz.ntmps8
  go_wp2_with fail
  go_ret
  exact ⟨by rw [HV.out]; rfl, (Below.refl _ _).alloc (Nat.le_refl _) _⟩
set_option maxHeartbeats 1000000 in
theorem fmt_plain (k : Int) (t : ByteArray) (n : Int) (w : World) (h3 : k ≠ 3) (h4 : k ≠ 4) (h5 : k ≠ 5) :
    Calls Tryz.prog 8 #[.agg #[.int .i64 k, .string t, .int .i64 n]] w fun e w' => e = .returned (.string ⟨(Tok.fmt k t.data.toList n).toArray⟩) ∧ Below w.heap.size w w' := by
  have HV : Hid ((⟨(Tok.fmt k t.data.toList n).toArray⟩ : ByteArray) = t) := by
    show _ = _; unfold Tok.fmt; rw [if_neg h3, if_neg h4, if_neg h5]
  have t3 : (k == 3) = false := by rw [beq_eq_false_iff_ne]; exact h3
  have t4 : (k == 4) = false := by rw [beq_eq_false_iff_ne]; exact h4
  have t5 : (k == 5) = false := by rw [beq_eq_false_iff_ne]; exact h5
  clear h3 h4 h5
  go_enter Tryz.func8, Tryz.ntmps8
  go_wp2_with fail
  go_ret
  exact ⟨by rw [HV.out]; rfl, (Below.refl _ _).alloc (Nat.le_refl _) _⟩
theorem fmt_any (k : Int) (t : ByteArray) (n : Int) (w : World) (hM : Max w) (ht : t.size ≤ 1048576) (h1 : -9223372036854775808 ≤ n) (h2 : n ≤ 9223372036854775807) :
    Calls Tryz.prog 8 #[.agg #[.int .i64 k, .string t, .int .i64 n]] w fun e w' => e = .returned (.string ⟨(Tok.fmt k t.data.toList n).toArray⟩) ∧ Below w.heap.size w w' := by
  by_cases h3 : k = 3
  · subst h3; exact fmt_int t n w h1 h2
  · by_cases h4 : k = 4
    · subst h4; exact fmt_text t n w hM ht
    · by_cases h5 : k = 5
      · subst h5; exact fmt_symbol t n w ht
      · exact fmt_plain k t n w h3 h4 h5
end Go.Proofs.YtamjfbjkdicmcaaGreatDoor.ImplFormat
