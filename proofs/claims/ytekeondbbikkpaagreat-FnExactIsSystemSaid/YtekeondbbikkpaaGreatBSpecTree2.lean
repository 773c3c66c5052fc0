/-
  spec.l3Size, l3Depth, SizeOfExpr and DepthOfExpr: what they answer of every tree.
  spec.l3IsText, l1In, l3Left: what they answer.
-/
import Derived.Test.YtekeondbbikkpaaGreatBTexts
import Derived.Test.YtekeondbbikkpaaGreatBTreeOk
namespace Go.Proofs.YtekeondbbikkpaaGreat.SpecTree
open Go.RowKit
open Strs Tree Texts
structure Arg (w : World) (vn vk : Value) (wr : World) : Prop where
  below : Below w.heap.size w wr
  size : w.heap.size + 1 ≤ wr.heap.size
  a3 : wr.cell? ⟨w.heap.size, 3, none⟩ = some vn
  a4 : wr.cell? ⟨w.heap.size, 4, none⟩ = some vk
theorem Arg.step {w wr w' : World} {vn vk : Value} (h : Arg w vn vk wr) (hb : Below wr.heap.size wr w') : Arg w vn vk w' :=
  ⟨h.below.trans (hb.mono (by have := h.size; omega)), Nat.le_trans h.size hb.size, cell_keep hb h.a3, cell_keep hb h.a4⟩
theorem arg_new (w : World) (k : Int) (t : ByteArray) (n : Int) (vn vk : Value) (T : TypeId) : Arg w vn vk (w.alloc (Obj.cells #[Value.int IntKind.i64 k, Value.string t, Value.int IntKind.i64 n, vn, vk] T)) := by
  refine ⟨(Below.refl _ _).alloc (Nat.le_refl _) _, by simp, ?_, ?_⟩
  all_goals go_simp
theorem max_any (a b : Nat) (w : World) :
    Calls Tryz.prog 81 #[.int .i64 a, .int .i64 b] w fun r w' => r = .returned (.int .i64 (max a b : Nat)) ∧ w = w' := by
  by_cases h : (b : Int) < (a : Int)
  · rw [show max a b = a by omega]
    go_enter Tryz.func81, Tryz.ntmps81
    go_wp2_with fail
    go_ret
    exact ⟨rfl, rfl⟩
  · rw [show max a b = b by omega]
    go_enter Tryz.func81, Tryz.ntmps81
    go_wp2_with fail
    go_ret
    exact ⟨rfl, rfl⟩
end Go.Proofs.YtekeondbbikkpaaGreat.SpecTree

namespace Go.Proofs.YtekeondbbikkpaaGreat.SpecTree
open Go.RowKit
open Strs Tree Texts
theorem in_any (a b c : Int) (w : World) :
    Calls Tryz.prog 16 #[.int .i64 a, .int .i64 b, .int .i64 c] w fun r w' => r = .returned (.bool (decide (b ≤ a ∧ a ≤ c))) ∧ w = w' := by
  generalize hD : decide (b ≤ a ∧ a ≤ c) = D
  have HD := Lib.hid hD; clear hD
  by_cases h1 : b ≤ a
  · by_cases h2 : a ≤ c
    · have hD : D = true := by rw [← HD.out]; exact decide_eq_true ⟨h1, h2⟩
      subst hD
      go_enter Tryz.func16, Tryz.ntmps16
      go_wp2_with fail
      go_ret
      exact ⟨rfl, rfl⟩
    · have hD : D = false := by rw [← HD.out]; exact decide_eq_false (fun h => h2 h.2)
      subst hD
      go_enter Tryz.func16, Tryz.ntmps16
      go_wp2_with fail
      go_ret
      exact ⟨rfl, rfl⟩
  · have hD : D = false := by rw [← HD.out]; exact decide_eq_false (fun h => h1 h.1)
    subst hD
    go_enter Tryz.func16, Tryz.ntmps16
    go_wp2_with fail
    go_ret
    exact ⟨rfl, rfl⟩
set_option maxHeartbeats 1000000 in
theorem istext_any (s : ByteArray) (w : World) (hs : s.size ≤ maxLen) :
    Calls Tryz.prog 59 #[.string s] w fun r w' => r = .returned (.bool (isText s)) ∧ w = w' := by
  unfold maxLen at hs
  generalize hD : isText s = D
  have HD := Lib.hid hD; clear hD
  go_enter Tryz.func59, Tryz.ntmps59
  go_wp2_with fail
  go_loop [3] (fun j => ∃ i : Nat, i ≤ s.size ∧ j = .int .i64 i ∧ Hid (∀ k (h : k < s.size), k < i → 32 ≤ s[k].toNat ∧ s[k].toNat ≤ 126)) (fun j => s.size - (intOf j).toNat)
  case atStart => exact ⟨0, by omega, rfl, fun k _ h => by omega⟩
  case round =>
    obtain ⟨i, hi, rfl, HR⟩ := hrel
    by_cases hlt : i < s.size
    · have hlt' : i < s.data.toList.length := by rw [Array.length_toList]; exact hlt
      have HX : Hid (s.data.toList[i]'hlt' = s[i]'hlt) := rfl
      have HNO : Hid (¬ (32 ≤ (s[i]'hlt).toNat ∧ (s[i]'hlt).toNat ≤ 126) → D = false) := by
        intro h
        rw [← HD.out]
        unfold isText
        rw [show s.data.toList.all (fun b => decide (32 ≤ b.toNat) && decide (b.toNat ≤ 126)) = false by
          rw [List.all_eq_false]
          exact ⟨s[i]'hlt, List.getElem_mem hlt', by simpa using h⟩]
        rfl
      by_cases h1 : ((s[i]'hlt).toNat : Int) < 32
      · have hD : D = false := HNO.out (by omega)
        subst hD
        go_wp2_with fail
        go_ret
        exact ⟨rfl, rfl⟩
      · by_cases h2 : (126 : Int) < ((s[i]'hlt).toNat : Int)
        · have hD : D = false := HNO.out (by omega)
          subst hD
          go_wp2_with fail
          go_ret
          exact ⟨rfl, rfl⟩
        · have HN : Hid (∀ k (h : k < s.size), k < i + 1 → 32 ≤ s[k].toNat ∧ s[k].toNat ≤ 126) := by
            intro k hk hki
            by_cases e : k = i
            · subst e; omega
            · exact HR.out k hk (by omega)
          clear HNO HX
          go_wp2_with fail
          go_round
          case rel => exact ⟨i + 1, by omega, by go_num, HN⟩
          case measure => simp [intOf]; omega
    · have HA : Hid (s.data.toList.all (fun b => decide (32 ≤ b.toNat) && decide (b.toNat ≤ 126)) = true) := by
        show _ = _
        rw [List.all_eq_true]
        intro b hb
        obtain ⟨k, hk, rfl⟩ := List.getElem_of_mem hb
        rw [Array.length_toList] at hk
        have hk2 : k < s.size := hk
        have h4 := HR.out k hk2 (by omega)
        simp only [Bool.and_eq_true, decide_eq_true_eq]
        exact h4
      by_cases h3 : (s.size : Int) ≤ 40
      · have hD : D = true := by rw [← HD.out]; unfold isText; rw [HA.out, decide_eq_true (by omega)]; rfl
        subst hD
        go_wp2_with fail
        go_ret
        exact ⟨rfl, rfl⟩
      · have hD : D = false := by rw [← HD.out]; unfold isText; rw [HA.out, decide_eq_false (by omega)]; rfl
        subst hD
        go_wp2_with fail
        go_ret
        exact ⟨rfl, rfl⟩
end Go.Proofs.YtekeondbbikkpaaGreat.SpecTree
