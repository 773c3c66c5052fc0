/-
  strings.CutSuffix, strings.Count at one byte and strings.HasPrefix answer as the library's contracts say, at this program's own numbers.
  impl's binary operators, the first one of a list with which a text begins, and whether a text is an operator. They write nothing that was there.
-/
import Derived.Test.YtekeondbbikkpaaGreatBImplTok
import Derived.Shelf.Small.Wraps
import Derived.Shelf.Strings.Count
import Derived.Shelf.Strings.Prefix
import Derived.Test.YtekeondbbikkpaaGreatRows
import Derived.Deep.RegionHeld3
namespace Go.Proofs.YtekeondbbikkpaaGreat.Shelf
open Go.Shelf
def lays104_ren : Go.Shelf.Ren := ⟨fun | 104 => 73 | 211 => 93 | 207 => 106 | n => n, fun | 9 => 9 | 4 => 4 | 24 => 107 | 3 => 3 | n => n, fun | n => n⟩
theorem lays104 : Go.Proofs.Lays.n104 Tryz.prog lays104_ren := {
  mixed := by kernel_rfl
  f104 := Tryz.func73.trans (congrArg some (by kernel_rfl))
  f207 := Tryz.func106.trans (congrArg some (by kernel_rfl))
  f211 := Tryz.func93.trans (congrArg some (by kernel_rfl))
  t3 := Tryz.underlying3
  a3 := Tryz.isAgg3
  z3 := Tryz.sizeOf3
  v3 := Tryz.zeroValue3
  t4 := Tryz.underlying4
  a4 := Tryz.isAgg4
  z4 := Tryz.sizeOf4
  v4 := Tryz.zeroValue4
  t9 := Tryz.underlying9
  a9 := Tryz.isAgg9
  z9 := Tryz.sizeOf9
  v9 := Tryz.zeroValue9
  t24 := Tryz.underlying107
  a24 := Tryz.isAgg107
  z24 := Tryz.sizeOf107
  v24 := Tryz.zeroValue107 }
open Go.RowKit in
theorem strings_CutSuffix (s p : ByteArray) (w : World) (hs : s.size ≤ 9223372036854775807) :
    Calls Tryz.prog 73 #[.string s, .string p] w fun e w' => e = .returned (.tuple #[.string ⟨(Lib.trimSuffix s.data.toList p.data.toList).toArray⟩, .bool (Lib.hasSuffix s.data.toList p.data.toList)]) ∧ w' = w := Any.strings_CutSuffix lays104 s p w hs
def lays138_ren : Go.Shelf.Ren := ⟨fun | 138 => 72 | 195 => 90 | 218 => 91 | 143 => 92 | 219 => 105 | 217 => 114 | 225 => 115 | 224 => 116 | 267 => 117 | 266 => 119 | 314 => 120 | n => n, fun | 9 => 9 | 3 => 3 | 4 => 4 | 5 => 5 | 0 => 0 | 46 => 134 | 146 => 136 | 51 => 135 | n => n, fun | 1 => 0 | n => n⟩
theorem lays138 : Go.Proofs.Lays.n138 Tryz.prog lays138_ren := {
  mixed := by kernel_rfl
  f138 := Tryz.func72.trans (congrArg some (by kernel_rfl))
  f143 := Tryz.func92.trans (congrArg some (by kernel_rfl))
  f195 := Tryz.func90.trans (congrArg some (by kernel_rfl))
  f217 := Tryz.func114.trans (congrArg some (by kernel_rfl))
  f218 := Tryz.func91.trans (congrArg some (by kernel_rfl))
  f219 := Tryz.func105.trans (congrArg some (by kernel_rfl))
  f224 := Tryz.func116.trans (congrArg some (by kernel_rfl))
  f225 := Tryz.func115.trans (congrArg some (by kernel_rfl))
  f266 := Tryz.func119.trans (congrArg some (by kernel_rfl))
  f267 := Tryz.func117.trans (congrArg some (by kernel_rfl))
  f314 := Tryz.func120.trans (congrArg some (by kernel_rfl))
  t0 := Tryz.underlying0
  a0 := Tryz.isAgg0
  z0 := Tryz.sizeOf0
  v0 := Tryz.zeroValue0
  t3 := Tryz.underlying3
  a3 := Tryz.isAgg3
  z3 := Tryz.sizeOf3
  v3 := Tryz.zeroValue3
  t4 := Tryz.underlying4
  a4 := Tryz.isAgg4
  z4 := Tryz.sizeOf4
  v4 := Tryz.zeroValue4
  t5 := Tryz.underlying5
  a5 := Tryz.isAgg5
  z5 := Tryz.sizeOf5
  v5 := Tryz.zeroValue5
  t9 := Tryz.underlying9
  a9 := Tryz.isAgg9
  z9 := Tryz.sizeOf9
  v9 := Tryz.zeroValue9
  t46 := Tryz.underlying134
  a46 := Tryz.isAgg134
  z46 := Tryz.sizeOf134
  v46 := Tryz.zeroValue134
  t51 := Tryz.underlying135
  a51 := Tryz.isAgg135
  z51 := Tryz.sizeOf135
  v51 := Tryz.zeroValue135
  t146 := Tryz.underlying136
  a146 := Tryz.isAgg136
  z146 := Tryz.sizeOf136
  v146 := Tryz.zeroValue136
  g1 := by kernel_rfl }
open Go.RowKit Go.Lib in
theorem strings_Count_one (s : ByteArray) (c : UInt8) (w : World) :
    Calls Tryz.prog 72 #[.string s, .string ⟨#[c]⟩] w fun e w' => e = .returned (.int .i64 (Lib.countByte s.data.toList c)) ∧ w' = w := Any.strings_Count_one lays138 s c w
def lays99_ren : Go.Shelf.Ren := ⟨fun | 99 => 104 | 206 => 113 | n => n, fun | 9 => 9 | 4 => 4 | 3 => 3 | n => n, fun | n => n⟩
theorem lays99 : Go.Proofs.Lays.n99 Tryz.prog lays99_ren := {
  mixed := by kernel_rfl
  f99 := Tryz.func104.trans (congrArg some (by kernel_rfl))
  f206 := Tryz.func113.trans (congrArg some (by kernel_rfl))
  t3 := Tryz.underlying3
  a3 := Tryz.isAgg3
  z3 := Tryz.sizeOf3
  v3 := Tryz.zeroValue3
  t4 := Tryz.underlying4
  a4 := Tryz.isAgg4
  z4 := Tryz.sizeOf4
  v4 := Tryz.zeroValue4
  t9 := Tryz.underlying9
  a9 := Tryz.isAgg9
  z9 := Tryz.sizeOf9
  v9 := Tryz.zeroValue9 }
open Go.RowKit Go.Lib in
theorem strings_HasPrefix (s p : ByteArray) (w : World) :
    Calls Tryz.prog 104 #[.string s, .string p] w fun e w' => e = .returned (.bool (Lib.hasPrefix s.data.toList p.data.toList)) ∧ w' = w := Any.strings_HasPrefix lays99 s p w
end Go.Proofs.YtekeondbbikkpaaGreat.Shelf

namespace Go.Proofs.YtekeondbbikkpaaGreat.ImplSigns
open Go.RowKit
open Strs
def List (xs : _root_.List ByteArray) (w : World) (e : Ending) (w' : World) : Prop := ∃ a c, e = .returned (.slice a xs.length c) ∧ At w' (.slice a xs.length c) xs ∧ Below w.heap.size w w'
theorem list_at (w : World) (C : Array Value) (xs : _root_.List ByteArray) (n : Nat) (hn : xs.length = n) (hm : n ≤ 1048576) (hC : ∀ j, j < n → C[j]? = some (.string (xs.getD j ByteArray.empty))) :
    List xs w (.returned (.slice (some ⟨w.heap.size, 0, none⟩) n n)) (w.alloc (.cells C 9)) := by
  subst hn
  refine ⟨_, _, rfl, ⟨_, _, rfl, by unfold maxLen; omega, fun _ => ⟨_, 0, rfl, fun j hj => ?_⟩⟩, (Below.refl _ _).alloc (Nat.le_refl _) _⟩
  rw [Nat.zero_add, World.cell?_alloc_mark w _ _ (0, 0) j]
  exact hC j hj
theorem binaries_any (w : World) : Calls Tryz.prog 89 #[] w (List Tok.binaries w) := by
  go_enter Tryz.func89, Tryz.ntmps89
  go_wp2
  go_ret
  refine list_at w _ Tok.binaries 15 rfl (by omega) (fun j hj => ?_)
  obtain rfl | rfl | rfl | rfl | rfl | rfl | rfl | rfl | rfl | rfl | rfl | rfl | rfl | rfl | rfl : j = 0 ∨ j = 1 ∨ j = 2 ∨ j = 3 ∨ j = 4 ∨ j = 5 ∨ j = 6 ∨ j = 7 ∨ j = 8 ∨ j = 9 ∨ j = 10 ∨ j = 11 ∨ j = 12 ∨ j = 13 ∨ j = 14 := by omega
  all_goals rfl
theorem prefix_is (s x : ByteArray) : Lib.hasPrefix s.data.toList x.data.toList = Tok.begins s 0 x := by
  rw [Tok.begins_prefix s 0 x (Nat.zero_le _), _root_.List.drop_zero]; rfl
set_option maxHeartbeats 2000000 in
theorem sign_any (s : ByteArray) (v : Value) (xs : _root_.List ByteArray) (w : World) (h : At w v xs) :
    Calls Tryz.prog 88 #[.string s, v] w fun e w' => e = .returned (.string (Tok.starts s 0 xs)) ∧ w = w' := by
  obtain ⟨a, cap, rfl, hm, hc⟩ := h
  unfold maxLen at hm
  have HC := Lib.hid hc; clear hc
  have KP := fun x w => Lib.hid (Shelf.strings_HasPrefix s x w)
  simp only [prefix_is] at KP
  generalize hn : xs.length = n at *
  have HN := Lib.hid hn; clear hn
  go_enter Tryz.func88, Tryz.ntmps88
  go_wp2_with fail
  go_loop [9] (fun j => ∃ i : Nat, i ≤ n ∧ j = .int .i64 i ∧ ∀ k (hk : k < xs.length), k < i → Tok.begins s 0 xs[k] = false) (fun j => n - (intOf j).toNat)
  case atStart => exact ⟨0, by omega, rfl, fun k hk h => by omega⟩
  case round =>
    obtain ⟨i, hi, rfl, hno⟩ := hrel
    have HNO := Lib.hid hno; clear hno
    by_cases hlt : i < n
    · obtain ⟨b, off, rfl, hcell⟩ := HC.out (by omega)
      have hil : i < xs.length := by rw [HN.out]; exact hlt
      have hci := hcell i hlt
      have HX : Hid (xs.getD i ByteArray.empty = xs[i]) := by show _ = _; simp [_root_.List.getD, hil]
      rw [HX.out] at hci
      clear hcell
      have HF : Hid (Tok.begins s 0 xs[i] = false → ∀ k (hk : k < xs.length), k < i + 1 → Tok.begins s 0 xs[k] = false) := by
        intro hf k hk h1
        by_cases h2 : k = i
        · subst h2; exact hf
        · exact HNO.out k hk (by omega)
      have HT : Hid (Tok.begins s 0 xs[i] = true → Tok.starts s 0 xs = xs[i]) := fun hb => Tok.starts_at s 0 xs i hil hb fun j hj h => HNO.out j hj h
      clear HX
      generalize xs[i] = x at *
      cases he : Tok.begins s 0 x with
      | true =>
        have KX := fun w => KP x w
        rw [he] at KX
        have HR := Lib.hid (HT.out he)
        clear he
        go_wp2_with fail
        refine (KX _).out.mono ?_
        rintro e w1 ⟨rfl, rfl⟩
        go_wp2_with fail
        go_ret
        exact ⟨by rw [HR.out]; rfl, rfl⟩
      | false =>
        have KX := fun w => KP x w
        rw [he] at KX
        have HR := Lib.hid (HF.out he)
        clear he
        go_wp2_with fail
        refine (KX _).out.mono ?_
        rintro e w1 ⟨rfl, rfl⟩
        go_wp2_with fail
        go_round
        case rel => exact ⟨i + 1, by omega, by go_num, HR.out⟩
        case measure => simp [intOf]; omega
    · have HR : Hid (Tok.starts s 0 xs = ByteArray.empty) := Tok.starts_not s 0 xs fun j hj => HNO.out j hj (by have := HN.out; omega)
      go_wp2_with fail
      go_ret
      exact ⟨by rw [HR.out]; rfl, rfl⟩
theorem is_operator (s : ByteArray) (w : World) :
    Calls Tryz.prog 71 #[.string s] w (ImplTok.Part (Tok.has Tok.binaries s) w) := by
  have HV := Lib.hid (Tok.op_is s)
  have KS := fun v w h => Lib.hid (sign_any s v Tok.binaries w h)
  by_cases h0 : s.data.toList = []
  · have hne : (s.toList == []) = true := by rw [ByteArray.toList_eq, h0]; rfl
    have HE : Hid (Tok.has Tok.binaries s = false) := by show _ = _; rw [HV.out, h0]; rfl
    clear h0 HV
    go_enter Tryz.func71, Tryz.ntmps71
    go_wp2_with fail
    go_ret
    exact ⟨by rw [HE.out]; rfl, Below.refl _ _⟩
  · have hne : (s.toList == []) = false := by rw [ByteArray.toList_eq, beq_eq_false_iff_ne]; exact h0
    have HE : Hid (Tok.has Tok.binaries s = ((Tok.starts s 0 Tok.binaries).toList == s.toList)) := by
      show _ = _
      rw [HV.out]
      have : s.data.toList.isEmpty = false := by rw [← Bool.not_eq_true, _root_.List.isEmpty_iff]; exact h0
      rw [this]; rfl
    clear h0 HV
    generalize Tok.starts s 0 Tok.binaries = x at *
    go_enter Tryz.func71, Tryz.ntmps71
    go_wp2_with fail
    refine (binaries_any _).mono ?_
    rintro e w1 ⟨a, c, rfl, hat, hb1⟩
    go_wp2_with fail
    refine (KS _ _ hat).out.mono ?_
    rintro e w2 ⟨rfl, rfl⟩
    go_wp2_with fail
    go_ret
    exact ⟨by rw [HE.out]; rfl, hb1⟩
end Go.Proofs.YtekeondbbikkpaaGreat.ImplSigns
