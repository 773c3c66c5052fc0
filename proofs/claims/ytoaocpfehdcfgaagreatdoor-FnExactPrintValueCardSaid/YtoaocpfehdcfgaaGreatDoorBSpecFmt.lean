/-
  Small laws over this program that several walks use: one byte as a string, two strings joined. They hold in every world.
  Slices of texts that can be read: what that means, and that it is kept where nothing that was there is written.
  laws.markText answers the mark of a positive number, and writes nothing that was there.
  impl's and spec's BuiltinClasses answer the sixteen names, in a row of their own.
  spec.FormatInt answers the decimal form of every integer, and writes nothing that was there.
-/
import Derived.Test.YtoaocpfehdcfgaaGreatDoorBNum
import Derived.Test.YtoaocpfehdcfgaaGreatDoorRows
import Derived.WalkKit
import Derived.WalkSpells
import Derived.Lib.Hide
import Derived.Laws.BytesArg
import Derived.Outline
import Derived.Deep.QuietTactic
import Derived.BigQuiet
import Derived.WalkSmall
namespace Go.Proofs.YtoaocpfehdcfgaaGreatDoor.Kit
open Go.RowKit
theorem conv1 (w : World) (c : Int) :
    (convert 103 9 (.slice (some ⟨w.heap.size, 0, none⟩) 1 1)).run Tryz.prog (w.alloc (.cells #[.int .u8 c] 5)) =
      .ok (.string ⟨[UInt8.ofNat c.toNat].toArray⟩) (w.alloc (.cells #[.int .u8 c] 5)) := by
  have h := run_convert_bytes_arg (P := Tryz.prog) (w.alloc (.cells #[.int .u8 c] 5)) 103 5 Tryz.underlying103 Tryz.underlying5 w.heap.size 0 1 1 [c] rfl
    (fun i hi => by
      have : i = 0 := by omega
      subst this
      simp) 9 Tryz.underlying9
  simpa [strOfNums] using h
theorem add_l (w : World) (a b : List UInt8) (h : a.length + b.length ≤ 9223372036854775807) :
    (Op.stringOp .add ⟨a.toArray⟩ ⟨b.toArray⟩).run Tryz.prog w = .ok (.string ⟨(a ++ b).toArray⟩) w := by
  rw [run_string_add_sum w _ _ (by simpa [ByteArray.size] using h), ByteArray.mk_append_mk]
theorem conv_own (w : World) (base g c cap : Nat) (l : List UInt8) (hl : l.length = c) (h : w.ownsRow base 5 1 (.slice (some ⟨g, 0, none⟩) c cap) c (l.map (fun b => Value.int .u8 b.toNat))) :
    (convert 103 9 (.slice (some ⟨g, 0, none⟩) c cap)).run Tryz.prog w = .ok (.string ⟨l.toArray⟩) w := by
  subst hl
  refine run_convert_bytes_back w 103 9 5 ⟨g, 0, none⟩ cap l Tryz.underlying103 Tryz.underlying5 Tryz.underlying9 (fun j hj => ?_)
  have := h.cellAt j (by omega)
  have e : (⟨g, 0, none⟩ : Addr).add j = ⟨g, j, none⟩ := by unfold Addr.add; split <;> simp_all
  rw [e]
  simpa [hj] using this
theorem app_below {w wr w' : World} {base : Nat} {e : TypeId} {o : Obj} {v : Value} {n : Nat} {xs : List Value} (hb : base ≤ w.heap.size) (h : Below base w wr) (hown : wr.ownsRow base e 1 v n xs) (hg : (wr.alloc o).grownBy w' v.ownBlock) : Below base w w' := by
  have h1 : base ≤ wr.heap.size := Nat.le_trans hb h.size
  exact (h.alloc h1 o).grown hg (by simp; omega) (fun k hk => (hown.lt k hk).1)
theorem one_cells (w : World) (v : Value) (t : TypeId) : ∀ (j : Nat) (u : Value), [v][j]? = some u → (w.alloc (.cells #[v] t)).cell? ((⟨w.heap.size, 0, none⟩ : Addr).add j) = some u := by
  intro j u hj
  match j, hj with
  | 0, hj => simp at hj; subst hj; simp [Addr.add]
theorem one_str (s : ByteArray) : ∀ u : Value, u ∈ [Value.string s] → u.oneCell' = true := by
  intro u hu; simp at hu; subst hu; rfl
theorem conv_row (w : World) (base : Nat) (v : Value) (l : List UInt8) (h : w.ownsRow base 5 1 v l.length (l.map (fun b => Value.int .u8 b.toNat))) :
    (convert 103 9 v).run Tryz.prog w = .ok (.string ⟨l.toArray⟩) w := by
  have h' := h
  obtain ⟨_, ⟨rfl, hn⟩ | ⟨g, cap, cur, rfl, _⟩⟩ := h
  · have : l = [] := List.eq_nil_of_length_eq_zero hn
    subst this
    exact run_convert_bytes_nil w 103 5 Tryz.underlying103 Tryz.underlying5 0 0 9 Tryz.underlying9
  · exact conv_own w base g l.length cap l rfl h'
theorem row_form {w : World} {base : Nat} {e : TypeId} {size : Nat} {v : Value} {n : Nat} {xs : List Value} (h : w.ownsRow base e size v n xs) : ∃ a c, v = .slice a n c := by
  obtain ⟨_, ⟨rfl, hn⟩ | ⟨g, cap, cur, rfl, _⟩⟩ := h
  · exact ⟨none, 0, by rw [hn]⟩
  · exact ⟨_, cap, rfl⟩
def IsRow (k : IntKind) (w : World) (a : Option Addr) (len cap : Nat) (zs : List Int) : Prop :=
  (a = none ∧ len = 0 ∧ cap = 0 ∧ zs = []) ∨
  ∃ x, a = some x ∧ len ≤ cap ∧ cap ≤ maxLen ∧ zs.length = cap ∧ (∀ i, i < zs.length → w.cell? (x.add i) = some (.int k (zs.getD i 0))) ∧ ∀ n ∈ zs, (Lit.int k n).wf = true
def IsStrs (w : World) (a : Option Addr) (len cap : Nat) (zs : List ByteArray) : Prop :=
  (a = none ∧ len = 0 ∧ cap = 0 ∧ zs = []) ∨
  ∃ x, a = some x ∧ len ≤ cap ∧ cap ≤ maxLen ∧ zs.length = cap ∧ (∀ i, i < zs.length → w.cell? (x.add i) = some (.string (zs.getD i ByteArray.empty))) ∧ ∀ s ∈ zs, s.size ≤ maxLen
theorem one_byte (c : Int) : ∀ u : Value, u ∈ [Value.int .u8 c] → u.oneCell' = true := by
  intro u hu; simp at hu; subst hu; rfl
end Go.Proofs.YtoaocpfehdcfgaaGreatDoor.Kit

namespace Go.Proofs.YtoaocpfehdcfgaaGreatDoor.Strs
open Go.RowKit
def At (w : World) (v : Value) (xs : List ByteArray) : Prop :=
  ∃ a cap, v = .slice a xs.length cap ∧ xs.length ≤ maxLen ∧ (0 < xs.length → ∃ b off, a = some ⟨b, off, none⟩ ∧ ∀ j, j < xs.length → w.cell? ⟨b, off + j, none⟩ = some (.string (xs.getD j ByteArray.empty)))
theorem at_own {w : World} {base : Nat} {v : Value} {xs : List ByteArray} (h : w.ownsRow base 9 1 v xs.length (xs.map Value.string)) : At w v xs := by
  have h' := h
  obtain ⟨_, ⟨rfl, hn⟩ | ⟨g, cap, cur, rfl, _, hg, hnc, hcm, _, _⟩⟩ := h
  · exact ⟨none, 0, by rw [hn], by unfold maxLen; omega, fun hp => by omega⟩
  · refine ⟨_, cap, rfl, by omega, fun hp => ⟨g, 0, rfl, fun j hj => ?_⟩⟩
    rw [Nat.zero_add, h'.cellAt j (by omega)]
    simp [hj, List.getD]
theorem cell_lt {w : World} {a : Addr} {v : Value} (h : w.cell? a = some v) : a.block < w.heap.size := by
  rcases Nat.lt_or_ge a.block w.heap.size with h1 | h1
  · exact h1
  · have h2 : w.heap[a.block]? = none := by rw [Array.getElem?_eq_none_iff]; exact h1
    simp [World.cell?, h2] at h
theorem cell_keep {w w' : World} {b o : Nat} {v : Value} (hb : Below w.heap.size w w') (h : w.cell? ⟨b, o, none⟩ = some v) : w'.cell? ⟨b, o, none⟩ = some v := by
  rw [hb.cell (p := ⟨b, o, none⟩) (cell_lt h)]; exact h
theorem own_keep {w w' : World} {base : Nat} {e : TypeId} {size : Nat} {v : Value} {n : Nat} {xs : List Value} (h : w.ownsRow base e size v n xs) (hb : Below w.heap.size w w') : w'.ownsRow base e size v n xs := by
  have hlt := h.lt
  refine ⟨h.1, ?_⟩
  rcases h.2 with hn | ⟨g, cap, cur, rfl, hbg, hgg, rest⟩
  · exact .inl hn
  · exact .inr ⟨g, cap, cur, rfl, hbg, by rw [hb.block g (hlt g rfl).2]; exact hgg, rest⟩
theorem At.keep {w w' : World} {v : Value} {xs : List ByteArray} (h : At w v xs) (hb : Below w.heap.size w w') : At w' v xs := by
  obtain ⟨a, cap, rfl, hm, hc⟩ := h
  refine ⟨a, cap, rfl, hm, fun hp => ?_⟩
  obtain ⟨b, off, rfl, hd⟩ := hc hp
  exact ⟨b, off, rfl, fun j hj => cell_keep hb (hd j hj)⟩
end Go.Proofs.YtoaocpfehdcfgaaGreatDoor.Strs

namespace Go.Proofs.YtoaocpfehdcfgaaGreatDoor.Mark
open Go.RowKit
def mark (n : Int) : ByteArray := ⟨(109 :: Num.decN n.natAbs).toArray⟩
end Go.Proofs.YtoaocpfehdcfgaaGreatDoor.Mark

namespace Go.Proofs.YtoaocpfehdcfgaaGreatDoor.Builtin
open Go.RowKit
open Strs
def names : List ByteArray := [⟨#[79, 98, 106, 101, 99, 116]⟩,
  ⟨#[69, 120, 99, 101, 112, 116, 105, 111, 110]⟩,
  ⟨#[69, 114, 114, 111, 114]⟩,
  ⟨#[77, 101, 115, 115, 97, 103, 101, 78, 111, 116, 85, 110, 100, 101, 114, 115, 116, 111, 111, 100]⟩,
  ⟨#[90, 101, 114, 111, 68, 105, 118, 105, 100, 101]⟩,
  ⟨#[73, 110, 116, 101, 103, 101, 114]⟩,
  ⟨#[66, 111, 111, 108, 101, 97, 110]⟩,
  ⟨#[78, 105, 108]⟩,
  ⟨#[83, 116, 114, 105, 110, 103]⟩,
  ⟨#[83, 121, 109, 98, 111, 108]⟩,
  ⟨#[65, 114, 114, 97, 121]⟩,
  ⟨#[66, 108, 111, 99, 107]⟩,
  ⟨#[83, 101, 109, 97, 112, 104, 111, 114, 101]⟩,
  ⟨#[80, 114, 111, 99, 101, 115, 115]⟩,
  ⟨#[84, 114, 97, 110, 115, 99, 114, 105, 112, 116]⟩,
  ⟨#[67, 108, 97, 115, 115]⟩]
set_option maxHeartbeats 1000000 in
theorem spec_any (w : World) : Calls Tryz.prog 81 #[] w fun e w' =>
    ∃ v, e = .returned v ∧ w'.ownsRow w.heap.size 9 1 v names.length (names.map Value.string) ∧ Below w.heap.size w w' := by
  go_enter Tryz.func81, Tryz.ntmps81
  go_wp2_with fail
  go_ret
  exact ⟨_, rfl, World.ownsRow_lit w _ 16 (Nat.le_refl _) (by unfold maxLen; omega) rfl, (Below.refl _ _).alloc (Nat.le_refl _) _⟩
set_option maxHeartbeats 1000000 in
theorem impl_any (w : World) : Calls Tryz.prog 88 #[] w fun e w' =>
    ∃ v, e = .returned v ∧ w'.ownsRow w.heap.size 9 1 v names.length (names.map Value.string) ∧ Below w.heap.size w w' := by
  go_enter Tryz.func88, Tryz.ntmps88
  go_wp2_with fail
  go_ret
  exact ⟨_, rfl, World.ownsRow_lit w _ 16 (Nat.le_refl _) (by unfold maxLen; omega) rfl, (Below.refl _ _).alloc (Nat.le_refl _) _⟩
end Go.Proofs.YtoaocpfehdcfgaaGreatDoor.Builtin

namespace Go.Proofs.YtoaocpfehdcfgaaGreatDoor.SpecFmt
open Go.RowKit
set_option maxHeartbeats 400000 in
theorem fmt_pos (n : Int) (w : World) (h1 : 0 < n) (h2 : n ≤ 9223372036854775807) :
    Calls Tryz.prog 33 #[.int .i64 n] w fun e w' => e = .returned (.string ⟨(Num.intText n).toArray⟩) ∧ Below w.heap.size w w' := by
  have hb : (n == 0) = false := by simp; omega
  have hn : decide (n < 0) = false := by simp; omega
  have hcv := Kit.conv1
  go_enter Tryz.func33, Tryz.ntmps33
  go_wp2_with fail
  go_loopw [0, 4] (fun t s wr => ∃ (m : Nat) (l : List UInt8), (m : Int) ≤ n ∧ l.length ≤ 20 ∧ t = .int .i64 m ∧ s = .string ⟨l.toArray⟩ ∧ Num.decN m ++ l = Num.decN n.natAbs ∧ Below w.heap.size w wr)
    (fun t _ _ => (intOf t).toNat)
  case atStart => exact ⟨n.natAbs, [], by omega, by simp, by congr 1; omega, rfl, by simp, Below.refl _ _⟩
  case round =>
    obtain ⟨m, l, hm, hl, rfl, rfl, hd, hbl⟩ := hrel
    have HD := Lib.hid hd; clear hd
    by_cases hz : m = 0
    · subst hz
      go_wp2_with fail
      go_ret
      exact ⟨by rw [Num.intText_pos n h1, ← HD.out, Num.decN_zero]; rfl, hbl⟩
    · have hz' : ((m : Int) == 0) = false := by simp; omega
      have hz2 : ((m : Int) != 0) = true := by simp; omega
      have hmd : ¬ ((m : Int) % 10 < 0) := by omega
      have hz3 : m ≤ 18446744073709551615 := by omega
      go_wp2_with fail
      go_roundw
      case rel =>
        have HE := Num.step_in m l _ (by omega) hz3 HD.out
        exact ⟨m / 10, _, by omega, Num.suffix_len _ _ _ HE, by go_num, by rw [ByteArray.mk_append_mk]; rfl, HE, hbl.alloc (by have := hbl.size; omega) _⟩
      case measure => simp [intOf]; omega
theorem tmod_neg (m : Nat) : (-(m : Int)).tmod 10 = -((m : Int) % 10) := by
  rw [Int.neg_tmod, Int.tmod_eq_emod_of_nonneg (by omega)]
theorem tdiv_neg (m : Nat) : (-(m : Int)).tdiv 10 = -((m : Int) / 10) := by
  rw [Int.neg_tdiv, Int.tdiv_eq_ediv_of_nonneg (by omega)]
set_option maxHeartbeats 400000 in
theorem fmt_neg (n : Int) (w : World) (h1 : n < 0) (h2 : -9223372036854775808 ≤ n) :
    Calls Tryz.prog 33 #[.int .i64 n] w fun e w' => e = .returned (.string ⟨(Num.intText n).toArray⟩) ∧ Below w.heap.size w w' := by
  have hb : (n == 0) = false := by simp; omega
  have hn : decide (n < 0) = true := by simp; omega
  have hcv := Kit.conv1
  go_enter Tryz.func33, Tryz.ntmps33
  go_wp2_with fail
  go_loopw [0, 4] (fun t s wr => ∃ (m : Nat) (l : List UInt8), n ≤ -(m : Int) ∧ l.length ≤ 20 ∧ t = .int .i64 (-(m : Int)) ∧ s = .string ⟨l.toArray⟩ ∧ Num.decN m ++ l = Num.decN n.natAbs ∧ Below w.heap.size w wr)
    (fun t _ _ => (-(intOf t)).toNat)
  case atStart => exact ⟨n.natAbs, [], by omega, by simp, by congr 1; omega, rfl, by simp, Below.refl _ _⟩
  case round =>
    obtain ⟨m, l, hm, hl, rfl, rfl, hd, hbl⟩ := hrel
    have HD := Lib.hid hd; clear hd
    by_cases hz : m = 0
    · subst hz
      go_wp2_with fail
      go_ret
      exact ⟨by rw [Num.intText_neg n h1, ← HD.out, Num.decN_zero]; rfl, hbl⟩
    · have hz' : (-(m : Int) == 0) = false := by simp; omega
      have hz2 : (-(m : Int) != 0) = true := by simp; omega
      have hz3 : m ≤ 18446744073709551615 := by omega
      have htm := tmod_neg m
      have htd := tdiv_neg m
      by_cases h10 : -((m : Int) % 10) < 0
      · go_wp2_with fail
        go_roundw
        case rel =>
          have HE := Num.step_in m l _ (by omega) hz3 HD.out
          exact ⟨m / 10, _, by omega, Num.suffix_len _ _ _ HE, by go_num, by rw [ByteArray.mk_append_mk]; rfl, HE, hbl.alloc (by have := hbl.size; omega) _⟩
        case measure => simp [intOf]; omega
      · go_wp2_with fail
        go_roundw
        case rel =>
          have HE := Num.step_in0 m l _ (by omega) hz3 (by omega) HD.out
          exact ⟨m / 10, _, by omega, Num.suffix_len _ _ _ HE, by go_num, by rw [ByteArray.mk_append_mk]; rfl, HE, hbl.alloc (by have := hbl.size; omega) _⟩
        case measure => simp [intOf]; omega
set_option maxHeartbeats 400000 in
theorem fmt_zero (w : World) :
    Calls Tryz.prog 33 #[.int .i64 0] w fun e w' => e = .returned (.string ⟨(Num.intText 0).toArray⟩) ∧ Below w.heap.size w w' := by
  go_enter Tryz.func33, Tryz.ntmps33
  go_wp2_with fail
  go_ret
  exact ⟨rfl, Below.refl _ _⟩
theorem fmt_any (n : Int) (w : World) (h1 : -9223372036854775808 ≤ n) (h2 : n ≤ 9223372036854775807) :
    Calls Tryz.prog 33 #[.int .i64 n] w fun e w' => e = .returned (.string ⟨(Num.intText n).toArray⟩) ∧ Below w.heap.size w w' := by
  by_cases h0 : n = 0
  · subst h0; exact fmt_zero w
  · by_cases hp : 0 < n
    · exact fmt_pos n w hp h2
    · exact fmt_neg n w (by omega) h1
end Go.Proofs.YtoaocpfehdcfgaaGreatDoor.SpecFmt
