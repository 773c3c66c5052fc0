/-
  Small laws over this program that several walks use: one byte as a string, two strings joined. They hold in every world.
  Slices of texts that can be read: what that means, and that it is kept where nothing that was there is written.
  Plain mathematics: the decimal form of an integer, and that it is read again. Nothing of the program is named here.
  laws.markText answers the mark of a positive number, and writes nothing that was there.
  impl's and spec's BuiltinClasses answer the sixteen names, in a row of their own.
  spec.l1Max over numbers from 0 on.
-/
import Derived.Test.YtekeondbbikkpaaGreatRows
import Derived.WalkKit
import Derived.WalkSpells
import Derived.Lib.Hide
import Derived.Laws.BytesArg
import Derived.Outline
import Derived.Deep.QuietTactic
import Derived.BigQuiet
import Derived.WalkSmall
namespace Go.Proofs.YtekeondbbikkpaaGreat.Kit
open Go.RowKit
theorem add_l (w : World) (a b : List UInt8) (h : a.length + b.length ≤ 9223372036854775807) :
    (Op.stringOp .add ⟨a.toArray⟩ ⟨b.toArray⟩).run Tryz.prog w = .ok (.string ⟨(a ++ b).toArray⟩) w := by
  rw [run_string_add_sum w _ _ (by simpa [ByteArray.size] using h), ByteArray.mk_append_mk]
theorem app_below {w wr w' : World} {base : Nat} {e : TypeId} {o : Obj} {v : Value} {n : Nat} {xs : List Value} (hb : base ≤ w.heap.size) (h : Below base w wr) (hown : wr.ownsRow base e 1 v n xs) (hg : (wr.alloc o).grownBy w' v.ownBlock) : Below base w w' := by
  have h1 : base ≤ wr.heap.size := Nat.le_trans hb h.size
  exact (h.alloc h1 o).grown hg (by simp; omega) (fun k hk => (hown.lt k hk).1)
theorem one_cells (w : World) (v : Value) (t : TypeId) : ∀ (j : Nat) (u : Value), [v][j]? = some u → (w.alloc (.cells #[v] t)).cell? ((⟨w.heap.size, 0, none⟩ : Addr).add j) = some u := by
  intro j u hj
  match j, hj with
  | 0, hj => simp at hj; subst hj; simp [Addr.add]
theorem one_str (s : ByteArray) : ∀ u : Value, u ∈ [Value.string s] → u.oneCell' = true := by
  intro u hu; simp at hu; subst hu; rfl
theorem row_form {w : World} {base : Nat} {e : TypeId} {size : Nat} {v : Value} {n : Nat} {xs : List Value} (h : w.ownsRow base e size v n xs) : ∃ a c, v = .slice a n c := by
  obtain ⟨_, ⟨rfl, hn⟩ | ⟨g, cap, cur, rfl, _⟩⟩ := h
  · exact ⟨none, 0, by rw [hn]⟩
  · exact ⟨_, cap, rfl⟩
def IsRow (k : IntKind) (w : World) (a : Option Addr) (len cap : Nat) (zs : List Int) : Prop :=
  (a = none ∧ len = 0 ∧ cap = 0 ∧ zs = []) ∨
  ∃ x, a = some x ∧ len ≤ cap ∧ cap ≤ maxLen ∧ zs.length = cap ∧ (∀ i, i < zs.length → w.cell? (x.add i) = some (.int k (zs.getD i 0))) ∧ ∀ n ∈ zs, (Lit.int k n).wf = true
def IsStrs (w : World) (a : Option Addr) (len cap : Nat) (zs : List ByteArray) : Prop :=
  (a = none ∧ len = 0 ∧ cap = 0 ∧ zs = []) ∨
  ∃ x, a = some x ∧ len ≤ cap ∧ cap ≤ maxLen ∧ zs.length = cap ∧ (∀ i, i < zs.length → w.cell? (x.add i) = some (.string (zs.getD i ByteArray.empty))) ∧ ∀ s ∈ zs, s.size ≤ maxLen
theorem one_byte (c : Int) : ∀ u : Value, u ∈ [Value.int .u8 c] → u.oneCell' = true := by
  intro u hu; simp at hu; subst hu; rfl
end Go.Proofs.YtekeondbbikkpaaGreat.Kit

namespace Go.Proofs.YtekeondbbikkpaaGreat.Strs
open Go.RowKit
def At (w : World) (v : Value) (xs : List ByteArray) : Prop :=
  ∃ a cap, v = .slice a xs.length cap ∧ xs.length ≤ maxLen ∧ (0 < xs.length → ∃ b off, a = some ⟨b, off, none⟩ ∧ ∀ j, j < xs.length → w.cell? ⟨b, off + j, none⟩ = some (.string (xs.getD j ByteArray.empty)))
theorem at_own {w : World} {base : Nat} {v : Value} {xs : List ByteArray} (h : w.ownsRow base 9 1 v xs.length (xs.map Value.string)) : At w v xs := by
  have h' := h
  obtain ⟨_, ⟨rfl, hn⟩ | ⟨g, cap, cur, rfl, _, hg, hnc, hcm, _, _⟩⟩ := h
  · exact ⟨none, 0, by rw [hn], by unfold maxLen; omega, fun hp => by omega⟩
  · refine ⟨_, cap, rfl, by omega, fun hp => ⟨g, 0, rfl, fun j hj => ?_⟩⟩
    rw [Nat.zero_add, h'.cellAt j (by omega)]
    simp [hj, List.getD]
theorem cell_lt {w : World} {a : Addr} {v : Value} (h : w.cell? a = some v) : a.block < w.heap.size := by
  rcases Nat.lt_or_ge a.block w.heap.size with h1 | h1
  · exact h1
  · have h2 : w.heap[a.block]? = none := by rw [Array.getElem?_eq_none_iff]; exact h1
    simp [World.cell?, h2] at h
theorem cell_keep {w w' : World} {b o : Nat} {v : Value} (hb : Below w.heap.size w w') (h : w.cell? ⟨b, o, none⟩ = some v) : w'.cell? ⟨b, o, none⟩ = some v := by
  rw [hb.cell (p := ⟨b, o, none⟩) (cell_lt h)]; exact h
theorem own_keep {w w' : World} {base : Nat} {e : TypeId} {size : Nat} {v : Value} {n : Nat} {xs : List Value} (h : w.ownsRow base e size v n xs) (hb : Below w.heap.size w w') : w'.ownsRow base e size v n xs := by
  have hlt := h.lt
  refine ⟨h.1, ?_⟩
  rcases h.2 with hn | ⟨g, cap, cur, rfl, hbg, hgg, rest⟩
  · exact .inl hn
  · exact .inr ⟨g, cap, cur, rfl, hbg, by rw [hb.block g (hlt g rfl).2]; exact hgg, rest⟩
theorem At.keep {w w' : World} {v : Value} {xs : List ByteArray} (h : At w v xs) (hb : Below w.heap.size w w') : At w' v xs := by
  obtain ⟨a, cap, rfl, hm, hc⟩ := h
  refine ⟨a, cap, rfl, hm, fun hp => ?_⟩
  obtain ⟨b, off, rfl, hd⟩ := hc hp
  exact ⟨b, off, rfl, fun j hj => cell_keep hb (hd j hj)⟩
end Go.Proofs.YtekeondbbikkpaaGreat.Strs

namespace Go.Proofs.YtekeondbbikkpaaGreat.Num
def dec : Nat → Nat → List UInt8
  | 0, _ => []
  | f + 1, n => if n = 0 then [] else dec f (n / 10) ++ [48 + UInt8.ofNat (n % 10)]
theorem dec_zero (f : Nat) : dec f 0 = [] := by cases f <;> simp [dec]
theorem dec_fuel (f : Nat) : ∀ n, n < 10 ^ f → dec (f + 1) n = dec f n := by
  induction f with
  | zero => intro n h; have : n = 0 := by omega
            subst this; simp [dec]
  | succ f ih =>
    intro n h
    rw [dec, dec.eq_2 n f]
    have : n / 10 < 10 ^ f := by rw [Nat.pow_succ] at h; omega
    rw [ih _ this]
def decN (n : Nat) : List UInt8 := dec 20 n
theorem decN_zero : decN 0 = [] := dec_zero _
theorem decN_step (n : Nat) (h : 0 < n) (hb : n ≤ 18446744073709551615) : decN n = decN (n / 10) ++ [48 + UInt8.ofNat (n % 10)] := by
  unfold decN
  rw [dec.eq_2 n 19, if_neg (by omega), dec_fuel 19 (n / 10) (by omega)]
theorem dec_ne (f n : Nat) (h : 0 < n) : dec (f + 1) n ≠ [] := by
  rw [dec, if_neg (by omega)]; simp
def intText (z : Int) : List UInt8 := if z = 0 then [48] else if z < 0 then 45 :: decN z.natAbs else decN z.natAbs
theorem intText_pos (z : Int) (h : 0 < z) : intText z = decN z.natAbs := by
  unfold intText; rw [if_neg (by omega), if_neg (by omega)]
theorem intText_neg (z : Int) (h : z < 0) : intText z = 45 :: decN z.natAbs := by
  unfold intText; rw [if_neg (by omega), if_pos h]
theorem step_in (m : Nat) (l r : List UInt8) (h : 0 < m) (hb : m ≤ 18446744073709551615) (hd : decN m ++ l = r) :
    decN (m / 10) ++ ((48 + UInt8.ofNat (m % 10)) :: l) = r := by
  rw [← hd, decN_step m h hb, List.append_assoc]
  rfl
theorem dec_len (f : Nat) : ∀ n, (dec f n).length ≤ f := by
  induction f with
  | zero => intro n; simp [dec]
  | succ f ih => intro n; rw [dec]; split
                 · simp
                 · have := ih (n / 10); simp; omega
theorem decN_len (n : Nat) : (decN n).length ≤ 20 := dec_len _ _
theorem step_in0 (m : Nat) (l r : List UInt8) (h : 0 < m) (hb : m ≤ 18446744073709551615) (h0 : (m : Int) % 10 ≤ 0) (hd : decN m ++ l = r) :
    decN (m / 10) ++ (UInt8.ofNat (48 + -((m : Int) % 10)).toNat :: l) = r := by
  rw [← step_in m l r h hb hd]
  have e1 : (48 + -((m : Int) % 10)).toNat = 48 := by omega
  have e2 : m % 10 = 0 := by omega
  rw [e1, e2]; rfl
theorem suffix_len (a l : List UInt8) (n : Nat) (h : a ++ l = decN n) : l.length ≤ 20 := by
  have h1 := congrArg List.length h
  have := decN_len n
  simp at h1; omega
theorem intText_len (z : Int) : (intText z).length ≤ 21 := by
  unfold intText
  have := decN_len z.natAbs
  split
  · simp
  · split
    · simp; omega
    · omega
def natText (n : Nat) : List UInt8 := if n = 0 then [48] else decN n
theorem intText_nat (n : Int) : intText n = if n < 0 then 45 :: natText n.natAbs else natText n.natAbs := by
  unfold intText natText
  by_cases h : n = 0
  · subst h; rfl
  · rw [if_neg h]; simp only [show ¬ n.natAbs = 0 by omega, if_false]
theorem natText_small (n : Nat) (h : n < 10) : natText n = [48 + UInt8.ofNat n] := by
  unfold natText
  split
  · next h => subst h; rfl
  · rw [decN_step n (by omega) (by omega), show n / 10 = 0 by omega, decN_zero, show n % 10 = n by omega]; rfl
theorem natText_step (n : Nat) (h : ¬ n < 10) (hb : n ≤ 18446744073709551615) : natText n = natText (n / 10) ++ [48 + UInt8.ofNat (n % 10)] := by
  unfold natText
  rw [if_neg (by omega), if_neg (by omega), decN_step n (by omega) hb]
def cnt (n : Nat) : Nat := if n = 0 then 1 else (decN n).length
theorem cnt_le (n : Nat) : cnt n ≤ 20 := by
  unfold cnt; have := decN_len n; split <;> omega
theorem cnt_pos (n : Nat) : 1 ≤ cnt n := by
  unfold cnt
  split
  · omega
  · have h := dec_ne 19 n (by omega)
    have := List.length_pos_iff.2 h
    exact this
theorem cnt_small (n : Nat) (h : n < 10) : cnt n = 1 := by
  unfold cnt
  split
  · rfl
  · rw [decN_step n (by omega) (by omega), show n / 10 = 0 by omega, decN_zero]; rfl
theorem cnt_step (n : Nat) (h : ¬ n < 10) (hb : n ≤ 18446744073709551615) : cnt n = cnt (n / 10) + 1 := by
  unfold cnt
  rw [if_neg (by omega), if_neg (by omega), decN_step n (by omega) hb]
  simp
theorem natText_len (n : Nat) : (natText n).length = cnt n := by
  unfold natText cnt; split <;> rfl
theorem digit_toNat (d : Nat) (h : d < 10) : ((48 : UInt8) + UInt8.ofNat d).toNat = 48 + d := by
  rw [UInt8.toNat_add, UInt8.toNat_ofNat_of_lt' (by show d < 256; omega)]
  show (48 + d) % 256 = 48 + d
  omega
theorem natText_at (k : Nat) : ∀ n, n ≤ 18446744073709551615 → k < cnt n → (natText n).getD (cnt n - 1 - k) 0 = 48 + UInt8.ofNat (n / 10 ^ k % 10) := by
  induction k with
  | zero =>
    intro n hb hk
    by_cases h : n < 10
    · rw [natText_small n h, cnt_small n h]; simp [Nat.mod_eq_of_lt h]
    · have hl := natText_len (n / 10)
      rw [natText_step n h hb, cnt_step n h hb]
      simp [List.getD, ← hl]
  | succ k ih =>
    intro n hb hk
    by_cases h : n < 10
    · rw [cnt_small n h] at hk; omega
    · have hl := natText_len (n / 10)
      rw [cnt_step n h hb] at hk ⊢
      have := ih (n / 10) (by omega) (by omega)
      rw [natText_step n h hb, Nat.pow_succ, Nat.mul_comm, ← Nat.div_div_eq_div_mul, ← this]
      have e : cnt (n / 10) + 1 - 1 - (k + 1) = cnt (n / 10) - 1 - k := by omega
      rw [e, List.getD, List.getD, List.getElem?_append_left (by omega)]
def Laid (t : List UInt8) (c k : Nat) (buf : List Int) : Prop := buf.length = c ∧ ∀ j, c - k ≤ j → j < c → buf.getD j 0 = ((t.getD j 0).toNat : Int)
theorem laid_start (t : List UInt8) (c : Nat) : Laid t c 0 (List.replicate c 0) := ⟨by simp, fun j h1 h2 => by omega⟩
theorem laid_step (n c k m : Nat) (buf : List Int) (hc : cnt n = c) (hn : n ≤ 18446744073709551615) (hk : k < c) (hm : m = n / 10 ^ k) (h : Laid (natText n) c k buf) :
    Laid (natText n) c (k + 1) (buf.set (c - 1 - k) (48 + (m : Int) % 10)) := by
  refine ⟨by simp [h.1], fun j h1 h2 => ?_⟩
  have h1' := h.1
  by_cases hj : j = c - 1 - k
  · subst hj
    have := natText_at k n hn (by omega)
    rw [hc, ← hm] at this
    rw [this, digit_toNat _ (by omega)]
    simp [List.getD, h1', show c - 1 - k < c by omega]
  · rw [← h.2 j (by omega) h2]
    simp [List.getD, show ¬ c - 1 - k = j by omega]
theorem laid_end (t : List UInt8) (c : Nat) (buf : List Int) (ht : t.length = c) (h : Laid t c c buf) : buf = t.map (fun b => (b.toNat : Int)) := by
  apply List.ext_getElem
  · simp [h.1, ht]
  · intro j h1 h2
    have h3 := h.2 j (by omega) (by rw [← h.1]; exact h1)
    have h4 : j < t.length := by simpa using h2
    simpa [List.getD, h1, h4] using h3
end Go.Proofs.YtekeondbbikkpaaGreat.Num

namespace Go.Proofs.YtekeondbbikkpaaGreat.Mark
open Go.RowKit
def mark (n : Int) : ByteArray := ⟨(109 :: Num.decN n.natAbs).toArray⟩
end Go.Proofs.YtekeondbbikkpaaGreat.Mark

namespace Go.Proofs.YtekeondbbikkpaaGreat.Builtin
open Go.RowKit
open Strs
def names : List ByteArray := [⟨#[79, 98, 106, 101, 99, 116]⟩,
  ⟨#[69, 120, 99, 101, 112, 116, 105, 111, 110]⟩,
  ⟨#[69, 114, 114, 111, 114]⟩,
  ⟨#[77, 101, 115, 115, 97, 103, 101, 78, 111, 116, 85, 110, 100, 101, 114, 115, 116, 111, 111, 100]⟩,
  ⟨#[90, 101, 114, 111, 68, 105, 118, 105, 100, 101]⟩,
  ⟨#[73, 110, 116, 101, 103, 101, 114]⟩,
  ⟨#[66, 111, 111, 108, 101, 97, 110]⟩,
  ⟨#[78, 105, 108]⟩,
  ⟨#[83, 116, 114, 105, 110, 103]⟩,
  ⟨#[83, 121, 109, 98, 111, 108]⟩,
  ⟨#[65, 114, 114, 97, 121]⟩,
  ⟨#[66, 108, 111, 99, 107]⟩,
  ⟨#[83, 101, 109, 97, 112, 104, 111, 114, 101]⟩,
  ⟨#[80, 114, 111, 99, 101, 115, 115]⟩,
  ⟨#[84, 114, 97, 110, 115, 99, 114, 105, 112, 116]⟩,
  ⟨#[67, 108, 97, 115, 115]⟩]
set_option maxHeartbeats 1000000 in
theorem spec_any (w : World) : Calls Tryz.prog 54 #[] w fun e w' =>
    ∃ v, e = .returned v ∧ w'.ownsRow w.heap.size 9 1 v names.length (names.map Value.string) ∧ Below w.heap.size w w' := by
  go_enter Tryz.func54, Tryz.ntmps54
  go_wp2_with fail
  go_ret
  exact ⟨_, rfl, World.ownsRow_lit w _ 16 (Nat.le_refl _) (by unfold maxLen; omega) rfl, (Below.refl _ _).alloc (Nat.le_refl _) _⟩
set_option maxHeartbeats 1000000 in
theorem impl_any (w : World) : Calls Tryz.prog 65 #[] w fun e w' =>
    ∃ v, e = .returned v ∧ w'.ownsRow w.heap.size 9 1 v names.length (names.map Value.string) ∧ Below w.heap.size w w' := by
  go_enter Tryz.func65, Tryz.ntmps65
  go_wp2_with fail
  go_ret
  exact ⟨_, rfl, World.ownsRow_lit w _ 16 (Nat.le_refl _) (by unfold maxLen; omega) rfl, (Below.refl _ _).alloc (Nat.le_refl _) _⟩
end Go.Proofs.YtekeondbbikkpaaGreat.Builtin

namespace Go.Proofs.YtekeondbbikkpaaGreat.SpecMax
open Go.RowKit
theorem max_any (a b : Nat) (w : World) :
    Calls Tryz.prog 81 #[.int .i64 a, .int .i64 b] w fun r w' => r = .returned (.int .i64 (max a b : Nat)) ∧ w = w' := by
  by_cases h : (b : Int) < (a : Int)
  · rw [show max a b = a by omega]
    go_enter Tryz.func81, Tryz.ntmps81
    go_wp2_with fail
    go_ret
    exact ⟨rfl, rfl⟩
  · rw [show max a b = b by omega]
    go_enter Tryz.func81, Tryz.ntmps81
    go_wp2_with fail
    go_ret
    exact ⟨rfl, rfl⟩
end Go.Proofs.YtekeondbbikkpaaGreat.SpecMax
