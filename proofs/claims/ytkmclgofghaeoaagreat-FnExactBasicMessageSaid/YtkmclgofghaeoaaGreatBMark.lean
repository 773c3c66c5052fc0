/-
  Small laws over this program that several walks use: one byte as a string, two strings joined. They hold in every world.
  Slices of texts that can be read: what that means, and that it is kept where nothing that was there is written.
  impl's and spec's BuiltinClasses answer the sixteen names, in a row of their own.
  laws.markText answers the mark of a positive number, and writes nothing that was there.
-/
import Derived.Test.YtkmclgofghaeoaaGreatBRead
import Derived.Test.YtkmclgofghaeoaaGreatRows
import Derived.WalkKit
import Derived.WalkSpells
import Derived.Lib.Hide
import Derived.Laws.BytesArg
import Derived.Outline
import Derived.Deep.QuietTactic
import Derived.BigQuiet
import Derived.WalkSmall
namespace Go.Proofs.YtkmclgofghaeoaaGreat.Kit
open Go.RowKit
theorem conv1 (w : World) (c : Int) :
    (convert 85 9 (.slice (some ⟨w.heap.size, 0, none⟩) 1 1)).run Tryz.prog (w.alloc (.cells #[.int .u8 c] 5)) =
      .ok (.string ⟨[UInt8.ofNat c.toNat].toArray⟩) (w.alloc (.cells #[.int .u8 c] 5)) := by
  have h := run_convert_bytes_arg (P := Tryz.prog) (w.alloc (.cells #[.int .u8 c] 5)) 85 5 Tryz.underlying85 Tryz.underlying5 w.heap.size 0 1 1 [c] rfl
    (fun i hi => by
      have : i = 0 := by omega
      subst this
      simp) 9 Tryz.underlying9
  simpa [strOfNums] using h
theorem add_l (w : World) (a b : List UInt8) (h : a.length + b.length ≤ 9223372036854775807) :
    (Op.stringOp .add ⟨a.toArray⟩ ⟨b.toArray⟩).run Tryz.prog w = .ok (.string ⟨(a ++ b).toArray⟩) w := by
  rw [run_string_add_sum w _ _ (by simpa [ByteArray.size] using h), ByteArray.mk_append_mk]
theorem conv_own (w : World) (base g c cap : Nat) (l : List UInt8) (hl : l.length = c) (h : w.ownsRow base 5 1 (.slice (some ⟨g, 0, none⟩) c cap) c (l.map (fun b => Value.int .u8 b.toNat))) :
    (convert 85 9 (.slice (some ⟨g, 0, none⟩) c cap)).run Tryz.prog w = .ok (.string ⟨l.toArray⟩) w := by
  subst hl
  refine run_convert_bytes_back w 85 9 5 ⟨g, 0, none⟩ cap l Tryz.underlying85 Tryz.underlying5 Tryz.underlying9 (fun j hj => ?_)
  have := h.cellAt j (by omega)
  have e : (⟨g, 0, none⟩ : Addr).add j = ⟨g, j, none⟩ := by unfold Addr.add; split <;> simp_all
  rw [e]
  simpa [hj] using this
theorem app_below {w wr w' : World} {base : Nat} {e : TypeId} {o : Obj} {v : Value} {n : Nat} {xs : List Value} (hb : base ≤ w.heap.size) (h : Below base w wr) (hown : wr.ownsRow base e 1 v n xs) (hg : (wr.alloc o).grownBy w' v.ownBlock) : Below base w w' := by
  have h1 : base ≤ wr.heap.size := Nat.le_trans hb h.size
  exact (h.alloc h1 o).grown hg (by simp; omega) (fun k hk => (hown.lt k hk).1)
theorem one_cells (w : World) (v : Value) (t : TypeId) : ∀ (j : Nat) (u : Value), [v][j]? = some u → (w.alloc (.cells #[v] t)).cell? ((⟨w.heap.size, 0, none⟩ : Addr).add j) = some u := by
  intro j u hj
  match j, hj with
  | 0, hj => simp at hj; subst hj; simp [Addr.add]
theorem one_str (s : ByteArray) : ∀ u : Value, u ∈ [Value.string s] → u.oneCell' = true := by
  intro u hu; simp at hu; subst hu; rfl
theorem conv_row (w : World) (base : Nat) (v : Value) (l : List UInt8) (h : w.ownsRow base 5 1 v l.length (l.map (fun b => Value.int .u8 b.toNat))) :
    (convert 85 9 v).run Tryz.prog w = .ok (.string ⟨l.toArray⟩) w := by
  have h' := h
  obtain ⟨_, ⟨rfl, hn⟩ | ⟨g, cap, cur, rfl, _⟩⟩ := h
  · have : l = [] := List.eq_nil_of_length_eq_zero hn
    subst this
    exact run_convert_bytes_nil w 85 5 Tryz.underlying85 Tryz.underlying5 0 0 9 Tryz.underlying9
  · exact conv_own w base g l.length cap l rfl h'
theorem row_form {w : World} {base : Nat} {e : TypeId} {size : Nat} {v : Value} {n : Nat} {xs : List Value} (h : w.ownsRow base e size v n xs) : ∃ a c, v = .slice a n c := by
  obtain ⟨_, ⟨rfl, hn⟩ | ⟨g, cap, cur, rfl, _⟩⟩ := h
  · exact ⟨none, 0, by rw [hn]⟩
  · exact ⟨_, cap, rfl⟩
def IsRow (k : IntKind) (w : World) (a : Option Addr) (len cap : Nat) (zs : List Int) : Prop :=
  (a = none ∧ len = 0 ∧ cap = 0 ∧ zs = []) ∨
  ∃ x, a = some x ∧ len ≤ cap ∧ cap ≤ maxLen ∧ zs.length = cap ∧ (∀ i, i < zs.length → w.cell? (x.add i) = some (.int k (zs.getD i 0))) ∧ ∀ n ∈ zs, (Lit.int k n).wf = true
def IsStrs (w : World) (a : Option Addr) (len cap : Nat) (zs : List ByteArray) : Prop :=
  (a = none ∧ len = 0 ∧ cap = 0 ∧ zs = []) ∨
  ∃ x, a = some x ∧ len ≤ cap ∧ cap ≤ maxLen ∧ zs.length = cap ∧ (∀ i, i < zs.length → w.cell? (x.add i) = some (.string (zs.getD i ByteArray.empty))) ∧ ∀ s ∈ zs, s.size ≤ maxLen
theorem one_byte (c : Int) : ∀ u : Value, u ∈ [Value.int .u8 c] → u.oneCell' = true := by
  intro u hu; simp at hu; subst hu; rfl
end Go.Proofs.YtkmclgofghaeoaaGreat.Kit

namespace Go.Proofs.YtkmclgofghaeoaaGreat.Strs
open Go.RowKit
def At (w : World) (v : Value) (xs : List ByteArray) : Prop :=
  ∃ a cap, v = .slice a xs.length cap ∧ xs.length ≤ maxLen ∧ (0 < xs.length → ∃ b off, a = some ⟨b, off, none⟩ ∧ ∀ j, j < xs.length → w.cell? ⟨b, off + j, none⟩ = some (.string (xs.getD j ByteArray.empty)))
theorem at_own {w : World} {base : Nat} {v : Value} {xs : List ByteArray} (h : w.ownsRow base 9 1 v xs.length (xs.map Value.string)) : At w v xs := by
  have h' := h
  obtain ⟨_, ⟨rfl, hn⟩ | ⟨g, cap, cur, rfl, _, hg, hnc, hcm, _, _⟩⟩ := h
  · exact ⟨none, 0, by rw [hn], by unfold maxLen; omega, fun hp => by omega⟩
  · refine ⟨_, cap, rfl, by omega, fun hp => ⟨g, 0, rfl, fun j hj => ?_⟩⟩
    rw [Nat.zero_add, h'.cellAt j (by omega)]
    simp [hj, List.getD]
theorem cell_lt {w : World} {a : Addr} {v : Value} (h : w.cell? a = some v) : a.block < w.heap.size := by
  rcases Nat.lt_or_ge a.block w.heap.size with h1 | h1
  · exact h1
  · have h2 : w.heap[a.block]? = none := by rw [Array.getElem?_eq_none_iff]; exact h1
    simp [World.cell?, h2] at h
theorem cell_keep {w w' : World} {b o : Nat} {v : Value} (hb : Below w.heap.size w w') (h : w.cell? ⟨b, o, none⟩ = some v) : w'.cell? ⟨b, o, none⟩ = some v := by
  rw [hb.cell (p := ⟨b, o, none⟩) (cell_lt h)]; exact h
theorem own_keep {w w' : World} {base : Nat} {e : TypeId} {size : Nat} {v : Value} {n : Nat} {xs : List Value} (h : w.ownsRow base e size v n xs) (hb : Below w.heap.size w w') : w'.ownsRow base e size v n xs := by
  have hlt := h.lt
  refine ⟨h.1, ?_⟩
  rcases h.2 with hn | ⟨g, cap, cur, rfl, hbg, hgg, rest⟩
  · exact .inl hn
  · exact .inr ⟨g, cap, cur, rfl, hbg, by rw [hb.block g (hlt g rfl).2]; exact hgg, rest⟩
theorem At.keep {w w' : World} {v : Value} {xs : List ByteArray} (h : At w v xs) (hb : Below w.heap.size w w') : At w' v xs := by
  obtain ⟨a, cap, rfl, hm, hc⟩ := h
  refine ⟨a, cap, rfl, hm, fun hp => ?_⟩
  obtain ⟨b, off, rfl, hd⟩ := hc hp
  exact ⟨b, off, rfl, fun j hj => cell_keep hb (hd j hj)⟩
end Go.Proofs.YtkmclgofghaeoaaGreat.Strs

namespace Go.Proofs.YtkmclgofghaeoaaGreat.Builtin
open Go.RowKit
open Strs
def names : List ByteArray := [⟨#[79, 98, 106, 101, 99, 116]⟩,
  ⟨#[69, 120, 99, 101, 112, 116, 105, 111, 110]⟩,
  ⟨#[69, 114, 114, 111, 114]⟩,
  ⟨#[77, 101, 115, 115, 97, 103, 101, 78, 111, 116, 85, 110, 100, 101, 114, 115, 116, 111, 111, 100]⟩,
  ⟨#[90, 101, 114, 111, 68, 105, 118, 105, 100, 101]⟩,
  ⟨#[73, 110, 116, 101, 103, 101, 114]⟩,
  ⟨#[66, 111, 111, 108, 101, 97, 110]⟩,
  ⟨#[78, 105, 108]⟩,
  ⟨#[83, 116, 114, 105, 110, 103]⟩,
  ⟨#[83, 121, 109, 98, 111, 108]⟩,
  ⟨#[65, 114, 114, 97, 121]⟩,
  ⟨#[66, 108, 111, 99, 107]⟩,
  ⟨#[83, 101, 109, 97, 112, 104, 111, 114, 101]⟩,
  ⟨#[80, 114, 111, 99, 101, 115, 115]⟩,
  ⟨#[84, 114, 97, 110, 115, 99, 114, 105, 112, 116]⟩,
  ⟨#[67, 108, 97, 115, 115]⟩]
end Go.Proofs.YtkmclgofghaeoaaGreat.Builtin

namespace Go.Proofs.YtkmclgofghaeoaaGreat.Mark
open Go.RowKit
def mark (n : Int) : ByteArray := ⟨(109 :: Num.decN n.natAbs).toArray⟩
end Go.Proofs.YtkmclgofghaeoaaGreat.Mark
