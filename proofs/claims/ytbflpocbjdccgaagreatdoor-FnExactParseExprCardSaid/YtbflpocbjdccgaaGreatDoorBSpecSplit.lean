/-
  Small laws over this program that several walks use: one byte as a string, two strings joined. They hold in every world.
  Plain mathematics: the decimal form of an integer, and that it is read again. Nothing of the program is named here.
  laws.markText answers the mark of a positive number, and writes nothing that was there.
  Plain mathematics: the parts of a text between the occurrences of a byte. Nothing of the program is named here.
  impl.SplitByte answers the parts of a text between the occurrences of a byte, in a row of its own, and writes nothing that was there.
  spec.SplitByte answers the parts of a text between the occurrences of a byte, in a row of its own, and writes nothing that was there.
-/
import Derived.Test.YtbflpocbjdccgaaGreatDoorRows
import Derived.WalkKit
import Derived.WalkSpells
import Derived.Lib.Hide
import Derived.Laws.BytesArg
import Derived.Outline
namespace Go.Proofs.YtbflpocbjdccgaaGreatDoor.Kit
open Go.RowKit

/-- string([]byte{c}), the slice in the newest block. -/
theorem conv1 (w : World) (c : Int) :
    (convert 87 9 (.slice (some ⟨w.heap.size, 0, none⟩) 1 1)).run Tryz.prog (w.alloc (.cells #[.int .u8 c] 5)) =
      .ok (.string ⟨[UInt8.ofNat c.toNat].toArray⟩) (w.alloc (.cells #[.int .u8 c] 5)) := by
  have h := run_convert_bytes_arg (P := Tryz.prog) (w.alloc (.cells #[.int .u8 c] 5)) 87 5 Tryz.underlying87 Tryz.underlying5 w.heap.size 0 1 1 [c] rfl
    (fun i hi => by
      have : i = 0 := by omega
      subst this
      simp) 9 Tryz.underlying9
  simpa [strOfNums] using h

theorem add_l (w : World) (a b : List UInt8) (h : a.length + b.length ≤ 9223372036854775807) :
    (Op.stringOp .add ⟨a.toArray⟩ ⟨b.toArray⟩).run Tryz.prog w = .ok (.string ⟨(a ++ b).toArray⟩) w := by
  rw [run_string_add_sum w _ _ (by simpa [ByteArray.size] using h), ByteArray.mk_append_mk]

/-- string(b), b a row of the call's own that holds the bytes l. -/
theorem conv_own (w : World) (base g c cap : Nat) (l : List UInt8) (hl : l.length = c) (h : w.ownsRow base 5 1 (.slice (some ⟨g, 0, none⟩) c cap) c (l.map (fun b => Value.int .u8 b.toNat))) :
    (convert 87 9 (.slice (some ⟨g, 0, none⟩) c cap)).run Tryz.prog w = .ok (.string ⟨l.toArray⟩) w := by
  subst hl
  refine run_convert_bytes_back w 87 9 5 ⟨g, 0, none⟩ cap l Tryz.underlying87 Tryz.underlying5 Tryz.underlying9 (fun j hj => ?_)
  have := h.cellAt j (by omega)
  have e : (⟨g, 0, none⟩ : Addr).add j = ⟨g, j, none⟩ := by unfold Addr.add; split <;> simp_all
  rw [e]
  simpa [hj] using this

/-- One text appended to a row of the call's own: what was there before the call is as it was. -/
theorem app_below {w wr w' : World} {base : Nat} {e : TypeId} {o : Obj} {v : Value} {n : Nat} {xs : List Value} (hb : base ≤ w.heap.size) (h : Below base w wr) (hown : wr.ownsRow base e 1 v n xs) (hg : (wr.alloc o).grownBy w' v.ownBlock) : Below base w w' := by
  have h1 : base ≤ wr.heap.size := Nat.le_trans hb h.size
  exact (h.alloc h1 o).grown hg (by simp; omega) (fun k hk => (hown.lt k hk).1)
theorem one_cells (w : World) (v : Value) (t : TypeId) : ∀ (j : Nat) (u : Value), [v][j]? = some u → (w.alloc (.cells #[v] t)).cell? ((⟨w.heap.size, 0, none⟩ : Addr).add j) = some u := by
  intro j u hj
  match j, hj with
  | 0, hj => simp at hj; subst hj; simp [Addr.add]
theorem one_str (s : ByteArray) : ∀ u : Value, u ∈ [Value.string s] → u.oneCell' = true := by
  intro u hu; simp at hu; subst hu; rfl

/-- string(b), b any row of the call's own that holds the bytes l. -/
theorem conv_row (w : World) (base : Nat) (v : Value) (l : List UInt8) (h : w.ownsRow base 5 1 v l.length (l.map (fun b => Value.int .u8 b.toNat))) :
    (convert 87 9 v).run Tryz.prog w = .ok (.string ⟨l.toArray⟩) w := by
  have h' := h
  obtain ⟨_, ⟨rfl, hn⟩ | ⟨g, cap, cur, rfl, _⟩⟩ := h
  · have : l = [] := List.eq_nil_of_length_eq_zero hn
    subst this
    exact run_convert_bytes_nil w 87 5 Tryz.underlying87 Tryz.underlying5 0 0 9 Tryz.underlying9
  · exact conv_own w base g l.length cap l rfl h'
/-- A row of the call's own is a slice of its length. -/
theorem row_form {w : World} {base : Nat} {e : TypeId} {size : Nat} {v : Value} {n : Nat} {xs : List Value} (h : w.ownsRow base e size v n xs) : ∃ a c, v = .slice a n c := by
  obtain ⟨_, ⟨rfl, hn⟩ | ⟨g, cap, cur, rfl, _⟩⟩ := h
  · exact ⟨none, 0, by rw [hn]⟩
  · exact ⟨_, cap, rfl⟩

/-- What the walk is told of a slice of integers that came in: it is nil; or it leads to a row of 'cap' cells, the numbers 'zs', the first 'len' of which are its elements. -/
def IsRow (k : IntKind) (w : World) (a : Option Addr) (len cap : Nat) (zs : List Int) : Prop :=
  (a = none ∧ len = 0 ∧ cap = 0 ∧ zs = []) ∨
  ∃ x, a = some x ∧ len ≤ cap ∧ cap ≤ maxLen ∧ zs.length = cap ∧ (∀ i, i < zs.length → w.cell? (x.add i) = some (.int k (zs.getD i 0))) ∧ ∀ n ∈ zs, (Lit.int k n).wf = true
/-- The same of a slice of texts. -/
def IsStrs (w : World) (a : Option Addr) (len cap : Nat) (zs : List ByteArray) : Prop :=
  (a = none ∧ len = 0 ∧ cap = 0 ∧ zs = []) ∨
  ∃ x, a = some x ∧ len ≤ cap ∧ cap ≤ maxLen ∧ zs.length = cap ∧ (∀ i, i < zs.length → w.cell? (x.add i) = some (.string (zs.getD i ByteArray.empty))) ∧ ∀ s ∈ zs, s.size ≤ maxLen
theorem one_byte (c : Int) : ∀ u : Value, u ∈ [Value.int .u8 c] → u.oneCell' = true := by
  intro u hu; simp at hu; subst hu; rfl
end Go.Proofs.YtbflpocbjdccgaaGreatDoor.Kit

namespace Go.Proofs.YtbflpocbjdccgaaGreatDoor.Num

/-- The decimal digits of n (none for 0), with fuel. -/
def dec : Nat → Nat → List UInt8
  | 0, _ => []
  | f + 1, n => if n = 0 then [] else dec f (n / 10) ++ [48 + UInt8.ofNat (n % 10)]

theorem dec_zero (f : Nat) : dec f 0 = [] := by cases f <;> simp [dec]

theorem dec_fuel (f : Nat) : ∀ n, n < 10 ^ f → dec (f + 1) n = dec f n := by
  induction f with
  | zero => intro n h; have : n = 0 := by omega
            subst this; simp [dec]
  | succ f ih =>
    intro n h
    rw [dec, dec.eq_2 n f]
    have : n / 10 < 10 ^ f := by rw [Nat.pow_succ] at h; omega
    rw [ih _ this]

def decN (n : Nat) : List UInt8 := dec 20 n

theorem decN_zero : decN 0 = [] := dec_zero _

theorem decN_step (n : Nat) (h : 0 < n) (hb : n ≤ 18446744073709551615) : decN n = decN (n / 10) ++ [48 + UInt8.ofNat (n % 10)] := by
  unfold decN
  rw [dec.eq_2 n 19, if_neg (by omega), dec_fuel 19 (n / 10) (by omega)]

theorem dec_ne (f n : Nat) (h : 0 < n) : dec (f + 1) n ≠ [] := by
  rw [dec, if_neg (by omega)]; simp

/-- The decimal form of an integer. -/
def intText (z : Int) : List UInt8 := if z = 0 then [48] else if z < 0 then 45 :: decN z.natAbs else decN z.natAbs

theorem intText_pos (z : Int) (h : 0 < z) : intText z = decN z.natAbs := by
  unfold intText; rw [if_neg (by omega), if_neg (by omega)]
theorem intText_neg (z : Int) (h : z < 0) : intText z = 45 :: decN z.natAbs := by
  unfold intText; rw [if_neg (by omega), if_pos h]

/-- One step of taking a digit off at the right. -/
theorem step_in (m : Nat) (l r : List UInt8) (h : 0 < m) (hb : m ≤ 18446744073709551615) (hd : decN m ++ l = r) :
    decN (m / 10) ++ ((48 + UInt8.ofNat (m % 10)) :: l) = r := by
  rw [← hd, decN_step m h hb, List.append_assoc]
  rfl

theorem dec_len (f : Nat) : ∀ n, (dec f n).length ≤ f := by
  induction f with
  | zero => intro n; simp [dec]
  | succ f ih => intro n; rw [dec]; split
                 · simp
                 · have := ih (n / 10); simp; omega

theorem decN_len (n : Nat) : (decN n).length ≤ 20 := dec_len _ _
theorem step_in0 (m : Nat) (l r : List UInt8) (h : 0 < m) (hb : m ≤ 18446744073709551615) (h0 : (m : Int) % 10 ≤ 0) (hd : decN m ++ l = r) :
    decN (m / 10) ++ (UInt8.ofNat (48 + -((m : Int) % 10)).toNat :: l) = r := by
  rw [← step_in m l r h hb hd]
  have e1 : (48 + -((m : Int) % 10)).toNat = 48 := by omega
  have e2 : m % 10 = 0 := by omega
  rw [e1, e2]; rfl

theorem suffix_len (a l : List UInt8) (n : Nat) (h : a ++ l = decN n) : l.length ≤ 20 := by
  have h1 := congrArg List.length h
  have := decN_len n
  simp at h1; omega
theorem intText_len (z : Int) : (intText z).length ≤ 21 := by
  unfold intText
  have := decN_len z.natAbs
  split
  · simp
  · split
    · simp; omega
    · omega

def natText (n : Nat) : List UInt8 := if n = 0 then [48] else decN n
theorem intText_nat (n : Int) : intText n = if n < 0 then 45 :: natText n.natAbs else natText n.natAbs := by
  unfold intText natText
  by_cases h : n = 0
  · subst h; rfl
  · rw [if_neg h]; simp only [show ¬ n.natAbs = 0 by omega, if_false]
theorem natText_small (n : Nat) (h : n < 10) : natText n = [48 + UInt8.ofNat n] := by
  unfold natText
  split
  · next h => subst h; rfl
  · rw [decN_step n (by omega) (by omega), show n / 10 = 0 by omega, decN_zero, show n % 10 = n by omega]; rfl
theorem natText_step (n : Nat) (h : ¬ n < 10) (hb : n ≤ 18446744073709551615) : natText n = natText (n / 10) ++ [48 + UInt8.ofNat (n % 10)] := by
  unfold natText
  rw [if_neg (by omega), if_neg (by omega), decN_step n (by omega) hb]

/-- How many decimal digits n has (1 for 0). -/
def cnt (n : Nat) : Nat := if n = 0 then 1 else (decN n).length
theorem cnt_le (n : Nat) : cnt n ≤ 20 := by
  unfold cnt; have := decN_len n; split <;> omega
theorem cnt_pos (n : Nat) : 1 ≤ cnt n := by
  unfold cnt
  split
  · omega
  · have h := dec_ne 19 n (by omega)
    have := List.length_pos_iff.2 h
    exact this
theorem cnt_small (n : Nat) (h : n < 10) : cnt n = 1 := by
  unfold cnt
  split
  · rfl
  · rw [decN_step n (by omega) (by omega), show n / 10 = 0 by omega, decN_zero]; rfl
theorem cnt_step (n : Nat) (h : ¬ n < 10) (hb : n ≤ 18446744073709551615) : cnt n = cnt (n / 10) + 1 := by
  unfold cnt
  rw [if_neg (by omega), if_neg (by omega), decN_step n (by omega) hb]
  simp

theorem natText_len (n : Nat) : (natText n).length = cnt n := by
  unfold natText cnt; split <;> rfl
theorem digit_toNat (d : Nat) (h : d < 10) : ((48 : UInt8) + UInt8.ofNat d).toNat = 48 + d := by
  rw [UInt8.toNat_add, UInt8.toNat_ofNat_of_lt' (by show d < 256; omega)]
  show (48 + d) % 256 = 48 + d
  omega

/-- The k-th digit from the right. -/
theorem natText_at (k : Nat) : ∀ n, n ≤ 18446744073709551615 → k < cnt n → (natText n).getD (cnt n - 1 - k) 0 = 48 + UInt8.ofNat (n / 10 ^ k % 10) := by
  induction k with
  | zero =>
    intro n hb hk
    by_cases h : n < 10
    · rw [natText_small n h, cnt_small n h]; simp [Nat.mod_eq_of_lt h]
    · have hl := natText_len (n / 10)
      rw [natText_step n h hb, cnt_step n h hb]
      simp [List.getD, ← hl]
  | succ k ih =>
    intro n hb hk
    by_cases h : n < 10
    · rw [cnt_small n h] at hk; omega
    · have hl := natText_len (n / 10)
      rw [cnt_step n h hb] at hk ⊢
      have := ih (n / 10) (by omega) (by omega)
      rw [natText_step n h hb, Nat.pow_succ, Nat.mul_comm, ← Nat.div_div_eq_div_mul, ← this]
      have e : cnt (n / 10) + 1 - 1 - (k + 1) = cnt (n / 10) - 1 - k := by omega
      rw [e, List.getD, List.getD, List.getElem?_append_left (by omega)]

/-- What stands in the buffer when k digits have been laid from the right. -/
def Laid (t : List UInt8) (c k : Nat) (buf : List Int) : Prop := buf.length = c ∧ ∀ j, c - k ≤ j → j < c → buf.getD j 0 = ((t.getD j 0).toNat : Int)
theorem laid_start (t : List UInt8) (c : Nat) : Laid t c 0 (List.replicate c 0) := ⟨by simp, fun j h1 h2 => by omega⟩
theorem laid_step (n c k m : Nat) (buf : List Int) (hc : cnt n = c) (hn : n ≤ 18446744073709551615) (hk : k < c) (hm : m = n / 10 ^ k) (h : Laid (natText n) c k buf) :
    Laid (natText n) c (k + 1) (buf.set (c - 1 - k) (48 + (m : Int) % 10)) := by
  refine ⟨by simp [h.1], fun j h1 h2 => ?_⟩
  have h1' := h.1
  by_cases hj : j = c - 1 - k
  · subst hj
    have := natText_at k n hn (by omega)
    rw [hc, ← hm] at this
    rw [this, digit_toNat _ (by omega)]
    simp [List.getD, h1', show c - 1 - k < c by omega]
  · rw [← h.2 j (by omega) h2]
    simp [List.getD, show ¬ c - 1 - k = j by omega]
theorem laid_end (t : List UInt8) (c : Nat) (buf : List Int) (ht : t.length = c) (h : Laid t c c buf) : buf = t.map (fun b => (b.toNat : Int)) := by
  apply List.ext_getElem
  · simp [h.1, ht]
  · intro j h1 h2
    have h3 := h.2 j (by omega) (by rw [← h.1]; exact h1)
    have h4 : j < t.length := by simpa using h2
    simpa [List.getD, h1, h4] using h3
end Go.Proofs.YtbflpocbjdccgaaGreatDoor.Num

namespace Go.Proofs.YtbflpocbjdccgaaGreatDoor.Mark
open Go.RowKit
def mark (n : Int) : ByteArray := ⟨(109 :: Num.decN n.natAbs).toArray⟩
set_option maxHeartbeats 400000 in
theorem mark_any (n : Int) (w : World) (h1 : 0 < n) (h2 : n ≤ 9223372036854775807) :
    Calls Tryz.prog 45 #[.int .i64 n] w fun e w' => e = .returned (.string (mark n)) ∧ Below w.heap.size w w' := by
  have hn : decide (n ≤ 0) = false := by simp; omega
  have hcv := Kit.conv1
  go_enter Tryz.func45, Tryz.ntmps45
  go_wp2_with fail
  go_loopw [0, 3] (fun t s wr => ∃ (m : Nat) (l : List UInt8), (m : Int) ≤ n ∧ l.length ≤ 20 ∧ t = .int .i64 m ∧ s = .string ⟨l.toArray⟩ ∧ Num.decN m ++ l = Num.decN n.natAbs ∧ Below w.heap.size w wr)
    (fun t _ _ => (intOf t).toNat)
  case atStart => exact ⟨n.natAbs, [], by omega, by simp, by congr 1; omega, rfl, by simp, Below.refl _ _⟩
  case round =>
    obtain ⟨m, l, hm, hl, rfl, rfl, hd, hbl⟩ := hrel
    have HD := Lib.hid hd; clear hd
    by_cases hz : m = 0
    · subst hz
      go_wp2_with fail
      go_ret
      exact ⟨by unfold mark; rw [← HD.out, Num.decN_zero, ByteArray.mk_append_mk]; rfl, hbl⟩
    · have hz' : (0 : Int) < (m : Int) := by omega
      have hmd : ¬ ((m : Int) % 10 < 0) := by omega
      have hz3 : m ≤ 18446744073709551615 := by omega
      go_wp2_with fail
      go_roundw
      case rel =>
        have HE := Num.step_in m l _ (by omega) hz3 HD.out
        exact ⟨m / 10, _, by omega, Num.suffix_len _ _ _ HE, by go_num, by rw [ByteArray.mk_append_mk]; rfl, HE, hbl.alloc (by have := hbl.size; omega) _⟩
      case measure => simp [intOf]; omega

end Go.Proofs.YtbflpocbjdccgaaGreatDoor.Mark

namespace Go.Proofs.YtbflpocbjdccgaaGreatDoor.Cuts

/-- The parts that end before place i, and where the next one begins. -/
def cuts (s : ByteArray) (b : Int) : Nat → List ByteArray × Nat
  | 0 => ([], 0)
  | i + 1 => if h : i < s.size then (if ((s[i]'h).toNat : Int) = b then ((cuts s b i).1 ++ [s.extract (cuts s b i).2 i], i + 1) else cuts s b i) else cuts s b i

theorem cuts_hit (s : ByteArray) (b : Int) (i : Nat) (h : i < s.size) (hb : ((s[i]'h).toNat : Int) = b) : cuts s b (i + 1) = ((cuts s b i).1 ++ [s.extract (cuts s b i).2 i], i + 1) := by
  rw [cuts, dif_pos h, if_pos hb]
theorem cuts_miss (s : ByteArray) (b : Int) (i : Nat) (h : i < s.size) (hb : ¬ ((s[i]'h).toNat : Int) = b) : cuts s b (i + 1) = cuts s b i := by
  rw [cuts, dif_pos h, if_neg hb]
theorem cuts_le (s : ByteArray) (b : Int) (i : Nat) : (cuts s b i).2 ≤ i ∧ (cuts s b i).1.length ≤ i := by
  induction i with
  | zero => exact ⟨Nat.le_refl _, Nat.le_refl _⟩
  | succ i ih =>
    rw [cuts]
    split
    · split
      · simp; omega
      · omega
    · omega
def parts (s : ByteArray) (b : Int) : List ByteArray := (cuts s b s.size).1 ++ [s.extract (cuts s b s.size).2 s.size]
theorem parts_len (s : ByteArray) (b : Int) : 1 ≤ (parts s b).length ∧ (parts s b).length ≤ s.size + 1 := by
  have := (cuts_le s b s.size).2
  unfold parts; simp; exact this
end Go.Proofs.YtbflpocbjdccgaaGreatDoor.Cuts

namespace Go.Proofs.YtbflpocbjdccgaaGreatDoor.ImplSplit
open Go.RowKit
theorem info9 : (Tryz.prog.info? 9).map (fun i => (i.zero, i.size, i.bytes)) = some (some (.string ByteArray.empty), 1, 16) := by kernel_rfl

/-- What the call hands back: a row of its own that holds the texts xs. -/
def Made (w : World) (xs : List ByteArray) (e : Ending) (w' : World) : Prop :=
  ∃ v, e = .returned v ∧ w'.ownsRow w.heap.size 9 1 v xs.length (xs.map Value.string) ∧ Below w.heap.size w w'

set_option maxHeartbeats 1000000 in
theorem split_any (s : ByteArray) (b : Int) (w : World) (hs : s.size ≤ 1048576) :
    Calls Tryz.prog 134 #[.string s, .int .u8 b] w (Made w (Cuts.parts s b)) := by
  obtain ⟨i0, hi, hz0, hz1, hz2⟩ := info_parts info9
  go_enter Tryz.func134, Tryz.ntmps134
  go_wp2_with fail
  go_loopw [5, 6, 10] (fun v f j wr => ∃ i : Nat, i ≤ s.size ∧ j = .int .i64 i ∧ f = .int .i64 ((Cuts.cuts s b i).2 : Nat) ∧
      wr.ownsRow w.heap.size 9 1 v (Cuts.cuts s b i).1.length ((Cuts.cuts s b i).1.map Value.string) ∧ Below w.heap.size w wr)
    (fun _ _ j _ => s.size - (intOf j).toNat)
  case atStart => exact ⟨0, Nat.zero_le _, rfl, rfl, World.ownsRow_nil _ _ _ _, Below.refl _ _⟩
  case round =>
    obtain ⟨i, hi', rfl, rfl, hown, hbw⟩ := hrel
    have hle := Cuts.cuts_le s b i
    by_cases hlt : i < s.size
    · by_cases hb : ((s[i]'hlt).toNat : Int) = b
      · have HH := Lib.hid (Cuts.cuts_hit s b i hlt hb)
        have hbb : (((s[i]'hlt).toNat : Int) == b) = true := by simpa using hb
        clear hb
        obtain ⟨hf1, hl1⟩ := hle
        generalize (Cuts.cuts s b i).2 = f at *
        generalize (Cuts.cuts s b i).1 = xs at *
        go_wp2_with (at_builtin; refine wpList_append_own _ rfl _ _ 22 rfl w.heap.size 9 i0 (.string ByteArray.empty) 1 16 Tryz.underlying22 hi hz0 hz1 hz2 rfl (by decide) _ _ _ rfl (hown.alloc _) ⟨wr.heap.size, 0, none⟩ 1 1 [.string (s.extract f i)] rfl rfl ?c1 ?c2 ?c3 ?c4 ?c5 ?_)
        case c1 => exact Kit.one_cells _ _ _
        case c2 => exact Kit.one_str _
        case c3 => unfold maxLen; omega
        case c4 => omega
        case c5 => have := hbw.size; simp; omega
        intro v' w1 hown' hgr _
        have hb1 := Kit.app_below (Nat.le_refl _) hbw hown hgr
        clear hgr hown
        go_wp2_with fail
        go_roundw
        case rel => exact ⟨i + 1, by omega, by go_num, by rw [HH.out]; go_num, by rw [HH.out]; simpa using hown', hb1⟩
        case measure => simp [intOf]; omega
      · have HH := Lib.hid (Cuts.cuts_miss s b i hlt hb)
        have hbb : (((s[i]'hlt).toNat : Int) == b) = false := by simpa using hb
        clear hb
        go_wp2_with fail
        go_roundw
        case rel => exact ⟨i + 1, by omega, by go_num, by rw [HH.out], by rw [HH.out]; exact hown, hbw⟩
        case measure => simp [intOf]; omega
    · have HP : Hid (Cuts.parts s b = (Cuts.cuts s b i).1 ++ [s.extract (Cuts.cuts s b i).2 s.size]) := by
        have : i = s.size := by omega
        subst this; rfl
      obtain ⟨hf1, hl1⟩ := hle
      have hf2 : (Cuts.cuts s b i).2 ≤ s.size := by omega
      generalize (Cuts.cuts s b i).2 = f at *
      generalize (Cuts.cuts s b i).1 = xs at *
      go_wp2_with (at_builtin; refine wpList_append_own _ rfl _ _ 22 rfl w.heap.size 9 i0 (.string ByteArray.empty) 1 16 Tryz.underlying22 hi hz0 hz1 hz2 rfl (by decide) _ _ _ rfl (hown.alloc _) ⟨wr.heap.size, 0, none⟩ 1 1 [.string (s.extract f s.size)] rfl rfl ?c1 ?c2 ?c3 ?c4 ?c5 ?_)
      case c1 => exact Kit.one_cells _ _ _
      case c2 => exact Kit.one_str _
      case c3 => unfold maxLen; omega
      case c4 => omega
      case c5 => have := hbw.size; simp; omega
      intro v' w1 hown' hgr _
      have hb1 := Kit.app_below (Nat.le_refl _) hbw hown hgr
      clear hgr hown
      go_wp2_with fail
      go_ret
      exact ⟨v', rfl, by rw [HP.out]; simpa using hown', hb1⟩
end Go.Proofs.YtbflpocbjdccgaaGreatDoor.ImplSplit

namespace Go.Proofs.YtbflpocbjdccgaaGreatDoor.SpecSplit
open Go.RowKit
open ImplSplit

set_option maxHeartbeats 1000000 in
theorem split_any (s : ByteArray) (b : Int) (w : World) (hs : s.size ≤ 1048576) :
    Calls Tryz.prog 99 #[.string s, .int .u8 b] w (Made w (Cuts.parts s b)) := by
  obtain ⟨i0, hi, hz0, hz1, hz2⟩ := info_parts info9
  go_enter Tryz.func99, Tryz.ntmps99
  go_wp2_with fail
  go_loopw [5, 6, 7] (fun v f j wr => ∃ (i : Nat) (xs : List ByteArray) (k : Nat), i ≤ s.size + 1 ∧ (i ≤ s.size → Cuts.cuts s b i = (xs, k)) ∧ (i = s.size + 1 → Cuts.parts s b = xs) ∧ k ≤ i ∧ xs.length ≤ i ∧ j = .int .i64 i ∧ f = .int .i64 k ∧
      wr.ownsRow w.heap.size 9 1 v xs.length (xs.map Value.string) ∧ Below w.heap.size w wr)
    (fun _ _ j _ => s.size + 1 - (intOf j).toNat)
  case atStart =>
    exact ⟨0, [], 0, by omega, fun _ => rfl, fun h => by omega, by omega, by simp, rfl, rfl, World.ownsRow_lit w #[] 0 (Nat.le_refl _) (Nat.zero_le _) rfl, (Below.refl _ _).alloc (Nat.le_refl _) _⟩
  case round =>
    obtain ⟨i, xs, f, hi', hc, hp, hf, hl, rfl, rfl, hown, hbw⟩ := hrel
    have HC := Lib.hid hc; clear hc
    have HP := Lib.hid hp; clear hp
    by_cases hend : i = s.size + 1
    · have hgt : ¬ (i : Int) ≤ (s.size : Int) := by omega
      have HE := Lib.hid hend; clear hend
      go_wp2_with fail
      go_ret
      exact ⟨_, rfl, by rw [HP.out HE.out]; exact hown, hbw⟩
    · have hle : (i : Int) ≤ (s.size : Int) := by omega
      by_cases hlast : i = s.size
      · have he : ((i : Int) == (s.size : Int)) = true := by rw [beq_iff_eq]; omega
        have HN : Hid (Cuts.parts s b = xs ++ [s.extract f i]) := by
          have := HC.out (by omega)
          subst hlast
          show _ = _
          rw [Cuts.parts, this]
        have HL := Lib.hid hlast; clear hlast hend
        go_wp2_with (at_builtin; refine wpList_append_own _ rfl _ _ 22 rfl w.heap.size 9 i0 (.string ByteArray.empty) 1 16 Tryz.underlying22 hi hz0 hz1 hz2 rfl (by decide) _ _ _ rfl (hown.alloc _) ⟨wr.heap.size, 0, none⟩ 1 1 [.string (s.extract f i)] rfl rfl ?c1 ?c2 ?c3 ?c4 ?c5 ?_)
        case c1 => exact Kit.one_cells _ _ _
        case c2 => exact Kit.one_str _
        case c3 => unfold maxLen; omega
        case c4 => omega
        case c5 => have := hbw.size; simp; omega
        intro v' w1 hown' hgr _
        have hb1 := Kit.app_below (Nat.le_refl _) hbw hown hgr
        clear hgr hown
        go_wp2_with fail
        go_roundw
        case rel => exact ⟨i + 1, _, i + 1, by omega, fun h => by have := HL.out; omega, fun _ => HN.out, by omega, by simp; omega, by go_num, by go_num, by simpa using hown', hb1⟩
        case measure => simp [intOf]; have := HL.out; omega
      · have hlt : i < s.size := by omega
        have he : ((i : Int) == (s.size : Int)) = false := by rw [beq_eq_false_iff_ne]; omega
        clear hlast hend
        by_cases hb : ((s[i]'hlt).toNat : Int) = b
        · have HN : Hid (Cuts.cuts s b (i + 1) = (xs ++ [s.extract f i], i + 1)) := by
            show _ = _
            rw [Cuts.cuts_hit s b i hlt hb, HC.out (by omega)]
          have hbb : (((s[i]'hlt).toNat : Int) == b) = true := by simpa using hb
          clear hb
          go_wp2_with (at_builtin; refine wpList_append_own _ rfl _ _ 22 rfl w.heap.size 9 i0 (.string ByteArray.empty) 1 16 Tryz.underlying22 hi hz0 hz1 hz2 rfl (by decide) _ _ _ rfl (hown.alloc _) ⟨wr.heap.size, 0, none⟩ 1 1 [.string (s.extract f i)] rfl rfl ?c1 ?c2 ?c3 ?c4 ?c5 ?_)
          case c1 => exact Kit.one_cells _ _ _
          case c2 => exact Kit.one_str _
          case c3 => unfold maxLen; omega
          case c4 => omega
          case c5 => have := hbw.size; simp; omega
          intro v' w1 hown' hgr _
          have hb1 := Kit.app_below (Nat.le_refl _) hbw hown hgr
          clear hgr hown
          go_wp2_with fail
          go_roundw
          case rel => exact ⟨i + 1, _, i + 1, by omega, fun _ => HN.out, fun h => by omega, by omega, by simp; omega, by go_num, by go_num, by simpa using hown', hb1⟩
          case measure => simp [intOf]; omega
        · have HN : Hid (Cuts.cuts s b (i + 1) = (xs, f)) := by
            show _ = _
            rw [Cuts.cuts_miss s b i hlt hb, HC.out (by omega)]
          have hbb : (((s[i]'hlt).toNat : Int) == b) = false := by simpa using hb
          clear hb
          go_wp2_with fail
          go_roundw
          case rel => exact ⟨i + 1, _, f, by omega, fun _ => HN.out, fun h => by omega, by omega, by omega, by go_num, rfl, hown, hbw⟩
          case measure => simp [intOf]; omega
end Go.Proofs.YtbflpocbjdccgaaGreatDoor.SpecSplit
