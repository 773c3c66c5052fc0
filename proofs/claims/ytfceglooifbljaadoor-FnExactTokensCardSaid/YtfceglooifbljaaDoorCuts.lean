/-
  Plain mathematics: the parts of a text between the occurrences of a byte. Nothing of the program is named here.
-/
namespace Go.Proofs.YtfceglooifbljaaDoor.Cuts

/-- The parts that end before place i, and where the next one begins. -/
def cuts (s : ByteArray) (b : Int) : Nat → List ByteArray × Nat
  | 0 => ([], 0)
  | i + 1 => if h : i < s.size then (if ((s[i]'h).toNat : Int) = b then ((cuts s b i).1 ++ [s.extract (cuts s b i).2 i], i + 1) else cuts s b i) else cuts s b i

theorem cuts_hit (s : ByteArray) (b : Int) (i : Nat) (h : i < s.size) (hb : ((s[i]'h).toNat : Int) = b) : cuts s b (i + 1) = ((cuts s b i).1 ++ [s.extract (cuts s b i).2 i], i + 1) := by
  rw [cuts, dif_pos h, if_pos hb]
theorem cuts_miss (s : ByteArray) (b : Int) (i : Nat) (h : i < s.size) (hb : ¬ ((s[i]'h).toNat : Int) = b) : cuts s b (i + 1) = cuts s b i := by
  rw [cuts, dif_pos h, if_neg hb]
theorem cuts_le (s : ByteArray) (b : Int) (i : Nat) : (cuts s b i).2 ≤ i ∧ (cuts s b i).1.length ≤ i := by
  induction i with
  | zero => exact ⟨Nat.le_refl _, Nat.le_refl _⟩
  | succ i ih =>
    rw [cuts]
    split
    · split
      · simp; omega
      · omega
    · omega
def parts (s : ByteArray) (b : Int) : List ByteArray := (cuts s b s.size).1 ++ [s.extract (cuts s b s.size).2 s.size]
theorem parts_len (s : ByteArray) (b : Int) : 1 ≤ (parts s b).length ∧ (parts s b).length ≤ s.size + 1 := by
  have := (cuts_le s b s.size).2
  unfold parts; simp; exact this
end Go.Proofs.YtfceglooifbljaaDoor.Cuts
