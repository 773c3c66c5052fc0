/-
  Plain mathematics: texts joined by a separator, element after element, and how long what comes out is. Nothing of the program is named here.
-/
import Derived.Lib.Join
namespace Go.Proofs.YtamjfbjkdicmcaaGreatDoor.JoinMath
def at_ (xs : List ByteArray) (i : Nat) : ByteArray := xs.getD i ByteArray.empty
def acc (xs : List ByteArray) (sep : ByteArray) : Nat → List UInt8
  | 0 => []
  | i + 1 => if i = 0 then (at_ xs 0).data.toList else acc xs sep i ++ sep.data.toList ++ (at_ xs i).data.toList
theorem acc_one (xs : List ByteArray) (sep : ByteArray) : acc xs sep 1 = acc xs sep 0 ++ (at_ xs 0).data.toList := rfl
theorem acc_more (xs : List ByteArray) (sep : ByteArray) (i : Nat) (h : 0 < i) : acc xs sep (i + 1) = acc xs sep i ++ sep.data.toList ++ (at_ xs i).data.toList := by
  rw [acc, if_neg (by omega)]
theorem acc_join (x : ByteArray) (r : List ByteArray) (sep : ByteArray) (k : Nat) (hk : k ≤ r.length) :
    acc (x :: r) sep (k + 1) = x.data.toList ++ Lib.joinTail sep.data.toList ((r.map (·.data.toList)).take k) := by
  induction k with
  | zero => simp [acc, at_, Lib.joinTail]
  | succ k ih =>
    have hlt : k < r.length := by omega
    rw [acc_more _ _ _ (by omega), ih (by omega), Lib.joinTail_take_succ sep.data.toList (r.map (·.data.toList)) k r[k].data.toList (by rw [List.getElem?_map, List.getElem?_eq_getElem hlt]; rfl)]
    have e : (at_ (x :: r) (k + 1)) = r[k] := by simp [at_, List.getD, hlt]
    rw [e]
    simp [List.append_assoc]
theorem acc_all (xs : List ByteArray) (sep : ByteArray) : acc xs sep xs.length = Lib.join (xs.map (·.data.toList)) sep.data.toList := by
  cases xs with
  | nil => rfl
  | cons x r =>
    rw [List.length_cons, acc_join x r sep r.length (Nat.le_refl _), List.map_cons, Lib.join_cons, List.take_of_length_le (by simp)]
theorem acc_mono (xs : List ByteArray) (sep : ByteArray) (i : Nat) : (acc xs sep i).length ≤ (acc xs sep (i + 1)).length := by
  by_cases h : 0 < i
  · rw [acc_more _ _ _ h]; simp
  · have : i = 0 := by omega
    subst this; simp [acc]
theorem acc_le (xs : List ByteArray) (sep : ByteArray) (i j : Nat) (h : i ≤ j) : (acc xs sep i).length ≤ (acc xs sep j).length := by
  induction j with
  | zero => have : i = 0 := by omega
            subst this; exact Nat.le_refl _
  | succ j ih =>
    by_cases hj : i = j + 1
    · subst hj; exact Nat.le_refl _
    · exact Nat.le_trans (ih (by omega)) (acc_mono xs sep j)
def total (xs : List ByteArray) : Nat → Nat
  | 0 => 0
  | i + 1 => total xs i + (at_ xs i).size
theorem total_le (xs : List ByteArray) (i j : Nat) (h : i ≤ j) : total xs i ≤ total xs j := by
  induction j with
  | zero => have : i = 0 := by omega
            subst this; exact Nat.le_refl _
  | succ j ih =>
    by_cases hj : i = j + 1
    · subst hj; exact Nat.le_refl _
    · rw [total]; have := ih (by omega); omega
theorem at_le (xs : List ByteArray) (i n : Nat) (h : i < n) : (at_ xs i).size ≤ total xs n := by
  have := total_le xs (i + 1) n (by omega)
  rw [total] at this; omega
theorem acc_len (xs : List ByteArray) (sep : ByteArray) (i : Nat) : (acc xs sep i).length ≤ total xs i + i * sep.size := by
  induction i with
  | zero => simp [acc, total]
  | succ i ih =>
    have e1 : sep.data.toList.length = sep.size := by rw [Array.length_toList]; rfl
    have e2 : ∀ s : ByteArray, s.data.toList.length = s.size := fun s => by rw [Array.length_toList]; rfl
    rw [total, Nat.add_mul, Nat.one_mul]
    by_cases h : 0 < i
    · rw [acc_more _ _ _ h]; simp only [List.length_append, e2]; omega
    · have : i = 0 := by omega
      subst this; simp only [acc, if_true, e2]; omega
end Go.Proofs.YtamjfbjkdicmcaaGreatDoor.JoinMath
