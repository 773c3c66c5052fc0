/-
  The text of a value: plain mathematics, and how long it is.
  strings.Contains of one byte answers as the library's contract says, at this program's own numbers.
-/
import Derived.Test.YtoaocpfehdcfgaaGreatDoorBNum
import Derived.Test.YtoaocpfehdcfgaaGreatDoorBSpecJoin
import Derived.Test.YtoaocpfehdcfgaaGreatDoorBStoAt
import Derived.Shelf.Strings.Search3
import Derived.Test.YtoaocpfehdcfgaaGreatDoorRows
namespace Go.Proofs.YtoaocpfehdcfgaaGreatDoor.Pv
open Go.RowKit
open Strs Core Sto JoinMath
def tx (l : List UInt8) : ByteArray := ⟨l.toArray⟩
theorem tx_list (l : List UInt8) : (tx l).data.toList = l := by simp [tx]
theorem tx_size (l : List UInt8) : (tx l).size = l.length := by simp [tx, ByteArray.size]
def spc : ByteArray := ⟨#[32]⟩
def vowels : List ByteArray := [⟨#[65]⟩, ⟨#[69]⟩, ⟨#[73]⟩, ⟨#[79]⟩, ⟨#[85]⟩]
def art (nm : ByteArray) : List UInt8 := (if Tok.has vowels (nm.extract 0 1) then [97, 110, 32] else [97, 32]) ++ nm.data.toList
def nameOf (cs : List I) (k : Int) : ByteArray := match cs[k.toNat]? with
  | none => ByteArray.empty
  | some c => c.name
def cut (l : List UInt8) : List UInt8 := l.take 200
def printV (s : St) (arr : List V → List UInt8) (v : V) : List UInt8 :=
  if v.kind = 0 then [110, 105, 108]
  else if v.kind = 1 then (if v.num = 1 then [116, 114, 117, 101] else [102, 97, 108, 115, 101])
  else if v.kind = 2 then Num.intText v.num
  else if v.kind = 3 then cut (Tok.fmt 4 v.text.data.toList 0)
  else if v.kind = 4 then 35 :: v.text.data.toList
  else if v.kind = 5 then (nameOf s.classes v.num).data.toList
  else if v.kind = 7 then [97, 32, 66, 108, 111, 99, 107]
  else match s.objects[v.num.toNat]? with
    | none => []
    | some o => if o.kind = 2 then arr o.fields else art (nameOf s.classes o.cls)
def txs (f : V → List UInt8) (fs : List V) : List ByteArray := fs.map fun v => tx (f v)
def inner (f : V → List UInt8) (fs : List V) (i : Nat) : List UInt8 := acc (txs f fs) spc i
def whole (f : V → List UInt8) (fs : List V) : List UInt8 := cut (40 :: (inner f fs fs.length ++ [41]))
def printD (s : St) : Nat → V → List UInt8
  | 0 => printV s fun _ => [46, 46, 46]
  | d + 1 => printV s (whole (printD s d))
def printAns (s : St) (v : V) : ByteArray := if stoB s 1000 && fitB s.classes.length s.objects.length 1000 v then tx (printD s 3 v) else ByteArray.empty
theorem acc_pre (xs : List ByteArray) (sep : ByteArray) (i j : Nat) (h : i ≤ j) : ∃ r, acc xs sep j = acc xs sep i ++ r := by
  induction j with
  | zero => exact ⟨[], by rw [show i = 0 by omega, List.append_nil]⟩
  | succ j ih =>
    by_cases hj : i = j + 1
    · subst hj; exact ⟨[], by rw [List.append_nil]⟩
    · obtain ⟨r, hr⟩ := ih (by omega)
      by_cases h0 : 0 < j
      · exact ⟨r ++ sep.data.toList ++ (at_ xs j).data.toList, by rw [acc_more _ _ _ h0, hr]; simp only [List.append_assoc]⟩
      · have : j = 0 := by omega
        subst this
        have : i = 0 := by omega
        subst this
        exact ⟨(at_ xs 0).data.toList, by rw [acc_one]⟩
theorem cut_early (f : V → List UInt8) (fs : List V) (i : Nat) (hi : i ≤ fs.length) (h : 200 < (40 :: inner f fs i).length) : cut (40 :: (inner f fs i ++ [41])) = whole f fs := by
  obtain ⟨r, hr⟩ := acc_pre (txs f fs) spc i fs.length hi
  unfold whole cut inner at *
  rw [hr]
  rw [show (40 :: (acc (txs f fs) spc i ++ r ++ [41])) = (40 :: acc (txs f fs) spc i) ++ (r ++ [41]) by simp]
  rw [show (40 :: (acc (txs f fs) spc i ++ [41])) = (40 :: acc (txs f fs) spc i) ++ [41] by simp]
  rw [List.take_append_of_le_length (by omega), List.take_append_of_le_length (by omega)]
theorem cuts_sum (s : ByteArray) (b : Int) (i : Nat) (hi : i ≤ s.size) : ((Cuts.cuts s b i).1.map (·.size)).sum + (Cuts.cuts s b i).1.length = (Cuts.cuts s b i).2 := by
  induction i with
  | zero => rfl
  | succ i ih =>
    have h := ih (by omega)
    have hl := (Cuts.cuts_le s b i).1
    by_cases hb : ((s[i]'(by omega)).toNat : Int) = b
    · rw [Cuts.cuts_hit s b i (by omega) hb]
      simp only [List.map_append, List.map_cons, List.map_nil, List.sum_append, List.sum_cons, List.sum_nil, List.length_append, List.length_cons, List.length_nil, ByteArray.size_extract]
      omega
    · rw [Cuts.cuts_miss s b i (by omega) hb]; exact h
theorem sum_le (l : List ByteArray) (m : Nat) (h : ∀ x, x ∈ l → x.size ≤ m) : (l.map (·.size)).sum ≤ l.length * m := by
  induction l with
  | nil => simp
  | cons x xs ih =>
    have h1 := h x (by simp)
    have h2 := ih fun y hy => h y (by simp [hy])
    rw [List.map_cons, List.sum_cons, List.length_cons, Nat.succ_mul]
    omega
theorem name20_size {s : ByteArray} (h : Tok.name20 s.data.toList = true) : 1 ≤ s.size ∧ s.size ≤ 20 := by
  unfold Tok.name20 at h
  rw [Bool.and_eq_true, Bool.and_eq_true, Bool.and_eq_true, decide_eq_true_eq, decide_eq_true_eq, Tok.len_list] at h
  exact ⟨h.1.1.1, h.1.1.2⟩
theorem isName_size {s : ByteArray} (h : Tok.isName s = true) : 1 ≤ s.size ∧ s.size ≤ 20 := by
  unfold Tok.isName at h
  rw [Bool.and_eq_true] at h
  exact name20_size h.1
theorem sel_size {s : ByteArray} (h : Tok.sel s = true) : s.size ≤ 100 := by
  unfold Tok.sel at h
  rw [Bool.or_eq_true] at h
  rcases h with h | h
  · unfold Tok.has at h
    rw [List.any_eq_true] at h
    obtain ⟨x, hx, he⟩ := h
    have h1 : x.size ≤ 2 := by
      have : ∀ x ∈ Tok.binaries, x.size ≤ 2 := by decide
      exact this x hx
    have h2 := eq_of_beq he
    have h3 : x.data.toList.length = s.data.toList.length := by rw [← ByteArray.toList_eq, ← ByteArray.toList_eq, h2]
    rw [Tok.len_list, Tok.len_list] at h3
    omega
  · by_cases hp : 1 < (Cuts.parts s 58).length
    · rw [if_pos hp] at h
      unfold Tok.keys at h
      rw [Bool.and_eq_true, Bool.and_eq_true, decide_eq_true_eq, List.all_eq_true] at h
      obtain ⟨⟨h1, h2⟩, h3⟩ := h
      have hs := cuts_sum s 58 s.size (Nat.le_refl _)
      have hle := (Cuts.cuts_le s 58 s.size).1
      unfold Cuts.parts at h1 h2 h3
      rw [List.dropLast_concat] at h2
      rw [List.length_append, List.length_singleton] at h3
      have h4 := sum_le (Cuts.cuts s 58 s.size).1 20 fun x hx => (name20_size (h2 x hx)).2
      have h5 : (s.extract (Cuts.cuts s 58 s.size).2 s.size).size = 0 := by
        rw [List.getLast?_concat, Option.getD_some, List.isEmpty_iff, ByteArray.toList_eq] at h1
        rw [← Tok.len_list, h1]; rfl
      rw [ByteArray.size_extract] at h5
      have h6 : (Cuts.cuts s 58 s.size).1.length * 20 ≤ 4 * 20 := Nat.mul_le_mul_right _ (by omega)
      omega
    · rw [if_neg hp] at h
      have := isName_size h
      omega
theorem names_size : ∀ i, i < 16 → 1 ≤ (Builtin.names.getD i ByteArray.empty).size ∧ (Builtin.names.getD i ByteArray.empty).size ≤ 20 := by decide
theorem class_name {cs : List I} (h : infosB cs = true) {k : Nat} {c : I} (hc : cs[k]? = some c) : 1 ≤ c.name.size ∧ c.name.size ≤ 20 := by
  have hk := (List.getElem?_eq_some_iff.1 hc).1
  unfold infosB at h
  rw [Bool.and_eq_true, List.all_eq_true] at h
  have hi := h.2 k (List.mem_range.2 hk)
  unfold infoB at hi
  rw [hc] at hi
  simp only [] at hi
  by_cases h16 : k < 16
  · rw [if_pos h16] at hi
    unfold isB at hi
    rw [Bool.and_eq_true, decide_eq_true_eq] at hi
    rw [hi.1]
    exact names_size k h16
  · rw [if_neg h16, Bool.and_eq_true] at hi
    have h2 := hi.1
    unfold placeB at h2
    rw [Bool.and_eq_true] at h2
    exact isName_size h2.1
theorem block_name {cs : List I} (h : infosB cs = true) {c : I} (hc : cs[11]? = some c) : c.name = ⟨#[66, 108, 111, 99, 107]⟩ := by
  have hk := (List.getElem?_eq_some_iff.1 hc).1
  unfold infosB at h
  rw [Bool.and_eq_true, List.all_eq_true] at h
  have hi := h.2 11 (List.mem_range.2 hk)
  unfold infoB at hi
  rw [hc] at hi
  simp only [] at hi
  rw [if_pos (by decide)] at hi
  unfold isB at hi
  rw [Bool.and_eq_true, decide_eq_true_eq] at hi
  rw [hi.1]
  rfl
theorem art_block : art ⟨#[66, 108, 111, 99, 107]⟩ = [97, 32, 66, 108, 111, 99, 107] := by
  have e : (⟨#[66, 108, 111, 99, 107]⟩ : ByteArray).extract 0 1 = ⟨#[66]⟩ := by
    apply ByteArray.ext
    simp
  have h : Tok.has vowels ⟨#[66]⟩ = false := by
    unfold Tok.has vowels
    simp [ByteArray.toList_eq]
  unfold art
  rw [e, h]
  rfl
theorem form_cls {cs : List I} {o : O} (hi : infosB cs = true) (h : formB cs o = true) : 0 ≤ o.cls ∧ o.cls < (cs.length : Int) := by
  have hl := infos_len hi
  unfold formB at h
  by_cases h1 : o.kind = 1
  · rw [if_pos h1, Bool.and_eq_true] at h
    have h2 := h.1
    unfold canB at h2
    rw [Bool.or_eq_true, Bool.and_eq_true, Bool.and_eq_true] at h2
    simp only [decide_eq_true_eq] at h2
    omega
  · rw [if_neg h1] at h
    by_cases h2 : o.kind = 2
    · rw [if_pos h2, Bool.and_eq_true, decide_eq_true_eq] at h
      omega
    · rw [if_neg h2] at h
      by_cases h3 : o.kind = 3
      · rw [if_pos h3, Bool.and_eq_true, decide_eq_true_eq] at h
        omega
      · rw [if_neg h3] at h; cases h
theorem form_arr {cs : List I} {o : O} (h : formB cs o = true) (hk : o.kind = 2) : o.fields.length ≤ 50 := by
  unfold formB at h
  rw [hk, if_neg (by decide), if_pos rfl, Bool.and_eq_true, Bool.and_eq_true, decide_eq_true_eq, decide_eq_true_eq] at h
  exact h.2.1
theorem sto_obj {s : St} {nb : Int} (h : stoB s nb = true) {i : Nat} {o : O} (ho : s.objects[i]? = some o) : formB s.classes o = true ∧ ∀ v, v ∈ o.fields → fitB s.classes.length s.objects.length nb v = true := by
  unfold stoB at h
  rw [Bool.and_eq_true, Bool.and_eq_true, Bool.and_eq_true] at h
  have := List.all_eq_true.1 h.2.2.2 o (List.mem_of_getElem? ho)
  unfold objB at this
  rw [Bool.and_eq_true, List.all_eq_true] at this
  exact this
theorem sto_infos {s : St} {nb : Int} (h : stoB s nb = true) : infosB s.classes = true := by
  unfold stoB at h
  rw [Bool.and_eq_true] at h
  exact h.1
theorem nameOf_size {cs : List I} (h : infosB cs = true) (k : Int) : (nameOf cs k).size ≤ 20 := by
  unfold nameOf
  cases hc : cs[k.toNat]? with
  | none => decide
  | some c => exact (class_name h hc).2
theorem art_len {cs : List I} (h : infosB cs = true) (k : Int) : (art (nameOf cs k)).length ≤ 23 := by
  have := nameOf_size h k
  unfold art
  rw [List.length_append, Tok.len_list]
  split
  · simp; omega
  · simp; omega
theorem print_len {s : St} (h : infosB s.classes = true) (arr : List V → List UInt8) (ha : ∀ fs, (arr fs).length ≤ 200) (v : V) (hv : valB v = true) : (printV s arr v).length ≤ 200 := by
  unfold printV
  by_cases h0 : v.kind = 0
  · rw [if_pos h0]; decide
  rw [if_neg h0]
  by_cases h1 : v.kind = 1
  · rw [if_pos h1]; split <;> decide
  rw [if_neg h1]
  by_cases h2 : v.kind = 2
  · rw [if_pos h2]
    have := Num.intText_len v.num
    omega
  rw [if_neg h2]
  by_cases h3 : v.kind = 3
  · rw [if_pos h3]
    unfold cut
    rw [List.length_take]
    omega
  rw [if_neg h3]
  by_cases h4 : v.kind = 4
  · rw [if_pos h4]
    unfold valB at hv
    rw [if_neg h0, if_neg h1, if_neg h2, if_neg h3, if_pos h4, Bool.and_eq_true] at hv
    have := sel_size hv.2
    rw [List.length_cons, Tok.len_list]
    omega
  rw [if_neg h4]
  by_cases h5 : v.kind = 5
  · rw [if_pos h5, Tok.len_list]
    have := nameOf_size h v.num
    omega
  rw [if_neg h5]
  by_cases h7 : v.kind = 7
  · rw [if_pos h7]; decide
  rw [if_neg h7]
  cases s.objects[v.num.toNat]? with
  | none => simp
  | some o =>
    simp only []
    split
    · exact ha _
    · have := art_len h o.cls
      omega
theorem whole_len (f : V → List UInt8) (fs : List V) : (whole f fs).length ≤ 200 := by
  unfold whole cut
  rw [List.length_take]
  omega
theorem printD_len {s : St} (h : infosB s.classes = true) (d : Nat) (v : V) (hv : valB v = true) : (printD s d v).length ≤ 200 := by
  cases d with
  | zero => rw [printD]; exact print_len h _ (fun _ => by decide) v hv
  | succ d => rw [printD]; exact print_len h _ (whole_len _) v hv
theorem txs_len (f : V → List UInt8) (fs : List V) : (txs f fs).length = fs.length := by simp [txs]
theorem txs_at (f : V → List UInt8) (fs : List V) (i : Nat) (v : V) (h : fs[i]? = some v) : at_ (txs f fs) i = tx (f v) := by
  unfold at_ txs
  rw [List.getD_eq_getElem?_getD, List.getElem?_map, h]; rfl
theorem total_txs (f : V → List UInt8) (fs : List V) (m : Nat) (h : ∀ v, v ∈ fs → (f v).length ≤ m) : ∀ i, i ≤ fs.length → total (txs f fs) i ≤ i * m := by
  intro i
  induction i with
  | zero => intro _; simp [total]
  | succ i ih =>
    intro hi
    have h1 := ih (by omega)
    obtain ⟨v, hv⟩ : ∃ v, fs[i]? = some v := ⟨_, List.getElem?_eq_getElem (by omega)⟩
    rw [total, txs_at f fs i v hv, tx_size, Nat.succ_mul]
    have := h v (List.mem_of_getElem? hv)
    omega
theorem inner_len (f : V → List UInt8) (fs : List V) (m : Nat) (h : ∀ v, v ∈ fs → (f v).length ≤ m) : ∀ i, i ≤ fs.length → (inner f fs i).length ≤ i * (m + 1) := by
  intro i
  induction i with
  | zero => intro _; simp [inner, acc]
  | succ i ih =>
    intro hi
    have h1 := ih (by omega)
    obtain ⟨v, hv⟩ : ∃ v, fs[i]? = some v := ⟨_, List.getElem?_eq_getElem (by omega)⟩
    have h2 := h v (List.mem_of_getElem? hv)
    unfold inner at *
    by_cases h0 : 0 < i
    · rw [acc_more _ _ _ h0, List.length_append, List.length_append, txs_at f fs i v hv, tx_list, Nat.succ_mul]
      show _ + 1 + _ ≤ _
      omega
    · have : i = 0 := by omega
      subst this
      rw [acc_one, List.length_append, txs_at f fs 0 v hv, tx_list, Nat.succ_mul]
      omega
theorem inner_zero (f : V → List UInt8) (fs : List V) : inner f fs 0 = [] := rfl
theorem inner_one (f : V → List UInt8) (fs : List V) (v : V) (h : fs[0]? = some v) : inner f fs 1 = f v := by
  unfold inner
  rw [acc_one, txs_at f fs 0 v h, tx_list]; rfl
theorem inner_more (f : V → List UInt8) (fs : List V) (i : Nat) (v : V) (h0 : 0 < i) (h : fs[i]? = some v) : inner f fs (i + 1) = inner f fs i ++ [32] ++ f v := by
  unfold inner
  rw [acc_more _ _ _ h0, txs_at f fs i v h, tx_list]
  rfl
end Go.Proofs.YtoaocpfehdcfgaaGreatDoor.Pv

namespace Go.Proofs.YtoaocpfehdcfgaaGreatDoor.Pv
open Go.Shelf
def lays144_ren : Go.Shelf.Ren := ⟨fun | 144 => 78 | 143 => 99 | 219 => 118 | 217 => 130 | 225 => 131 | 224 => 132 | 267 => 133 | 266 => 139 | 314 => 140 | n => n, fun | 9 => 9 | 3 => 3 | 4 => 4 | 5 => 5 | 46 => 157 | 146 => 165 | 51 => 164 | n => n, fun | 1 => 0 | n => n⟩
theorem lays144 : Go.Proofs.Lays.n144 Tryz.prog lays144_ren := {
  mixed := by kernel_rfl
  f143 := Tryz.func99.trans (congrArg some (by kernel_rfl))
  f144 := Tryz.func78.trans (congrArg some (by kernel_rfl))
  f217 := Tryz.func130.trans (congrArg some (by kernel_rfl))
  f219 := Tryz.func118.trans (congrArg some (by kernel_rfl))
  f224 := Tryz.func132.trans (congrArg some (by kernel_rfl))
  f225 := Tryz.func131.trans (congrArg some (by kernel_rfl))
  f266 := Tryz.func139.trans (congrArg some (by kernel_rfl))
  f267 := Tryz.func133.trans (congrArg some (by kernel_rfl))
  f314 := Tryz.func140.trans (congrArg some (by kernel_rfl))
  t3 := Tryz.underlying3
  a3 := Tryz.isAgg3
  z3 := Tryz.sizeOf3
  v3 := Tryz.zeroValue3
  t4 := Tryz.underlying4
  a4 := Tryz.isAgg4
  z4 := Tryz.sizeOf4
  v4 := Tryz.zeroValue4
  t5 := Tryz.underlying5
  a5 := Tryz.isAgg5
  z5 := Tryz.sizeOf5
  v5 := Tryz.zeroValue5
  t9 := Tryz.underlying9
  a9 := Tryz.isAgg9
  z9 := Tryz.sizeOf9
  v9 := Tryz.zeroValue9
  t46 := Tryz.underlying157
  a46 := Tryz.isAgg157
  z46 := Tryz.sizeOf157
  v46 := Tryz.zeroValue157
  t51 := Tryz.underlying164
  a51 := Tryz.isAgg164
  z51 := Tryz.sizeOf164
  v51 := Tryz.zeroValue164
  t146 := Tryz.underlying165
  a146 := Tryz.isAgg165
  z146 := Tryz.sizeOf165
  v146 := Tryz.zeroValue165
  g1 := by kernel_rfl }
theorem vowel_is (c : UInt8) : decide (0 ≤ Lib.indexByte [65, 69, 73, 79, 85] c) = Tok.has vowels ⟨#[c]⟩ := by
  have h : ∀ x : UInt8, ((⟨#[x]⟩ : ByteArray).toList == (⟨#[c]⟩ : ByteArray).toList) = (x == c) := by
    intro x
    rw [ByteArray.toList_eq, ByteArray.toList_eq]
    show ([x] == [c]) = _
    simp
  have e : Tok.has vowels ⟨#[c]⟩ = ((65 == c) || ((69 == c) || ((73 == c) || ((79 == c) || ((85 == c) || false))))) := by
    unfold Tok.has vowels
    simp only [List.any_cons, List.any_nil, h]
  rw [e]
  clear h e
  by_cases h1 : c = 65
  · subst h1; decide
  by_cases h2 : c = 69
  · subst h2; decide
  by_cases h3 : c = 73
  · subst h3; decide
  by_cases h4 : c = 79
  · subst h4; decide
  by_cases h5 : c = 85
  · subst h5; decide
  have k1 : ((65 : UInt8) == c) = false := beq_eq_false_iff_ne.2 (Ne.symm h1)
  have k2 : ((69 : UInt8) == c) = false := beq_eq_false_iff_ne.2 (Ne.symm h2)
  have k3 : ((73 : UInt8) == c) = false := beq_eq_false_iff_ne.2 (Ne.symm h3)
  have k4 : ((79 : UInt8) == c) = false := beq_eq_false_iff_ne.2 (Ne.symm h4)
  have k5 : ((85 : UInt8) == c) = false := beq_eq_false_iff_ne.2 (Ne.symm h5)
  simp [Lib.indexByte, k1, k2, k3, k4, k5]
theorem contains_any (c : UInt8) (w : World) :
    Calls Tryz.prog 78 #[.string ⟨#[65, 69, 73, 79, 85]⟩, .string ⟨#[c]⟩] w fun e w' => e = .returned (.bool (Tok.has vowels ⟨#[c]⟩)) ∧ w' = w := by
  rw [← vowel_is]
  exact Any.strings_Contains_one (ρ := lays144_ren) lays144 ⟨#[65, 69, 73, 79, 85]⟩ c w
end Go.Proofs.YtoaocpfehdcfgaaGreatDoor.Pv
