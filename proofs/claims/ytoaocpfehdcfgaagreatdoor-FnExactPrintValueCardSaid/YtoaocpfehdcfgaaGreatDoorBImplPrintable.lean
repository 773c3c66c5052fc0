/-
  Which trees are right: the plain mathematics of spec.IsExpr.
  spec.l3Size, l3Depth, SizeOfExpr and DepthOfExpr: what they answer of every tree.
  spec.l3IsText, l1In, l3Left: what they answer.
  impl.isPrintable: whether all bytes of a text are printed.
-/
import Derived.Test.YtoaocpfehdcfgaaGreatDoorBImplTok
import Derived.Test.YtoaocpfehdcfgaaGreatDoorBRest
import Derived.Test.YtoaocpfehdcfgaaGreatDoorBSpecTexts
import Derived.Test.YtoaocpfehdcfgaaGreatDoorBTree
import Derived.Test.YtoaocpfehdcfgaaGreatDoorBWide
namespace Go.Proofs.YtoaocpfehdcfgaaGreatDoor.Tree
def isText (s : ByteArray) : Bool := s.data.toList.all (fun b => 32 ≤ b.toNat && b.toNat ≤ 126) && decide (s.size ≤ 40)
def node (k : Int) (t : ByteArray) (n : Int) (ns : List ByteArray) (len : Nat) (ms : Bool) : Bool :=
  if (k ≠ 8 ∧ 0 < ns.length) ∨ (k ≠ 1 ∧ k ≠ 8 ∧ n ≠ 0) then false
  else if k = 1 then decide (t.size = 0) && (decide (0 ≤ n ∧ n ≤ 999999999) && decide (len = 0))
  else if k = 2 then isText t && decide (len = 0)
  else if k = 3 then Tok.sel t && decide (len = 0)
  else if k = 4 then Tok.isName t && decide (len = 0)
  else if k = 5 then Tok.isName t && decide (len = 1)
  else if k = 6 then decide ((len : Int) = Tok.countArgs t + 1) && decide (0 < len)
  else if k = 7 then decide (t.size = 0) && (decide (3 ≤ len) && ms)
  else if k = 8 then ns.all Tok.isName && (decide (t.size = 0) && decide (0 ≤ n ∧ n ≤ (ns.length : Int)))
  else if k = 9 then decide (t.size = 0) && decide (len = 1)
  else false
mutual
def right : E → Bool → Bool
  | .mk k t n ns ks, st => node k t n ns ks.length (tailOk ks) && (decide (k ≠ 9) || st) && (if k = 7 then headOk ks else rights (decide (k = 8)) ks)
def rights (b : Bool) : List E → Bool
  | [] => true
  | e :: es => (right e b && (!(b && decide (e.kind = 9)) || es.isEmpty)) && rights b es
def headOk : List E → Bool
  | [] => true
  | e :: _ => right e false
def tailOk : List E → Bool
  | [] => true
  | _ :: es => msgs es
def msgs : List E → Bool
  | [] => true
  | .mk k t n ns ks :: ms => (decide (k = 6) && decide (n = 0) && decide (ns.length = 0) && decide (0 ≤ Tok.countArgs t) && decide ((ks.length : Int) = Tok.countArgs t) && rights false ks) && msgs ms
end
def isExpr (e : E) : Bool := decide (size e ≤ 300) && decide (depth e ≤ 25) && right e true
theorem rights_iff (b : Bool) (ks : List E) : rights b ks = true ↔ ∀ i (h : i < ks.length), right ks[i] b = true ∧ ¬ (b = true ∧ ks[i].kind = 9 ∧ i + 1 < ks.length) := by
  induction ks with
  | nil => simp [rights]
  | cons e es ih =>
    rw [rights, Bool.and_eq_true, ih]
    constructor
    · rintro ⟨h0, h1⟩ i hi
      cases i with
      | zero =>
        simp at h0
        refine ⟨h0.1, ?_⟩
        rintro ⟨hb, hk, hl⟩
        rcases h0.2 with (h | h) | h
        · rw [hb] at h; cases h
        · exact h hk
        · subst h; simp at hl
      | succ i =>
        have := h1 i (by simpa using hi)
        simpa using this
    · intro h
      refine ⟨?_, fun i hi => ?_⟩
      · have h0 := h 0 (by simp)
        simp at h0
        simp [h0.1]
        cases es with
        | nil => simp
        | cons x xs => cases b <;> simp_all
      · have := h (i + 1) (by simpa using hi)
        simpa using this
theorem rights_false (ks : List E) : rights false ks = ks.all (fun e => right e false) := by
  induction ks with
  | nil => rfl
  | cons e es ih => rw [rights, ih]; simp
def msg (m : E) : Bool := decide (m.kind = 6) && decide (m.num = 0) && decide (m.names.length = 0) && decide (0 ≤ Tok.countArgs m.text) && decide ((m.kids.length : Int) = Tok.countArgs m.text) && rights false m.kids
theorem msgs_all (ms : List E) : msgs ms = ms.all msg := by
  induction ms with
  | nil => rfl
  | cons m ms ih => cases m with | mk k t n ns ks => rw [msgs, ih]; rfl
end Go.Proofs.YtoaocpfehdcfgaaGreatDoor.Tree

namespace Go.Proofs.YtoaocpfehdcfgaaGreatDoor.SpecTree
open Go.RowKit
open Strs Tree Texts
structure Arg (w : World) (vn vk : Value) (wr : World) : Prop where
  below : Below w.heap.size w wr
  size : w.heap.size + 1 ≤ wr.heap.size
  a3 : wr.cell? ⟨w.heap.size, 3, none⟩ = some vn
  a4 : wr.cell? ⟨w.heap.size, 4, none⟩ = some vk
theorem Arg.step {w wr w' : World} {vn vk : Value} (h : Arg w vn vk wr) (hb : Below wr.heap.size wr w') : Arg w vn vk w' :=
  ⟨h.below.trans (hb.mono (by have := h.size; omega)), Nat.le_trans h.size hb.size, cell_keep hb h.a3, cell_keep hb h.a4⟩
theorem arg_new (w : World) (k : Int) (t : ByteArray) (n : Int) (vn vk : Value) (T : TypeId) : Arg w vn vk (w.alloc (Obj.cells #[Value.int IntKind.i64 k, Value.string t, Value.int IntKind.i64 n, vn, vk] T)) := by
  refine ⟨(Below.refl _ _).alloc (Nat.le_refl _) _, by simp, ?_, ?_⟩
  all_goals go_simp
end Go.Proofs.YtoaocpfehdcfgaaGreatDoor.SpecTree

namespace Go.Proofs.YtoaocpfehdcfgaaGreatDoor.SpecTree
open Go.RowKit
open Strs Tree Texts
theorem in_any (a b c : Int) (w : World) :
    Calls Tryz.prog 29 #[.int .i64 a, .int .i64 b, .int .i64 c] w fun r w' => r = .returned (.bool (decide (b ≤ a ∧ a ≤ c))) ∧ w = w' := by
  generalize hD : decide (b ≤ a ∧ a ≤ c) = D
  have HD := Lib.hid hD; clear hD
  by_cases h1 : b ≤ a
  · by_cases h2 : a ≤ c
    · have hD : D = true := by rw [← HD.out]; exact decide_eq_true ⟨h1, h2⟩
      subst hD
      go_enter Tryz.func29, Tryz.ntmps29
      go_wp2_with fail
      go_ret
      exact ⟨rfl, rfl⟩
    · have hD : D = false := by rw [← HD.out]; exact decide_eq_false (fun h => h2 h.2)
      subst hD
      go_enter Tryz.func29, Tryz.ntmps29
      go_wp2_with fail
      go_ret
      exact ⟨rfl, rfl⟩
  · have hD : D = false := by rw [← HD.out]; exact decide_eq_false (fun h => h1 h.1)
    subst hD
    go_enter Tryz.func29, Tryz.ntmps29
    go_wp2_with fail
    go_ret
    exact ⟨rfl, rfl⟩
end Go.Proofs.YtoaocpfehdcfgaaGreatDoor.SpecTree

namespace Go.Proofs.YtoaocpfehdcfgaaGreatDoor.ImplPrintable
open Go.RowKit
open Strs
theorem plain_low (c : UInt8) (h : Tok.plain c = true) : c.toNat < 128 := by
  unfold Tok.plain at h
  rw [Bool.and_eq_true, decide_eq_true_eq, decide_eq_true_eq] at h; omega
set_option maxHeartbeats 4000000 in
theorem printable_is (s : ByteArray) (b : Bool) (w : World) (hb : s.data.toList.all Tok.plain = b) :
    Calls Tryz.prog 68 #[.string s] w (ImplTok.Part b w) := by
  have HB := Lib.hid hb; clear hb
  have hsl := Tok.len_list s
  go_enter Tryz.func68, Tryz.ntmps68
  go_wp2_with fail
  go_loopw [] (fun wr => ∃ i : Nat, i ≤ s.size ∧ wr = w.iter s i ∧ (∀ j (hj : j < s.data.toList.length), j < i → Tok.plain (s.data.toList[j]'hj) = true)) (fun wr => s.size - wr.iterPos w.heap.size)
  case atStart => exact ⟨0, Nat.zero_le _, rfl, fun j hj h => by omega⟩
  case round =>
    obtain ⟨i, hi, rfl, hd⟩ := hrel
    have HD := Lib.hid hd; clear hd
    by_cases hlt : i < s.size
    · have hlt' : i < s.data.toList.length := by rw [hsl]; exact hlt
      have hx : s.data.toList[i]'hlt' = s[i]'hlt := rfl
      have HF : Hid (Tok.plain (s[i]'hlt) = false → s.data.toList.all Tok.plain = false) := by
        intro h
        have : s.data.toList.all Tok.plain = false := by
          rw [← Bool.not_eq_true, List.all_eq_true]
          intro h2
          have h3 := h2 _ (List.getElem_mem hlt')
          rw [hx, h] at h3; cases h3
        exact this
      by_cases ha : (s[i]'hlt).toNat < 128
      · have hnx : ∀ ty, (Instr.next (.pointer (some ⟨w.heap.size, 0, none⟩)) true ty).run Tryz.prog (w.iter s i) = _ := fun ty => run_next_ascii w s i ty hlt ha
        have HP : Hid (Tok.plain (s[i]'hlt) = (decide (32 ≤ (s[i]'hlt).toNat) && decide ((s[i]'hlt).toNat ≤ 126))) := rfl
        have HD2 : Hid (Tok.plain (s[i]'hlt) = true → ∀ j (hj : j < s.data.toList.length), j < i + 1 → Tok.plain (s.data.toList[j]'hj) = true) := by
          intro h0 j hj h
          by_cases h2 : j = i
          · subst h2; exact h0
          · exact HD.out j hj (by omega)
        generalize (s[i]'hlt) = c at *
        by_cases h1 : (c.toNat : Int) < 32
        · have HE : Hid (b = false) := HB.out.symm.trans (HF.out (by rw [HP.out, decide_eq_false (by omega : ¬ 32 ≤ c.toNat)]; rfl))
          clear HF HP HD2 hx ha
          go_wp2_with fail
          go_ret
          exact ⟨by rw [HE.out]; rfl, (Below.refl _ _).alloc (Nat.le_refl _) _⟩
        · by_cases h2 : (126 : Int) < (c.toNat : Int)
          · have HE : Hid (b = false) := HB.out.symm.trans (HF.out (by rw [HP.out, decide_eq_false (by omega : ¬ c.toNat ≤ 126), Bool.and_false]))
            clear HF HP HD2 hx ha
            go_wp2_with fail
            go_ret
            exact ⟨by rw [HE.out]; rfl, (Below.refl _ _).alloc (Nat.le_refl _) _⟩
          · have HE := Lib.hid (HD2.out (by rw [HP.out, decide_eq_true (by omega : 32 ≤ c.toNat), decide_eq_true (by omega : c.toNat ≤ 126)]; rfl))
            clear HF HP HD2 hx ha
            go_wp2_with fail
            go_roundw
            case rel => exact ⟨i + 1, by omega, rfl, HE.out⟩
            case measure => simp; omega
      · have hnx : ∀ ty, (Instr.next (.pointer (some ⟨w.heap.size, 0, none⟩)) true ty).run Tryz.prog (w.iter s i) = _ := fun ty => run_next_any w s i ty hlt
        have hdh := (decode_high s i hlt (by omega)).1
        have HE : Hid (b = false) := HB.out.symm.trans (HF.out (by
          rw [← Bool.not_eq_true]; intro h
          exact ha (plain_low _ h)))
        generalize (Utf8.decode s i).1 = n at *
        generalize (Utf8.decode s i).2 = m at *
        have h1 : ¬ (n : Int) < 32 := by omega
        have h2 : (126 : Int) < (n : Int) := by omega
        clear HF hx ha
        go_wp2_with fail
        go_ret
        exact ⟨by rw [HE.out]; rfl, (Below.refl _ _).alloc (Nat.le_refl _) _⟩
    · have hnx : ∀ ty, (Instr.next (.pointer (some ⟨w.heap.size, 0, none⟩)) true ty).run Tryz.prog (w.iter s i) = _ := fun ty => run_next_end w s i ty hlt
      have HE : Hid (b = true) := by
        show _ = _
        rw [← HB.out]
        have h1 : s.data.toList.all Tok.plain = true := by
          rw [List.all_eq_true]
          intro c hc
          obtain ⟨j, hj, rfl⟩ := List.mem_iff_getElem.1 hc
          exact HD.out j hj (by omega)
        exact h1
      go_wp2_with fail
      go_ret
      exact ⟨by rw [HE.out]; rfl, (Below.refl _ _).alloc (Nat.le_refl _) _⟩
theorem printable_any (s : ByteArray) (w : World) : Calls Tryz.prog 68 #[.string s] w (ImplTok.Part (s.data.toList.all Tok.plain) w) := printable_is s _ w rfl
end Go.Proofs.YtoaocpfehdcfgaaGreatDoor.ImplPrintable
