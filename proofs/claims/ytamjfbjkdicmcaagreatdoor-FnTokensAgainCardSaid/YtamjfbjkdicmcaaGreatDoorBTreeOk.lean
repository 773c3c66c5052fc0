/-
  Which trees are right: the plain mathematics of spec.IsExpr.
-/
import Derived.Test.YtamjfbjkdicmcaaGreatDoorBTok
import Derived.Test.YtamjfbjkdicmcaaGreatDoorBTree
namespace Go.Proofs.YtamjfbjkdicmcaaGreatDoor.Tree
def isText (s : ByteArray) : Bool := s.data.toList.all (fun b => 32 ≤ b.toNat && b.toNat ≤ 126) && decide (s.size ≤ 40)
def node (k : Int) (t : ByteArray) (n : Int) (ns : List ByteArray) (len : Nat) (ms : Bool) : Bool :=
  if (k ≠ 8 ∧ 0 < ns.length) ∨ (k ≠ 1 ∧ k ≠ 8 ∧ n ≠ 0) then false
  else if k = 1 then decide (t.size = 0) && (decide (0 ≤ n ∧ n ≤ 999999999) && decide (len = 0))
  else if k = 2 then isText t && decide (len = 0)
  else if k = 3 then Tok.sel t && decide (len = 0)
  else if k = 4 then Tok.isName t && decide (len = 0)
  else if k = 5 then Tok.isName t && decide (len = 1)
  else if k = 6 then decide ((len : Int) = Tok.countArgs t + 1) && decide (0 < len)
  else if k = 7 then decide (t.size = 0) && (decide (3 ≤ len) && ms)
  else if k = 8 then ns.all Tok.isName && (decide (t.size = 0) && decide (0 ≤ n ∧ n ≤ (ns.length : Int)))
  else if k = 9 then decide (t.size = 0) && decide (len = 1)
  else false
mutual
def right : E → Bool → Bool
  | .mk k t n ns ks, st => node k t n ns ks.length (tailOk ks) && (decide (k ≠ 9) || st) && (if k = 7 then headOk ks else rights (decide (k = 8)) ks)
def rights (b : Bool) : List E → Bool
  | [] => true
  | e :: es => (right e b && (!(b && decide (e.kind = 9)) || es.isEmpty)) && rights b es
def headOk : List E → Bool
  | [] => true
  | e :: _ => right e false
def tailOk : List E → Bool
  | [] => true
  | _ :: es => msgs es
def msgs : List E → Bool
  | [] => true
  | .mk k t n ns ks :: ms => (decide (k = 6) && decide (n = 0) && decide (ns.length = 0) && decide (0 ≤ Tok.countArgs t) && decide ((ks.length : Int) = Tok.countArgs t) && rights false ks) && msgs ms
end
def isExpr (e : E) : Bool := decide (size e ≤ 300) && decide (depth e ≤ 25) && right e true
theorem rights_iff (b : Bool) (ks : List E) : rights b ks = true ↔ ∀ i (h : i < ks.length), right ks[i] b = true ∧ ¬ (b = true ∧ ks[i].kind = 9 ∧ i + 1 < ks.length) := by
  induction ks with
  | nil => simp [rights]
  | cons e es ih =>
    rw [rights, Bool.and_eq_true, ih]
    constructor
    · rintro ⟨h0, h1⟩ i hi
      cases i with
      | zero =>
        simp at h0
        refine ⟨h0.1, ?_⟩
        rintro ⟨hb, hk, hl⟩
        rcases h0.2 with (h | h) | h
        · rw [hb] at h; cases h
        · exact h hk
        · subst h; simp at hl
      | succ i =>
        have := h1 i (by simpa using hi)
        simpa using this
    · intro h
      refine ⟨?_, fun i hi => ?_⟩
      · have h0 := h 0 (by simp)
        simp at h0
        simp [h0.1]
        cases es with
        | nil => simp
        | cons x xs => cases b <;> simp_all
      · have := h (i + 1) (by simpa using hi)
        simpa using this
theorem rights_false (ks : List E) : rights false ks = ks.all (fun e => right e false) := by
  induction ks with
  | nil => rfl
  | cons e es ih => rw [rights, ih]; simp
def msg (m : E) : Bool := decide (m.kind = 6) && decide (m.num = 0) && decide (m.names.length = 0) && decide (0 ≤ Tok.countArgs m.text) && decide ((m.kids.length : Int) = Tok.countArgs m.text) && rights false m.kids
theorem msgs_all (ms : List E) : msgs ms = ms.all msg := by
  induction ms with
  | nil => rfl
  | cons m ms ih => cases m with | mk k t n ns ks => rw [msgs, ih]; rfl
end Go.Proofs.YtamjfbjkdicmcaaGreatDoor.Tree
