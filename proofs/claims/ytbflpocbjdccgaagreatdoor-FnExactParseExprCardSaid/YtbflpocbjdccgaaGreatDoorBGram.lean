/-
  The grammar of expressions, read from a list of tokens: plain mathematics. Each reader hands back what it has read and the tokens behind it, or nothing; it reads at least one token.
-/
import Derived.Test.YtbflpocbjdccgaaGreatDoorBTreeOk
import Derived.Test.YtbflpocbjdccgaaGreatDoorBNamesMath
namespace Go.Proofs.YtbflpocbjdccgaaGreatDoor.Gram
open Tree

abbrev R := List Tok.T
def cColon : ByteArray := ⟨#[58]⟩
def cBar : ByteArray := ⟨#[124]⟩
def cHat : ByteArray := ⟨#[94]⟩
def cDot : ByteArray := ⟨#[46]⟩
def cSemi : ByteArray := ⟨#[59]⟩
def cOpen : ByteArray := ⟨#[40]⟩
def cClose : ByteArray := ⟨#[41]⟩
def cLeft : ByteArray := ⟨#[91]⟩
def cRight : ByteArray := ⟨#[93]⟩
def cGets : ByteArray := ⟨#[58, 61]⟩
def none_ : ByteArray := ⟨#[]⟩

/-- Whether the first token is of kind k. -/
def hd (k : Int) : R → Bool
  | [] => false
  | t :: _ => decide (t.kind = k)
/-- Whether the first token is the mark c. -/
def mk (c : ByteArray) : R → Bool
  | [] => false
  | t :: _ => decide (t.kind = 7) && decide (t.text = c)
def txt : R → ByteArray
  | [] => none_
  | t :: _ => t.text

def eName (s : ByteArray) : E := .mk 4 s 0 [] []
def eSend (e : E) (s : ByteArray) (args : List E) : E := .mk 6 s 0 [] (e :: args)
def eMsg (s : ByteArray) (args : List E) : E := .mk 6 s 0 [] args
def eBlock (ps ts : List ByteArray) (body : List E) : E := .mk 8 none_ ps.length (ps ++ ts) body

/-- A reader of an expression. -/
abbrev X := R → Option (E × R)

/-- The unary messages behind a primary. -/
def unLoop : E → Bool → R → E × Bool × R
  | e, s, [] => (e, s, [])
  | e, s, t :: r => if t.kind = 1 then unLoop (eSend e t.text []) true r else (e, s, t :: r)

/-- The parameters of a block. -/
def parLoop (ps : List ByteArray) : R → Option (List ByteArray × R)
  | [] => some (ps, [])
  | [t] => if mk cColon [t] then none else some (ps, [t])
  | t :: u :: r => if mk cColon [t] then (if u.kind = 1 then parLoop (ps ++ [u.text]) r else none) else some (ps, t :: u :: r)
/-- Names up to what is no name. -/
def nameLoop (ts : List ByteArray) : R → List ByteArray × R
  | [] => (ts, [])
  | t :: r => if t.kind = 1 then nameLoop (ts ++ [t.text]) r else (ts, t :: r)
/-- The names between two bars, if there are any. -/
def names (r : R) : Option (List ByteArray × R) :=
  if mk cBar r then (let x := nameLoop [] r.tail; if mk cBar x.2 then some (x.1, x.2.tail) else none) else some ([], r)
/-- Whether a statement begins. -/
def begins : R → Bool
  | [] => false
  | t :: _ => (decide (1 ≤ t.kind ∧ t.kind ≤ 5) && decide (t.kind ≠ 2)) || (decide (t.kind = 7) && (decide (t.text = cOpen) || decide (t.text = cLeft) || decide (t.text = cHat)))

section
variable (ex : X)
/-- Statements up to a token that begins none. -/
def stLoop (body : List E) (r : R) : Option (List E × R) :=
  if begins r then
    if mk cHat r then
      match ex r.tail with
      | none => none
      | some (e, r1) => some (body ++ [.mk 9 none_ 0 [] [e]], if mk cDot r1 then r1.tail else r1)
    else
      match ex r with
      | none => none
      | some (e, r1) => if mk cDot r1 then (if _h : r1.tail.length < r.length then stLoop (body ++ [e]) r1.tail else none) else some (body ++ [e], r1)
  else some (body, r)
  termination_by r.length
  decreasing_by first | assumption | simpa using _h
def block (r : R) : Option (E × R) :=
  match parLoop [] r with
  | none => none
  | some (ps, r1) =>
    if ps.length = 0 ∨ mk cBar r1 = true then
      match names (if ps.length = 0 then r1 else r1.tail) with
      | none => none
      | some (ts, r2) =>
        match stLoop ex [] r2 with
        | none => none
        | some (body, r3) => if mk cRight r3 then some (eBlock ps ts body, r3.tail) else none
    else none
def primary : R → Option (E × R)
  | [] => none
  | t :: r =>
    if t.kind = 1 then some (eName t.text, r)
    else if t.kind = 3 then some (.mk 1 none_ t.num [] [], r)
    else if t.kind = 4 then some (.mk 2 t.text 0 [] [], r)
    else if t.kind = 5 then some (.mk 3 t.text 0 [] [], r)
    else if mk cOpen [t] then (match ex r with | none => none | some (e, r1) => if mk cClose r1 then some (e, r1.tail) else none)
    else if mk cLeft [t] then block ex r
    else none
def unary (r : R) : Option (E × Bool × R) :=
  match primary ex r with
  | none => none
  | some (e, r1) => some (unLoop e false r1)
def binLoop (e : E) (s : Bool) (r : R) : Option (E × Bool × R) :=
  if hd 6 r then
    match unary ex r.tail with
    | none => none
    | some (a, _, r1) => if _h : r1.length < r.length then binLoop (eSend e (txt r) [a]) true r1 else none
  else some (e, s, r)
  termination_by r.length
  decreasing_by first | assumption | simpa using _h
def binary (r : R) : Option (E × Bool × R) :=
  match unary ex r with
  | none => none
  | some (e, s, r1) => binLoop ex e s r1
def keyLoop (sel : ByteArray) (args : List E) (r : R) : Option (ByteArray × List E × R) :=
  if hd 2 r then
    match binary ex r.tail with
    | none => none
    | some (a, _, r1) => if _h : r1.length < r.length then keyLoop (sel ++ txt r) (args ++ [a]) r1 else none
  else some (sel, args, r)
  termination_by r.length
  decreasing_by first | assumption | simpa using _h
def message (r : R) : Option (E × R) :=
  if hd 1 r then some (eMsg (txt r) [], r.tail)
  else if hd 6 r then (match unary ex r.tail with | none => none | some (a, _, r1) => some (eMsg (txt r) [a], r1))
  else match keyLoop ex none_ [] r with
    | none => none
    | some (sel, args, r1) => if sel.size = 0 then none else some (eMsg sel args, r1)
def casLoop (kids : List E) (r : R) : Option (List E × R) :=
  if mk cSemi r then
    match message ex r.tail with
    | none => none
    | some (m, r1) => if _h : r1.length < r.length then casLoop (kids ++ [m]) r1 else none
  else some (kids, r)
  termination_by r.length
  decreasing_by first | assumption | simpa using _h
/-- What stands behind the keywords of an expression. -/
def cascade (e : E) (s : Bool) (r : R) : Option (E × R) :=
  if mk cSemi r then
    if s then
      match casLoop ex [e.kids.headD default, .mk 6 e.text 0 [] e.kids.tail] r with
      | none => none
      | some (ks, r1) => some (.mk 7 none_ 0 [] ks, r1)
    else none
  else some (e, r)
def exprF (r : R) : Option (E × R) :=
  if hd 1 r && mk cGets r.tail then
    match ex r.tail.tail with
    | none => none
    | some (e, r1) => some (.mk 5 (txt r) 0 [] [e], r1)
  else
    match binary ex r with
    | none => none
    | some (e, s, r1) =>
      match keyLoop ex none_ [] r1 with
      | none => none
      | some (sel, args, r2) => if sel.size = 0 then cascade ex e s r2 else cascade ex (eSend e sel args) true r2
end
/-- An expression in at most n nestings. -/
def expr : Nat → X
  | 0 => fun _ => none
  | n + 1 => exprF (expr n)
/-- The tree of a source's tokens. -/
def parse (r : R) : Option E :=
  match expr (r.length + 1) r with
  | some (e, []) => some e
  | _ => none

/-- A reader that reads a token at least. -/
def Short (ex : X) : Prop := ∀ r e r1, ex r = some (e, r1) → r1.length < r.length
theorem unLoop_le : ∀ (r : R) (e : E) (s : Bool), (unLoop e s r).2.2.length ≤ r.length
  | [], _, _ => Nat.le_refl _
  | t :: r, e, s => by
    rw [unLoop]
    split
    · have := unLoop_le r (eSend e t.text []) true; simp; omega
    · exact Nat.le_refl _
theorem parLoop_le : ∀ (r : R) (ps ps' : List ByteArray) (r1 : R), parLoop ps r = some (ps', r1) → r1.length ≤ r.length
  | [], ps, ps', r1, h => by rw [parLoop] at h; cases h; exact Nat.le_refl _
  | [t], ps, ps', r1, h => by
    rw [parLoop] at h
    split at h
    · cases h
    · cases h; exact Nat.le_refl _
  | t :: u :: r, ps, ps', r1, h => by
    rw [parLoop] at h
    split at h
    · split at h
      · have := parLoop_le r _ _ _ h; simp; omega
      · cases h
    · cases h; exact Nat.le_refl _
theorem nameLoop_le : ∀ (r : R) (ts : List ByteArray), (nameLoop ts r).2.length ≤ r.length
  | [], _ => Nat.le_refl _
  | t :: r, ts => by
    rw [nameLoop]
    split
    · have := nameLoop_le r (ts ++ [t.text]); simp; omega
    · exact Nat.le_refl _
theorem tail_lt {c : ByteArray} {r : R} (h : mk c r = true) : r.tail.length < r.length := by
  cases r with
  | nil => cases h
  | cons t r => simp
theorem hd_lt {k : Int} {r : R} (h : hd k r = true) : r.tail.length < r.length := by
  cases r with
  | nil => cases h
  | cons t r => simp
theorem tail_le (r : R) : r.tail.length ≤ r.length := by simp
theorem names_le {r : R} {ts : List ByteArray} {r1 : R} (h : names r = some (ts, r1)) : r1.length ≤ r.length := by
  unfold names at h
  split at h
  · rename_i hb
    have h1 := nameLoop_le r.tail []
    have h2 := tail_lt hb
    simp only at h
    split at h
    · rename_i hb2
      have h3 := tail_lt hb2
      cases h
      omega
    · cases h
  · cases h; exact Nat.le_refl _
section
variable {ex : X}
theorem stLoop_le (hx : Short ex) : ∀ (m : Nat) (r : R) (body body' : List E) (r1 : R), r.length ≤ m → stLoop ex body r = some (body', r1) → r1.length ≤ r.length := by
  intro m
  induction m with
  | zero =>
    intro r body body' r1 hm h
    have : r = [] := List.eq_nil_of_length_eq_zero (by omega)
    subst this
    rw [stLoop] at h
    simp [begins] at h
    rw [← h.2]; exact Nat.le_refl _
  | succ m ih =>
    intro r body body' r1 hm h
    rw [stLoop] at h
    split at h
    · split at h
      · rename_i hh
        have h2 := tail_lt hh
        split at h
        · cases h
        · rename_i e r2 he
          have h3 := hx _ _ _ he
          simp only [Option.some.injEq, Prod.mk.injEq] at h
          rw [← h.2]
          split
          · have := tail_le r2; omega
          · omega
      · split at h
        · cases h
        · rename_i e r2 he
          have h3 := hx _ _ _ he
          split at h
          · split at h
            · rename_i hlt
              have := ih r2.tail _ _ _ (by omega) h
              omega
            · cases h
          · cases h; omega
    · cases h; exact Nat.le_refl _
theorem block_lt (hx : Short ex) {r : R} {e : E} {r1 : R} (h : block ex r = some (e, r1)) : r1.length < r.length := by
  unfold block at h
  split at h
  · cases h
  · rename_i ps r2 hp
    have h1 := parLoop_le _ _ _ _ hp
    split at h
    · split at h
      · cases h
      · rename_i ts r3 hn
        have h2 := names_le hn
        have h3 : (if ps.length = 0 then r2 else r2.tail).length ≤ r2.length := by
          split
          · exact Nat.le_refl _
          · exact tail_le _
        split at h
        · cases h
        · rename_i body r4 hs
          have h4 := stLoop_le hx _ _ _ _ _ (Nat.le_refl _) hs
          split at h
          · rename_i hr
            have h5 := tail_lt hr
            cases h
            omega
          · cases h
    · cases h
theorem primary_lt (hx : Short ex) {r : R} {e : E} {r1 : R} (h : primary ex r = some (e, r1)) : r1.length < r.length := by
  cases r with
  | nil => cases h
  | cons t r =>
    rw [primary] at h
    split at h
    · cases h; simp
    split at h
    · cases h; simp
    split at h
    · cases h; simp
    split at h
    · cases h; simp
    split at h
    · split at h
      · cases h
      · rename_i e' r2 he
        have h1 := hx _ _ _ he
        split at h
        · rename_i hr
          have h5 := tail_lt hr
          cases h
          simp; omega
        · cases h
    split at h
    · have := block_lt hx h; simp; omega
    · cases h
theorem unary_lt (hx : Short ex) {r : R} {e : E} {s : Bool} {r1 : R} (h : unary ex r = some (e, s, r1)) : r1.length < r.length := by
  unfold unary at h
  split at h
  · cases h
  · rename_i e' r2 hp
    have h1 := primary_lt hx hp
    have h2 := unLoop_le r2 e' false
    simp only [Option.some.injEq] at h
    rw [h] at h2
    simp at h2
    omega
theorem binLoop_le : ∀ (m : Nat) (r : R) (e e' : E) (s s' : Bool) (r1 : R), r.length ≤ m → binLoop ex e s r = some (e', s', r1) → r1.length ≤ r.length := by
  intro m
  induction m with
  | zero =>
    intro r e e' s s' r1 hm h
    have : r = [] := List.eq_nil_of_length_eq_zero (by omega)
    subst this
    rw [binLoop] at h
    simp [hd] at h
    rw [← h.2.2]; exact Nat.le_refl _
  | succ m ih =>
    intro r e e' s s' r1 hm h
    rw [binLoop] at h
    split at h
    · split at h
      · cases h
      · split at h
        · rename_i hlt
          have := ih _ _ _ _ _ _ (by omega) h
          omega
        · cases h
    · cases h; exact Nat.le_refl _
theorem binary_lt (hx : Short ex) {r : R} {e : E} {s : Bool} {r1 : R} (h : binary ex r = some (e, s, r1)) : r1.length < r.length := by
  unfold binary at h
  split at h
  · cases h
  · rename_i e' s' r2 hu
    have h1 := unary_lt hx hu
    have h2 := binLoop_le _ _ _ _ _ _ _ (Nat.le_refl _) h
    omega
theorem keyLoop_le : ∀ (m : Nat) (r : R) (s s' : ByteArray) (xs xs' : List E) (r1 : R), r.length ≤ m → keyLoop ex s xs r = some (s', xs', r1) → r1.length ≤ r.length := by
  intro m
  induction m with
  | zero =>
    intro r s s' xs xs' r1 hm h
    have : r = [] := List.eq_nil_of_length_eq_zero (by omega)
    subst this
    rw [keyLoop] at h
    simp [hd] at h
    rw [← h.2.2]; exact Nat.le_refl _
  | succ m ih =>
    intro r s s' xs xs' r1 hm h
    rw [keyLoop] at h
    split at h
    · split at h
      · cases h
      · split at h
        · rename_i hlt
          have := ih _ _ _ _ _ _ (by omega) h
          omega
        · cases h
    · cases h; exact Nat.le_refl _
/-- A keyword message that has been read to its end is longer than none: its first part is read. -/
theorem message_lt (hx : Short ex) {r : R} {e : E} {r1 : R} (h : message ex r = some (e, r1)) : r1.length < r.length := by
  unfold message at h
  split at h
  · rename_i hh
    have := hd_lt hh
    cases h; omega
  · split at h
    · rename_i hh
      have := hd_lt hh
      split at h
      · cases h
      · rename_i a s r2 hu
        have h2 := unary_lt hx hu
        cases h; omega
    · split at h
      · cases h
      · rename_i sel args r2 hk
        split at h
        · cases h
        · rename_i hsel
          rw [keyLoop] at hk
          split at hk
          · rename_i hh
            have h0 := hd_lt hh
            split at hk
            · cases hk
            · split at hk
              · rename_i hlt
                have := keyLoop_le _ _ _ _ _ _ _ (Nat.le_refl _) hk
                cases h
                omega
              · cases hk
          · cases hk
            exact absurd rfl hsel
theorem casLoop_le : ∀ (m : Nat) (r : R) (ks ks' : List E) (r1 : R), r.length ≤ m → casLoop ex ks r = some (ks', r1) → r1.length ≤ r.length := by
  intro m
  induction m with
  | zero =>
    intro r ks ks' r1 hm h
    have : r = [] := List.eq_nil_of_length_eq_zero (by omega)
    subst this
    rw [casLoop] at h
    simp [mk] at h
    rw [← h.2]; exact Nat.le_refl _
  | succ m ih =>
    intro r ks ks' r1 hm h
    rw [casLoop] at h
    split at h
    · split at h
      · cases h
      · split at h
        · rename_i hlt
          have := ih _ _ _ _ (by omega) h
          omega
        · cases h
    · cases h; exact Nat.le_refl _
theorem cascade_le {e : E} {s : Bool} {r : R} {e' : E} {r1 : R} (h : cascade ex e s r = some (e', r1)) : r1.length ≤ r.length := by
  unfold cascade at h
  split at h
  · split at h
    · split at h
      · cases h
      · rename_i ks r2 hc
        have := casLoop_le _ _ _ _ _ (Nat.le_refl _) hc
        cases h; omega
    · cases h
  · cases h; exact Nat.le_refl _
theorem exprF_short (hx : Short ex) : Short (exprF ex) := by
  intro r e r1 h
  unfold exprF at h
  split at h
  · rename_i hh
    rw [Bool.and_eq_true] at hh
    have h1 := hd_lt hh.1
    have h2 := tail_le r.tail
    split at h
    · cases h
    · rename_i e' r2 he
      have h3 := hx _ _ _ he
      cases h; omega
  · split at h
    · cases h
    · rename_i e' s r2 hb
      have h1 := binary_lt hx hb
      split at h
      · cases h
      · rename_i sel args r3 hk
        have h2 := keyLoop_le _ _ _ _ _ _ _ (Nat.le_refl _) hk
        split at h
        · have := cascade_le h; omega
        · have := cascade_le h; omega
end
theorem expr_short : ∀ n, Short (expr n)
  | 0 => fun _ _ _ h => by cases h
  | n + 1 => exprF_short (expr_short n)
end Go.Proofs.YtbflpocbjdccgaaGreatDoor.Gram
