/-
  Plain mathematics: a token that was read is read again from its text, where a space or nothing stands behind it; the texts of tokens, a space between them, are read as these tokens. Nothing of the program is named here.
-/
import Derived.Test.YtamjfbjkdicmcaaGreatDoorBRound
import Derived.Test.YtamjfbjkdicmcaaGreatDoorBWide
import Derived.Lib.Join
namespace Go.Proofs.YtamjfbjkdicmcaaGreatDoor.Tok
def Gap (l : List UInt8) : Prop := l = [] ∨ ∃ r, l = 32 :: r
theorem takeWhile_gap (p : UInt8 → Bool) (hp : p 32 = false) (x r : List UInt8) (hx : x.all p = true) (hr : Gap r) : (x ++ r).takeWhile p = x := by
  induction x with
  | nil =>
    rcases hr with rfl | ⟨r, rfl⟩
    · rfl
    · rw [List.nil_append, List.takeWhile_cons, hp]; rfl
  | cons c x ih =>
    rw [List.all_cons, Bool.and_eq_true] at hx
    rw [List.cons_append, List.takeWhile_cons, hx.1, if_pos rfl, ih hx.2]
theorem run_gap (x r : List UInt8) (hx : x.all alnum = true) (hr : Gap r) : run (x ++ r) 0 = x.length := by
  unfold run
  rw [List.drop_zero, Nat.zero_add, takeWhile_gap alnum (by decide) x r hx hr]
theorem all_run (l : List UInt8) (p : Nat) : ((l.drop p).take (run l p - p)).all alnum = true := by
  unfold run
  rw [Nat.add_sub_cancel_left, ← (List.prefix_iff_eq_take).1 (List.takeWhile_prefix alnum)]
  exact List.all_takeWhile
theorem gap_at (x r : List UInt8) (hr : Gap r) : (x ++ r)[x.length]? = none ∨ (x ++ r)[x.length]? = some 32 := by
  rw [List.getElem?_append_right (Nat.le_refl _), Nat.sub_self]
  rcases hr with rfl | ⟨r, rfl⟩
  · exact .inl rfl
  · exact .inr rfl
theorem colon_gap (x r : List UInt8) (hr : Gap r) : colon (x ++ r) x.length = false := by
  unfold colon
  rcases gap_at x r hr with h | h
  · rw [h]; rfl
  · rw [h]; rfl
theorem colon_one (x r : List UInt8) (hr : Gap r) : colon (x ++ 58 :: r) x.length = true := by
  unfold colon
  rw [List.getElem?_append_right (Nat.le_refl _), Nat.sub_self, List.getElem?_append_right (by omega), show x.length + 1 - x.length = 1 by omega]
  rcases hr with rfl | ⟨r, rfl⟩
  · rfl
  · rfl
theorem take_app (x r : List UInt8) : (x ++ r).take x.length = x := List.take_left
theorem ext_app (x r : List UInt8) : (⟨(x ++ r).toArray⟩ : ByteArray).extract 0 x.length = ⟨x.toArray⟩ := by
  apply ba_ext
  rw [ext_data, List.drop_zero, Nat.sub_zero]
  exact take_app x r
theorem name_again (s : ByteArray) (p : Nat) (hp : p ≤ s.size) (t : T) (e : Nat) (h : nameAt s p = some (t, e)) (r : List UInt8) (hr : Gap r) : t.text.data.toList.length = e - p ∧ t.num = 0 ∧ (t.kind = 1 ∨ t.kind = 2 ∨ t.kind = 8) ∧ nameAt ⟨(t.text.data.toList ++ r).toArray⟩ 0 = some (t, t.text.data.toList.length) := by
  have hle := run_le s.data.toList p (by rw [len_list]; exact hp)
  have hls := len_list s
  have hall := all_run s.data.toList p
  have hxl : (s.extract p (run s.data.toList p)).data.toList = (s.data.toList.drop p).take (run s.data.toList p - p) := ext_data _ _ _
  have hlen : (s.extract p (run s.data.toList p)).data.toList.length = run s.data.toList p - p := by
    rw [hxl, List.length_take, List.length_drop]; omega
  rw [← hxl] at hall
  unfold nameAt at h
  simp only at h
  have hcol := fun hc => colon_lt s.data.toList (run s.data.toList p) hc
  generalize s.extract p (run s.data.toList p) = x at *
  generalize run s.data.toList p = q at *
  split at h
  · cases h
  · next h20 =>
    split at h
    · next hc =>
      have := hcol hc
      simp only [Option.some.injEq, Prod.mk.injEq] at h
      obtain ⟨rfl, rfl⟩ := h
      have hd : (x ++ (⟨#[58]⟩ : ByteArray)).data.toList = x.data.toList ++ [58] := by rw [ByteArray.data_append, Array.toList_append]
      refine ⟨by rw [hd, List.length_append, hlen]; simp; omega, rfl, .inr (.inl rfl), ?_⟩
      show nameAt ⟨((x ++ (⟨#[58]⟩ : ByteArray)).data.toList ++ r).toArray⟩ 0 = some (_, (x ++ (⟨#[58]⟩ : ByteArray)).data.toList.length)
      rw [hd, List.append_assoc, List.singleton_append]
      unfold nameAt
      have h1 : run (x.data.toList ++ 58 :: r) 0 = x.data.toList.length := by
        unfold run
        rw [List.drop_zero, Nat.zero_add]
        have : (x.data.toList ++ 58 :: r).takeWhile alnum = x.data.toList := by
          clear hcol h20 hlen hxl hd
          generalize x.data.toList = l at *
          induction l with
          | nil => rfl
          | cons c l ih =>
            rw [List.all_cons, Bool.and_eq_true] at hall
            rw [List.cons_append, List.takeWhile_cons, hall.1, if_pos rfl, ih hall.2]
        rw [this]
      simp only [h1]
      rw [if_neg (by omega), if_pos (colon_one _ r hr), ext_app]
      rw [List.length_append]; rfl
    · simp only [Option.some.injEq, Prod.mk.injEq] at h
      obtain ⟨rfl, rfl⟩ := h
      refine ⟨hlen, rfl, (by show (if _ then (8 : Int) else 1) = 1 ∨ (if _ then (8 : Int) else 1) = 2 ∨ (if _ then (8 : Int) else 1) = 8; split <;> simp), ?_⟩
      show nameAt ⟨(x.data.toList ++ r).toArray⟩ 0 = some (_, x.data.toList.length)
      unfold nameAt
      have h1 := run_gap x.data.toList r hall hr
      simp only [h1]
      rw [if_neg (by omega), colon_gap _ r hr, ext_app]
      rfl
theorem digit_alnum (l : List UInt8) (h : l.all digit = true) : l.all alnum = true := by
  rw [List.all_eq_true] at *
  intro c hc
  unfold alnum; rw [h c hc, Bool.or_true]
theorem number_again (l : List UInt8) (p : Nat) (t : T) (e : Nat) (h : number l p = some (t, e)) : ∃ n : Nat, t = ⟨3, ByteArray.empty, n⟩ ∧ n < 1000000000 ∧ (p < e → (Num.natText n).length ≤ e - p) ∧ ∀ r, Gap r → number (Num.natText n ++ r) 0 = some (t, (Num.natText n).length) := by
  have h0 := number_rest l p 0
  rw [Nat.add_zero, h, number_word] at h0
  generalize hx : (l.drop p).take (run (l.drop p) 0) = x at h0
  simp only at h0
  by_cases h9 : 9 < x.length
  · rw [if_pos h9] at h0; cases h0
  · rw [if_neg h9] at h0
    by_cases hd : x.all digit = true
    · rw [if_pos hd] at h0
      unfold shift at h0
      simp only [Option.map_some, Option.some.injEq, Prod.mk.injEq] at h0
      obtain ⟨rfl, rfl⟩ := h0
      have hlt := dval_lt x hd
      have hten : 10 ^ x.length ≤ 10 ^ 9 := Nat.pow_le_pow_right (by omega) (by omega)
      have hb : dval x ≤ 18446744073709551615 := by
        have : (10 : Nat) ^ 9 = 1000000000 := by decide
        omega
      have hr := Num.natText_reads (dval x) hb
      have hcnt := Num.natText_len (dval x)
      have hlen : x ≠ [] → (Num.natText (dval x)).length ≤ x.length := by
        intro hne
        obtain ⟨k, hk⟩ : ∃ k, x.length = k + 1 := ⟨x.length - 1, by have := List.length_pos_iff.2 hne; omega⟩
        rw [hcnt, hk]
        exact Num.cnt_of_lt k _ hb (by rw [← hk]; exact hlt)
      have hlen9 : (Num.natText (dval x)).length ≤ 9 := by
        by_cases hne : x = []
        · subst hne; decide
        · have := hlen hne; omega
      have hsm : dval x < 1000000000 := by
        have : (10 : Nat) ^ 9 = 1000000000 := by decide
        omega
      refine ⟨dval x, rfl, hsm, fun hpe => ?_, fun r hgr => ?_⟩
      · have := hlen (by intro h; rw [h] at hpe; simp at hpe)
        omega
      · rw [number_word]
        have hda : (Num.natText (dval x)).all digit = true := hr.1
        have hrun := run_gap _ r (digit_alnum _ hda) hgr
        simp only [hrun, take_app]
        rw [if_neg (by omega), if_pos hda]
        have hv : dval (Num.natText (dval x)) = dval x := hr.2.2
        rw [hv]
    · rw [if_neg hd] at h0; cases h0
theorem unq_esc (o r : List UInt8) (hr : ¬ r.head? = some 39) : unq (esc o ++ 39 :: r) = some (o, (esc o).length + 1) := by
  induction o with
  | nil => exact unq_end r hr
  | cons c o ih =>
    rw [esc]
    by_cases hc : c = 39
    · subst hc
      rw [if_pos rfl]
      show unq (39 :: 39 :: (esc o ++ 39 :: r)) = _
      rw [unq_two, ih]
      show some (39 :: o, _) = _
      simp
    · rw [if_neg hc]
      show unq (c :: (esc o ++ 39 :: r)) = _
      rw [unq_go c _ hc, ih]
      show some (c :: o, _) = _
      simp
theorem unq_count : ∀ (l : List UInt8) (o : List UInt8) (n : Nat), unq l = some (o, n) → n = (esc o).length + 1 := by
  refine quote_cases _ (fun o n h => by cases h) ?_ ?_ ?_
  · intro l h o n he
    rw [unq_end l h] at he
    simp only [Option.some.injEq, Prod.mk.injEq] at he
    obtain ⟨rfl, rfl⟩ := he; rfl
  · intro l ih o n he
    rw [unq_two] at he
    cases hu : unq l with
    | none => rw [hu] at he; cases he
    | some x =>
      rw [hu] at he
      simp only [Option.map_some, Option.some.injEq, Prod.mk.injEq] at he
      obtain ⟨rfl, rfl⟩ := he
      rw [ih x.1 x.2 hu, esc, if_pos rfl]; simp
  · intro c l hc ih o n he
    rw [unq_go c l hc] at he
    cases hu : unq l with
    | none => rw [hu] at he; cases he
    | some x =>
      rw [hu] at he
      simp only [Option.map_some, Option.some.injEq, Prod.mk.injEq] at he
      obtain ⟨rfl, rfl⟩ := he
      rw [ih x.1 x.2 hu, esc, if_neg hc]; simp
theorem gap_head (r : List UInt8) (hr : Gap r) : ¬ r.head? = some 39 := by
  rcases hr with rfl | ⟨r, rfl⟩ <;> simp
theorem quoted_again (l : List UInt8) (p : Nat) (hp : p < l.length) (t : T) (e : Nat) (h : quoted l p = some (t, e)) : ∃ o : List UInt8, t = ⟨4, ⟨o.toArray⟩, 0⟩ ∧ (39 :: esc o ++ [39]).length = e - p ∧ ∀ r, Gap r → quoted (39 :: esc o ++ [39] ++ r) 0 = some (t, (39 :: esc o ++ [39]).length) := by
  have h0 := quoted_rest l p 0 (by omega)
  rw [Nat.add_zero, h, List.drop_eq_getElem_cons hp, quoted_unq] at h0
  cases hu : unq (l.drop (p + 1)) with
  | none => rw [hu] at h0; cases h0
  | some x =>
    obtain ⟨o, n⟩ := x
    rw [hu] at h0
    simp only at h0
    by_cases hok : o.all plain = true ∧ o.length ≤ 40
    · rw [if_pos hok] at h0
      unfold shift at h0
      simp only [Option.map_some, Option.some.injEq, Prod.mk.injEq] at h0
      obtain ⟨rfl, rfl⟩ := h0
      have hn := unq_count _ _ _ hu
      refine ⟨o, rfl, by simp; omega, fun r hr => ?_⟩
      have e1 : 39 :: esc o ++ [39] ++ r = 39 :: (esc o ++ 39 :: r) := by simp
      rw [e1, quoted_unq, unq_esc o r (gap_head r hr)]
      simp only [if_pos hok]
      simp; omega
    · rw [if_neg hok] at h0; cases h0
theorem ops_again : ∀ y ∈ binL, ∀ r, Gap r → startsL (y ++ r) binL = y := by
  intro y hy r hr
  rcases hr with rfl | ⟨r, rfl⟩
  · rw [List.append_nil]; exact binL_self y hy
  · simp only [binL, List.mem_cons, List.not_mem_nil, or_false] at hy
    rcases hy with rfl | rfl | rfl | rfl | rfl | rfl | rfl | rfl | rfl | rfl | rfl | rfl | rfl | rfl | rfl
    all_goals rfl
theorem marks_again : ∀ y ∈ markL, ∀ r, Gap r → startsL (y ++ r) binL = [] ∧ startsL (y ++ r) markL = y := by
  intro y hy r hr
  simp only [markL, List.mem_cons, List.not_mem_nil, or_false] at hy
  rcases hr with rfl | ⟨r, rfl⟩
  · rcases hy with rfl | rfl | rfl | rfl | rfl | rfl | rfl | rfl | rfl | rfl
    all_goals exact ⟨rfl, rfl⟩
  · rcases hy with rfl | rfl | rfl | rfl | rfl | rfl | rfl | rfl | rfl | rfl
    all_goals exact ⟨rfl, rfl⟩
theorem letter_starts (l : List UInt8) (h : letterAt l 0 = true) : startsL l binL = [] := by
  cases l with
  | nil => rfl
  | cons c l =>
    have h1 : ∀ y ∈ binL, ∃ d y', y = d :: y' ∧ letter d = false := by
      intro y hy
      simp only [binL, List.mem_cons, List.not_mem_nil, or_false] at hy
      rcases hy with rfl | rfl | rfl | rfl | rfl | rfl | rfl | rfl | rfl | rfl | rfl | rfl | rfl | rfl | rfl
      all_goals exact ⟨_, _, rfl, by decide⟩
    rcases Classical.em (startsL (c :: l) binL = []) with h2 | h2
    · exact h2
    · obtain ⟨h3, h4⟩ := startsL_mem _ _ h2
      obtain ⟨d, y', h5, h6⟩ := h1 _ h3
      rw [h5] at h4
      have := (List.cons_prefix_cons.1 h4).1
      subst this
      have h7 : letter d = true := h
      rw [h6] at h7; cases h7
theorem mk_data (l : List UInt8) : (⟨l.toArray⟩ : ByteArray).data.toList = l := rfl
theorem starts_mk (l : List UInt8) (xs : List ByteArray) : (starts ⟨l.toArray⟩ 0 xs).data.toList = startsL l (xs.map fun x => x.data.toList) := starts_data _ 0 xs (Nat.zero_le _)
theorem run_cut (l r : List UInt8) (k e : Nat) (h : e ≤ run l e) (hk : run l e < k) (hkl : k ≤ l.length) : run (l.take k ++ r) e = run l e := by
  have hl : (l.take k).length = k := by rw [List.length_take]; omega
  have step : ∀ n e, run l e = e + n → e + n < k → run (l.take k ++ r) e = e + n := by
    intro n
    induction n with
    | zero =>
      intro e he hk2
      have hlt : e < l.length := by omega
      have h1 : alnum l[e] = false := by
        rw [← Bool.not_eq_true]; intro ha
        have h2 := run_go l e hlt ha
        have h3 := run_le l (e + 1) (by omega)
        omega
      exact run_stop _ e (fun h' => by
        rw [List.getElem_append_left (by rw [hl]; omega), List.getElem_take]; exact h1)
    | succ n ih =>
      intro e he hk2
      have hlt : e < l.length := by omega
      have h1 : alnum l[e] = true := by
        rw [← Bool.not_eq_false]; intro ha
        have := run_stop l e (fun _ => ha)
        omega
      have h2 := run_go l e hlt h1
      have h3 := ih (e + 1) (by omega) (by omega)
      have hlt' : e < (l.take k ++ r).length := by rw [List.length_append, hl]; omega
      rw [run_go (l.take k ++ r) e hlt' (by rw [List.getElem_append_left (by rw [hl]; omega), List.getElem_take]; exact h1), h3]; omega
  have := step (run l e - e) e (by omega) (by omega)
  omega
theorem selGo_cut (l r : List UInt8) (hr : Gap r) (k : Nat) (hkl : k ≤ l.length) : ∀ (f e : Nat), e ≤ k → l.length < f + e → selGo l f e = k → ∀ g, (l.take k ++ r).length < g + e → selGo (l.take k ++ r) g e = k := by
  have hl : (l.take k).length = k := by rw [List.length_take]; omega
  have hstop : ∀ g, selGo (l.take k ++ r) g k = k := by
    intro g
    refine selGo_stop _ g k ?_
    have h1 : run (l.take k ++ r) k = k := run_stop _ k (fun h' => by
      rw [List.getElem_append_right (by omega)]
      rcases hr with rfl | ⟨r, rfl⟩
      · rw [List.length_append, hl] at h'; simp at h'
      · simp only [hl, Nat.sub_self, List.getElem_cons_zero]; decide)
    rw [h1]; omega
  intro f
  induction f with
  | zero => intro e he hf; omega
  | succ f ih =>
    intro e he hf hs g hg
    rw [selGo] at hs
    by_cases hc : e < run l e ∧ colon l (run l e) = true
    · rw [if_pos hc] at hs
      have hcl := colon_lt _ _ hc.2
      have hge := (selGo_le l f (run l e + 1) (by omega)).1
      rw [hs] at hge
      match g, hg with
      | 0, hg => rw [List.length_append, hl] at hg; omega
      | g + 1, hg =>
        have hrun := run_cut l r k e (by omega) (by omega) hkl
        have hcol : colon (l.take k ++ r) (run l e) = true := by
          have h1 := hc.2
          unfold colon at h1 ⊢
          rw [List.getElem?_append_left (by omega), List.getElem?_take_of_lt (by omega)]
          rw [Bool.and_eq_true] at h1 ⊢
          refine ⟨h1.1, ?_⟩
          by_cases h2 : run l e + 1 < k
          · rw [List.getElem?_append_left (by omega), List.getElem?_take_of_lt h2]; exact h1.2
          · rw [List.getElem?_append_right (by omega), hl, show run l e + 1 - k = 0 by omega]
            rcases hr with rfl | ⟨r, rfl⟩ <;> rfl
        rw [selGo, hrun, if_pos ⟨hc.1, hcol⟩]
        exact ih (run l e + 1) hge (by omega) hs g (by omega)
    · rw [if_neg hc] at hs
      subst hs
      exact hstop g
theorem selLen_cut (l r : List UInt8) (hr : Gap r) (h : letterAt l 0 = true) : selLen (l.take (selLen l) ++ r) = selLen l ∧ 0 < selLen l ∧ selLen l ≤ l.length := by
  have h0 : 0 < run l 0 ∧ run l 0 ≤ l.length := by
    cases l with
    | nil => exact absurd h (by decide)
    | cons c l => exact run_gt (c :: l) 0 (by simp) (by show (letter c || digit c) = true; rw [show letter c = true from h]; rfl)
  have hle := selGo_le l (l.length + 1) 0 (Nat.zero_le _)
  by_cases hz : selGo l (l.length + 1) 0 = 0
  · have hs : selLen l = run l 0 := by unfold selLen; rw [if_pos hz]
    rw [hs]
    have hx : l.take (run l 0) = l.takeWhile alnum := by
      unfold run
      rw [List.drop_zero, Nat.zero_add]
      exact ((List.prefix_iff_eq_take).1 (List.takeWhile_prefix alnum)).symm
    have hl : (l.take (run l 0)).length = run l 0 := by rw [List.length_take]; omega
    have hrun : run (l.take (run l 0) ++ r) 0 = run l 0 := by
      rw [run_gap _ r (by rw [hx]; exact List.all_takeWhile) hr, hl]
    have hcol : colon (l.take (run l 0) ++ r) (run l 0) = false := by
      have := colon_gap (l.take (run l 0)) r hr
      rwa [hl] at this
    refine ⟨?_, h0.1, h0.2⟩
    unfold selLen
    rw [selGo_stop _ _ 0 (by rw [hrun, hcol]; exact fun h => absurd h.2 (by decide)), if_pos rfl, hrun]
  · have hs : selLen l = selGo l (l.length + 1) 0 := by unfold selLen; rw [if_neg hz]
    rw [hs]
    have := selGo_cut l r hr (selGo l (l.length + 1) 0) hle.2 (l.length + 1) 0 (Nat.zero_le _) (by omega) rfl ((l.take (selGo l (l.length + 1) 0) ++ r).length + 1) (by omega)
    refine ⟨?_, by omega, hle.2⟩
    unfold selLen
    rw [this, if_neg hz]
theorem selector_again (s : ByteArray) (p : Nat) (hp : p + 1 ≤ s.size) (t : T) (e : Nat) (h : selectorAt s (p + 1) = some (t, e)) : ∃ y : ByteArray, t = ⟨5, y, 0⟩ ∧ e = p + 1 + y.size ∧ ∀ r, Gap r → selectorAt ⟨(35 :: (y.data.toList ++ r)).toArray⟩ 1 = some (t, 1 + y.size) := by
  have h0 := selectorAt_rest s p 1 (by omega)
  rw [h, selector_read _ (by rw [rest_size]; omega)] at h0
  generalize rest (rest s p) 1 = x at h0
  by_cases hsel : sel (pick x) = true
  · rw [if_pos hsel] at h0
    unfold shift at h0
    simp only [Option.map_some, Option.some.injEq, Prod.mk.injEq] at h0
    obtain ⟨rfl, rfl⟩ := h0
    refine ⟨pick x, rfl, by omega, fun r hr => ?_⟩
    have hsz : (⟨(35 :: ((pick x).data.toList ++ r)).toArray⟩ : ByteArray).size = 1 + ((pick x).data.toList ++ r).length := by rw [← len_list]; show ((35 : UInt8) :: ((pick x).data.toList ++ r)).length = _; rw [List.length_cons]; omega
    rw [selector_read _ (by rw [hsz]; omega)]
    have hrest : rest ⟨(35 :: ((pick x).data.toList ++ r)).toArray⟩ 1 = ⟨((pick x).data.toList ++ r).toArray⟩ := ba_ext (by rw [rest_data]; rfl)
    rw [hrest]
    have hpick : pick ⟨((pick x).data.toList ++ r).toArray⟩ = pick x := by
      rcases sel_begins _ hsel with hb | hl
      · rw [has_data, bin_data, List.contains_iff_mem] at hb
        have hs := ops_again _ hb r hr
        have h1 := starts_mk ((pick x).data.toList ++ r) binaries
        rw [bin_data, hs] at h1
        have h2 : starts ⟨((pick x).data.toList ++ r).toArray⟩ 0 binaries = pick x := ba_ext h1
        show (if (starts ⟨((pick x).data.toList ++ r).toArray⟩ 0 binaries).toList.isEmpty = false then _ else _) = _
        rw [h2, if_pos]
        rw [ByteArray.toList_eq]
        have h3 : ∀ z ∈ binL, z.isEmpty = false := by decide
        exact h3 _ hb
      · have hno : (starts x 0 binaries).toList.isEmpty = true := by
          rw [← Bool.not_eq_false]
          intro hn
          have hb := op_starts x 0 (Nat.zero_le _) hn
          have he : pick x = starts x 0 binaries := by unfold pick; rw [if_pos hn]
          rw [he] at hl
          rw [has_data, bin_data, List.contains_iff_mem] at hb
          have h3 : ∀ z ∈ binL, letterAt z 0 = false := by decide
          rw [h3 _ hb] at hl; cases hl
        have hy : pick x = x.extract 0 (selLen x.data.toList) := by unfold pick; rw [if_neg (by rw [hno]; decide)]
        have hyl : (pick x).data.toList = x.data.toList.take (selLen x.data.toList) := by rw [hy, ext_data, List.drop_zero]; rfl
        have hlx : letterAt x.data.toList 0 = true := by rw [hyl] at hl; exact letter_take _ _ hl
        have hcut := selLen_cut x.data.toList r hr hlx
        rw [hyl]
        have h1 := starts_mk (x.data.toList.take (selLen x.data.toList) ++ r) binaries
        have hl2 : letterAt (x.data.toList.take (selLen x.data.toList) ++ r) 0 = true := by
          rw [hyl] at hl
          cases hc : x.data.toList.take (selLen x.data.toList) with
          | nil => rw [hc] at hl; exact absurd hl (by decide)
          | cons c m => rw [hc] at hl; exact hl
        rw [bin_data, letter_starts _ hl2] at h1
        show (if (starts ⟨(x.data.toList.take (selLen x.data.toList) ++ r).toArray⟩ 0 binaries).toList.isEmpty = false then _ else (⟨(x.data.toList.take (selLen x.data.toList) ++ r).toArray⟩ : ByteArray).extract 0 (selLen (x.data.toList.take (selLen x.data.toList) ++ r))) = _
        rw [if_neg (by rw [ByteArray.toList_eq, h1]; decide), hcut.1, hy]
        apply ba_ext
        rw [ext_data, ext_data, mk_data, List.drop_zero, List.drop_zero, Nat.sub_zero]
        have hlen : (x.data.toList.take (selLen x.data.toList)).length = selLen x.data.toList := by rw [List.length_take]; omega
        rw [List.take_append_of_le_length (Nat.le_of_eq hlen.symm), List.take_take, Nat.min_self]
    rw [hpick, if_pos hsel]
  · rw [if_neg hsel] at h0; cases h0
def text (t : T) : List UInt8 := fmt t.kind t.text.data.toList t.num
def Good (t : T) : Prop := (∃ c F, text t = c :: F ∧ ¬ (c = 32 ∨ c = 10 ∨ c = 9) ∧ ¬ c = 34 ∧ ∀ r, Gap r → next ⟨(text t ++ r).toArray⟩ 0 c = some (t, (text t).length)) ∧ t.text.size ≤ (text t).length ∧ 0 ≤ t.num ∧ t.num ≤ 999999999
theorem esc_ge (l : List UInt8) : l.length ≤ (esc l).length := by
  induction l with
  | nil => exact Nat.le_refl _
  | cons c l ih =>
    rw [esc, List.length_append, List.length_cons]
    split <;> simp <;> omega
end Go.Proofs.YtamjfbjkdicmcaaGreatDoor.Tok
namespace Go.Proofs.YtamjfbjkdicmcaaGreatDoor.Tok
theorem head_data (s : ByteArray) (p : Nat) (h : p < s.data.toList.length) (b : Nat) (hb : p < b) : ∃ r, (s.extract p b).data.toList = s.data.toList[p] :: r := by
  rw [ext_data, List.drop_eq_getElem_cons h]
  obtain ⟨k, hk⟩ : ∃ k, b - p = k + 1 := ⟨b - p - 1, by omega⟩
  rw [hk, List.take_succ_cons]; exact ⟨_, rfl⟩
theorem letter_not (c : UInt8) (h : letter c = true) : ¬ (c = 32 ∨ c = 10 ∨ c = 9) ∧ ¬ c = 34 := by
  refine ⟨?_, ?_⟩
  · rintro (rfl | rfl | rfl) <;> exact absurd h (by decide)
  · rintro rfl; exact absurd h (by decide)
theorem digit_not (c : UInt8) (h : digit c = true) : ¬ (c = 32 ∨ c = 10 ∨ c = 9) ∧ ¬ c = 34 ∧ letter c = false := by
  refine ⟨?_, ?_, ?_⟩
  · rintro (rfl | rfl | rfl) <;> exact absurd h (by decide)
  · rintro rfl; exact absurd h (by decide)
  · unfold digit at h
    rw [Bool.and_eq_true, decide_eq_true_eq, decide_eq_true_eq] at h
    unfold letter
    rw [decide_eq_false (by omega : ¬ 97 ≤ c.toNat), decide_eq_false (by omega : ¬ 65 ≤ c.toNat)]; rfl
def Sign (c : UInt8) : Prop := letter c = false ∧ digit c = false ∧ ¬ c = 39 ∧ ¬ c = 35 ∧ ¬ (c = 32 ∨ c = 10 ∨ c = 9) ∧ ¬ c = 34
theorem bin_head : ∀ y ∈ binL, ∃ c r, y = c :: r ∧ Sign c := by
  intro y hy
  simp only [binL, List.mem_cons, List.not_mem_nil, or_false] at hy
  rcases hy with rfl | rfl | rfl | rfl | rfl | rfl | rfl | rfl | rfl | rfl | rfl | rfl | rfl | rfl | rfl
  all_goals exact ⟨_, _, rfl, by unfold Sign; decide⟩
theorem mark_head : ∀ y ∈ markL, ∃ c r, y = c :: r ∧ Sign c := by
  intro y hy
  simp only [markL, List.mem_cons, List.not_mem_nil, or_false] at hy
  rcases hy with rfl | rfl | rfl | rfl | rfl | rfl | rfl | rfl | rfl | rfl
  all_goals exact ⟨_, _, rfl, by unfold Sign; decide⟩
theorem sign_next (s : ByteArray) (c : UInt8) (h : Sign c) : next s 0 c = (if (starts s 0 binaries).toList.isEmpty = false then some (⟨6, starts s 0 binaries, 0⟩, (starts s 0 binaries).size) else if (starts s 0 marks).toList.isEmpty = false then some (⟨7, starts s 0 marks, 0⟩, (starts s 0 marks).size) else none) := by
  obtain ⟨h1, h2, h3, h4, _⟩ := h
  unfold next
  rw [h1, h2, if_neg (by decide), if_neg (by decide), if_neg h3, if_neg h4]
  simp only [Nat.zero_add]
theorem plain_text (k : Int) (t : ByteArray) (n : Int) (h3 : k ≠ 3) (h4 : k ≠ 4) (h5 : k ≠ 5) : text ⟨k, t, n⟩ = t.data.toList := by
  show fmt k t.data.toList n = _
  unfold fmt; rw [if_neg h3, if_neg h4, if_neg h5]
theorem next_again (s : ByteArray) (p : Nat) (h : p < s.data.toList.length) (t : T) (e : Nat) (hn : next s p s.data.toList[p] = some (t, e)) : Good t ∧ (text t).length ≤ e - p := by
  have hls := len_list s
  have hst := next_step s p h t e hn
  unfold next at hn
  by_cases hl : letter s.data.toList[p] = true
  · rw [if_pos hl] at hn
    have hgt := run_gt s.data.toList p h (by unfold alnum; rw [hl]; rfl)
    obtain ⟨hlen, hnum, hk, -⟩ := name_again s p (by omega) t e hn [] (.inl rfl)
    have htx : text t = t.text.data.toList := plain_text t.kind t.text t.num (by rcases hk with h | h | h <;> rw [h] <;> decide) (by rcases hk with h | h | h <;> rw [h] <;> decide) (by rcases hk with h | h | h <;> rw [h] <;> decide)
    have hhd : ∃ r, t.text.data.toList = s.data.toList[p] :: r := by
      unfold nameAt at hn
      simp only at hn
      obtain ⟨r, hr⟩ := head_data s p h _ hgt.1
      split at hn
      · cases hn
      · split at hn
        · simp only [Option.some.injEq, Prod.mk.injEq] at hn
          obtain ⟨rfl, _⟩ := hn
          refine ⟨r ++ [58], ?_⟩
          show (s.extract p (run s.data.toList p) ++ (⟨#[58]⟩ : ByteArray)).data.toList = _
          rw [ByteArray.data_append, Array.toList_append, hr]; rfl
        · simp only [Option.some.injEq, Prod.mk.injEq] at hn
          obtain ⟨rfl, _⟩ := hn
          exact ⟨r, hr⟩
    obtain ⟨r, hr⟩ := hhd
    refine ⟨⟨⟨s.data.toList[p], r, by rw [htx, hr], (letter_not _ hl).1, (letter_not _ hl).2, fun q hq => ?_⟩, by rw [htx, len_list]; exact Nat.le_refl _, by rw [hnum]; decide, by rw [hnum]; decide⟩, by rw [htx, hlen]; exact Nat.le_refl _⟩
    unfold next
    rw [if_pos hl, htx]
    exact (name_again s p (by omega) t e hn q hq).2.2.2
  · rw [if_neg hl] at hn
    by_cases hd : digit s.data.toList[p] = true
    · rw [if_pos hd] at hn
      obtain ⟨n, rfl, hb, hlen, hag⟩ := number_again s.data.toList p t e hn
      have htx : text ⟨3, ByteArray.empty, (n : Int)⟩ = Num.natText n := by
        show fmt 3 ByteArray.empty.data.toList n = _
        unfold fmt
        rw [if_pos rfl, Num.intText_nat, if_neg (by omega)]; rfl
      obtain ⟨hall, hne, -⟩ := Num.natText_reads n (by omega)
      obtain ⟨c, F, hcF⟩ : ∃ c F, Num.natText n = c :: F := by
        cases hh : Num.natText n with
        | nil => exact absurd hh hne
        | cons c F => exact ⟨c, F, rfl⟩
      have hcd : digit c = true := by
        rw [hcF, List.all_cons, Bool.and_eq_true] at hall
        exact hall.1
      have hnot := digit_not c hcd
      refine ⟨⟨⟨c, F, by rw [htx, hcF], hnot.1, hnot.2.1, fun q hq => ?_⟩, Nat.zero_le _, (by show (0 : Int) ≤ (n : Int); omega), (by show (n : Int) ≤ 999999999; omega)⟩, by rw [htx]; exact hlen hst.1⟩
      unfold next
      rw [hnot.2.2, if_neg (by decide), if_pos hcd, htx]
      exact hag q hq
    · rw [if_neg hd] at hn
      by_cases h39 : s.data.toList[p] = 39
      · rw [if_pos h39] at hn
        obtain ⟨o, rfl, hlen, hag⟩ := quoted_again s.data.toList p h t e hn
        have htx : text ⟨4, ⟨o.toArray⟩, 0⟩ = 39 :: esc o ++ [39] := rfl
        refine ⟨⟨⟨39, esc o ++ [39], rfl, by decide, by decide, fun q hq => ?_⟩, (by rw [htx, ← len_list]; have := esc_ge o; show o.length ≤ _; simp; omega), by show (0 : Int) ≤ 0; decide, by show (0 : Int) ≤ 999999999; decide⟩, by rw [htx, hlen]; exact Nat.le_refl _⟩
        unfold next
        rw [if_neg (by decide), if_neg (by decide), if_pos rfl, htx]
        exact hag q hq
      · rw [if_neg h39] at hn
        by_cases h35 : s.data.toList[p] = 35
        · rw [if_pos h35] at hn
          obtain ⟨y, rfl, hlen, hag⟩ := selector_again s p (by omega) t e hn
          have htx : text ⟨5, y, 0⟩ = 35 :: y.data.toList := rfl
          have hyl := len_list y
          refine ⟨⟨⟨35, y.data.toList, rfl, by decide, by decide, fun q hq => ?_⟩, (by rw [htx, List.length_cons, hyl]; exact Nat.le_succ _), by show (0 : Int) ≤ 0; decide, by show (0 : Int) ≤ 999999999; decide⟩, by rw [htx, List.length_cons]; omega⟩
          unfold next
          rw [if_neg (by decide), if_neg (by decide), if_neg (by decide), if_pos rfl, htx, List.length_cons, hyl, Nat.add_comm y.size 1]
          exact hag q hq
        · rw [if_neg h35] at hn
          have hop : ∀ (xs : List ByteArray) (L : List (List UInt8)), xs.map (fun x => x.data.toList) = L → (starts s p xs).toList.isEmpty = false → (starts s p xs).data.toList ∈ L ∧ 0 < (starts s p xs).size := by
            intro xs L hL hne
            have h1 := starts_data s p xs (by omega)
            rw [hL] at h1
            have h2 : startsL (s.data.toList.drop p) L ≠ [] := by
              rw [← h1]; intro h3; rw [ByteArray.toList_eq, h3] at hne; exact absurd hne (by decide)
            rw [h1]
            refine ⟨(startsL_mem _ _ h2).1, ?_⟩
            rw [← len_list, h1]
            exact List.length_pos_iff.2 h2
          by_cases hb : (starts s p binaries).toList.isEmpty = false
          · rw [if_pos hb] at hn
            obtain ⟨hmem, hpos⟩ := hop _ _ bin_data hb
            generalize starts s p binaries = y at *
            simp only [Option.some.injEq, Prod.mk.injEq] at hn
            obtain ⟨rfl, rfl⟩ := hn
            have htx : text ⟨6, y, 0⟩ = y.data.toList := plain_text 6 y 0 (by decide) (by decide) (by decide)
            obtain ⟨c, F, hcF, hs⟩ := bin_head _ hmem
            have hyl := len_list y
            refine ⟨⟨⟨c, F, by rw [htx, hcF], hs.2.2.2.2.1, hs.2.2.2.2.2, fun q hq => ?_⟩, (by rw [htx, hyl]; exact Nat.le_refl _), by show (0 : Int) ≤ 0; decide, by show (0 : Int) ≤ 999999999; decide⟩, by rw [htx, hyl]; omega⟩
            rw [sign_next _ c hs, htx]
            have h1 := starts_mk (y.data.toList ++ q) binaries
            rw [bin_data, ops_again _ hmem q hq] at h1
            have h2 : starts ⟨(y.data.toList ++ q).toArray⟩ 0 binaries = y := ba_ext h1
            rw [h2, if_pos hb, hyl]
          · rw [if_neg hb] at hn
            by_cases hm : (starts s p marks).toList.isEmpty = false
            · rw [if_pos hm] at hn
              obtain ⟨hmem, hpos⟩ := hop _ _ mark_data hm
              generalize starts s p marks = y at *
              simp only [Option.some.injEq, Prod.mk.injEq] at hn
              obtain ⟨rfl, rfl⟩ := hn
              have htx : text ⟨7, y, 0⟩ = y.data.toList := plain_text 7 y 0 (by decide) (by decide) (by decide)
              obtain ⟨c, F, hcF, hs⟩ := mark_head _ hmem
              have hyl := len_list y
              refine ⟨⟨⟨c, F, by rw [htx, hcF], hs.2.2.2.2.1, hs.2.2.2.2.2, fun q hq => ?_⟩, (by rw [htx, hyl]; exact Nat.le_refl _), by show (0 : Int) ≤ 0; decide, by show (0 : Int) ≤ 999999999; decide⟩, by rw [htx, hyl]; omega⟩
              rw [sign_next _ c hs, htx]
              have h1 := starts_mk (y.data.toList ++ q) binaries
              have h3 := starts_mk (y.data.toList ++ q) marks
              rw [bin_data, (marks_again _ hmem q hq).1] at h1
              rw [mark_data, (marks_again _ hmem q hq).2] at h3
              have h2 : starts ⟨(y.data.toList ++ q).toArray⟩ 0 marks = y := ba_ext h3
              rw [if_neg (by rw [ByteArray.toList_eq, h1]; decide), h2, if_pos hm, hyl]
            · rw [if_neg hm] at hn; cases hn
def texts : List T → Nat
  | [] => 0
  | t :: ts => (text t).length + texts ts
theorem texts_snoc (ts : List T) (t : T) : texts (ts ++ [t]) = texts ts + (text t).length := by
  induction ts with
  | nil => simp [texts]
  | cons u ts ih => simp [texts, ih]; omega
theorem toks_good (s : ByteArray) : ∀ (f p : Nat) (acc r : List T), p ≤ s.size → (∀ t ∈ acc, Good t) → texts acc ≤ p → toks s f p acc = some r → (∀ t ∈ r, Good t) ∧ texts r ≤ s.size := by
  have hls := len_list s
  intro f
  induction f with
  | zero => intro p acc r _ _ _ hr; cases hr
  | succ f ih =>
    intro p acc r hp hg ht hr
    rw [toks] at hr
    by_cases hi : p < s.data.toList.length
    · rw [List.getElem?_eq_getElem hi] at hr
      simp only at hr
      split at hr
      · exact ih _ _ _ (by omega) hg (by omega) hr
      · split at hr
        · have hge : p + 1 ≤ qend s.data.toList (p + 1) := by unfold qend; omega
          split at hr
          · exact ih _ _ _ (by omega) hg (by omega) hr
          · cases hr
        · cases hn : next s p s.data.toList[p] with
          | none => rw [hn] at hr; cases hr
          | some x =>
            obtain ⟨t, e⟩ := x
            rw [hn] at hr
            simp only at hr
            have hst := next_step s p hi t e hn
            have hag := next_again s p hi t e hn
            split at hr
            · cases hr
            · refine ih _ _ _ hst.2.1 (fun u hu => ?_) ?_ hr
              · rcases List.mem_append.1 hu with hu | hu
                · exact hg u hu
                · rw [List.mem_singleton] at hu; subst hu; exact hag.1
              · rw [texts_snoc]; omega
    · rw [List.getElem?_eq_none (by omega)] at hr
      cases hr
      exact ⟨hg, by omega⟩
theorem tokens_good (s : ByteArray) (r : List T) (h : tokens s = some r) : (∀ t ∈ r, Good t) ∧ texts r ≤ s.size := by
  unfold tokens at h
  split at h
  · cases h
  · exact toks_good s _ 0 [] r (Nat.zero_le _) (fun t ht => by cases ht) (Nat.zero_le _) h
theorem texts_count (ts : List T) (h : ∀ t ∈ ts, Good t) : ts.length ≤ texts ts := by
  induction ts with
  | nil => exact Nat.zero_le _
  | cons t ts ih =>
    obtain ⟨⟨c, F, hcF, _⟩, _⟩ := h t List.mem_cons_self
    have := ih fun u hu => h u (List.mem_cons_of_mem _ hu)
    rw [texts, hcF]; simp; omega
theorem tail_gap (ts : List T) : Gap (Lib.joinTail [32] (ts.map text)) := by
  cases ts with
  | nil => exact .inl rfl
  | cons t ts => exact .inr ⟨text t ++ Lib.joinTail [32] (ts.map text), rfl⟩
theorem tail_cons (t : T) (ts : List T) : Lib.joinTail [32] ((t :: ts).map text) = 32 :: (text t ++ Lib.joinTail [32] (ts.map text)) := rfl
theorem read_one (s : ByteArray) (p : Nat) (acc : List T) (t : T) (l : List UInt8) (hg : Good t) (hl : Gap l) (hd : s.data.toList.drop p = text t ++ l) (hp : p ≤ s.size) (h8 : ¬ 800 ≤ acc.length) : from_ s p acc = from_ s (p + (text t).length) (acc ++ [t]) ∧ s.data.toList.drop (p + (text t).length) = l ∧ p + (text t).length ≤ s.size := by
  have hls := len_list s
  obtain ⟨⟨c, F, hcF, hnb, hnq, hnx⟩, -⟩ := hg
  have hlen := congrArg List.length hd
  rw [List.length_drop, List.length_append, hls] at hlen
  have hpos : 0 < (text t).length := by rw [hcF]; simp
  have hlt : p < s.data.toList.length := by omega
  have hd' := hd
  rw [List.drop_eq_getElem_cons hlt, hcF, List.cons_append, List.cons.injEq] at hd'
  have hrest : rest s p = ⟨(text t ++ l).toArray⟩ := ba_ext (by rw [rest_data, hd])
  have hn : next s p s.data.toList[p] = some (t, p + (text t).length) := by
    rw [next_rest s p _ hp, hrest, hd'.1, hnx l hl]; rfl
  refine ⟨from_more s p acc hlt (by rw [hd'.1]; exact hnb) (by rw [hd'.1]; exact hnq) t _ hn h8, ?_, by omega⟩
  rw [← List.drop_drop, hd, List.drop_left]
theorem read_tail (s : ByteArray) : ∀ (ts : List T) (p : Nat) (acc : List T), (∀ t ∈ ts, Good t) → acc.length + ts.length ≤ 800 → p ≤ s.size → s.data.toList.drop p = Lib.joinTail [32] (ts.map text) → from_ s p acc = some (acc ++ ts) := by
  have hls := len_list s
  intro ts
  induction ts with
  | nil =>
    intro p acc _ _ hp hd
    have h1 := congrArg List.length hd
    rw [List.length_drop] at h1
    rw [List.append_nil]
    exact from_end s p acc (by
      have : (Lib.joinTail [32] (([] : List T).map text)).length = 0 := rfl
      omega)
  | cons t ts ih =>
    intro p acc hg h8 hp hd
    rw [tail_cons] at hd
    have hlt : p < s.data.toList.length := by
      have h1 := congrArg List.length hd
      rw [List.length_drop, List.length_cons] at h1; omega
    have hd' := hd
    rw [List.drop_eq_getElem_cons hlt, List.cons.injEq] at hd'
    rw [List.length_cons] at h8
    obtain ⟨h1, h2, h3⟩ := read_one s (p + 1) acc t _ (hg t List.mem_cons_self) (tail_gap ts) hd'.2 (by omega) (by omega)
    rw [from_skip s p acc hlt (.inl hd'.1), h1, ih _ _ (fun u hu => hg u (List.mem_cons_of_mem _ hu)) (by simp; omega) h3 h2, List.append_assoc]
    rfl
theorem read_joined (s : ByteArray) (ts : List T) (hg : ∀ t ∈ ts, Good t) (h8 : ts.length ≤ 800) (hs : s.size ≤ 4000) (hd : s.data.toList = Lib.join (ts.map text) [32]) : tokens s = some ts := by
  have hls := len_list s
  rw [tokens_short s (by omega)]
  show from_ s 0 [] = some ts
  cases ts with
  | nil =>
    have h0 : s.size = 0 := by rw [← hls, hd]; rfl
    exact from_end s 0 [] (by omega)
  | cons t ts =>
    rw [List.map_cons, Lib.join_cons] at hd
    rw [List.length_cons] at h8
    obtain ⟨h1, h2, h3⟩ := read_one s 0 [] t _ (hg t List.mem_cons_self) (tail_gap ts) hd (Nat.zero_le _) (by simp)
    rw [h1, read_tail s ts _ _ (fun u hu => hg u (List.mem_cons_of_mem _ hu)) (by simp; omega) h3 h2]
    rfl
theorem joined_len (ts : List T) : (Lib.join (ts.map text) [32]).length ≤ texts ts + ts.length := by
  have htail : ∀ us : List T, (Lib.joinTail [32] (us.map text)).length = texts us + us.length := by
    intro us
    induction us with
    | nil => rfl
    | cons u us ih => rw [tail_cons, List.length_cons, List.length_append, ih, texts, List.length_cons]; omega
  cases ts with
  | nil => exact Nat.zero_le _
  | cons t ts =>
    rw [List.map_cons, Lib.join_cons, List.length_append, htail, texts, List.length_cons]; omega
end Go.Proofs.YtamjfbjkdicmcaaGreatDoor.Tok
