/-
  PrnRead
-/
import Derived.Test.YtbigfeblomfflaaGreatDoorB9
namespace Go.Proofs.YtbigfeblomfflaaGreatDoor.Prn
open Tree Gram
structure Stop (r : R) : Prop where
  h1 : hd 1 r = false
  h6 : hd 6 r = false
  h2 : hd 2 r = false
  hs : mk cSemi r = false
  hg : mk cGets r = false
theorem stop_nil : Stop [] := ⟨rfl, rfl, rfl, rfl, rfl⟩
theorem stop_close (r : R) : Stop (⟨7, cClose, 0⟩ :: r) := ⟨by rfl, by rfl, by rfl, by simp [mk, cSemi, cClose], by simp [mk, cGets, cClose]⟩
theorem stop_right (r : R) : Stop (⟨7, cRight, 0⟩ :: r) := ⟨by rfl, by rfl, by rfl, by simp [mk, cSemi, cRight], by simp [mk, cGets, cRight]⟩
theorem stop_dot (r : R) : Stop (⟨7, cDot, 0⟩ :: r) := ⟨by rfl, by rfl, by rfl, by simp [mk, cSemi, cDot], by simp [mk, cGets, cDot]⟩
theorem toks_tk (k : Int) (s : ByteArray) (l : List It) : toks (tk k s :: l) = ⟨k, s, 0⟩ :: toks l := rfl
theorem toks_mark (s : ByteArray) (l : List It) : toks (mark s :: l) = ⟨7, s, 0⟩ :: toks l := rfl
theorem toks_sp (l : List It) : toks (sp :: l) = toks l := rfl
theorem mk_kind (c : ByteArray) (t : Tok.T) (r : R) (h : t.kind ≠ 7) : mk c (t :: r) = false := by
  rw [mk, decide_eq_false h]; rfl
theorem hd_kind (k : Int) (t : Tok.T) (r : R) (h : t.kind ≠ k) : hd k (t :: r) = false := by
  rw [hd, decide_eq_false h]
theorem unLoop_stop (e : E) (s : Bool) (r : R) (h : hd 1 r = false) : unLoop e s r = (e, s, r) := by
  cases r with
  | nil => rfl
  | cons t r =>
    rw [hd, decide_eq_false_iff_not] at h
    rw [unLoop, if_neg h]
def RdE (ex : X) (n : Nat) : Prop := ∀ e, depth e <= n -> right e false = true -> ∀ r, Stop r -> ex (toks (px e) ++ r) = some (e, r)
def P3 (ex : X) (e : E) : Prop := ∀ r, ∃ s, unary ex (toks (part 3 e) ++ r) = some (unLoop e s r)
def P2 (ex : X) (e : E) : Prop := ∀ r, hd 1 r = false -> ∃ s, binary ex (toks (part 2 e) ++ r) = binLoop ex e s r
theorem mem_depth {ks : List E} {e : E} (h : e ∈ ks) : depth e <= depths ks := by
  induction ks with
  | nil => cases h
  | cons k ks ih =>
    rw [depths]
    cases h with
    | head => omega
    | tail _ h => have := ih h; omega
theorem kid_depth {k : Int} {t : ByteArray} {n : Int} {ns : List ByteArray} {ks : List E} {e : E} {d : Nat} (h : depth (.mk k t n ns ks) <= d + 1) (he : e ∈ ks) : depth e <= d := by
  rw [depth] at h
  have := mem_depth he
  omega
def Beg (t : Tok.T) : Prop := (t.kind = 1 \/ t.kind = 3 \/ t.kind = 4 \/ t.kind = 5) \/ (t.kind = 7 /\ (t.text = cOpen \/ t.text = cLeft))
theorem beg_begins {t : Tok.T} (r : R) (h : Beg t) : begins (t :: r) = true := by
  rcases h with (h | h | h | h) | ⟨h, h' | h'⟩
  all_goals simp [begins, h]
  all_goals simp [h']
theorem beg_not {t : Tok.T} (r : R) (h : Beg t) : mk cHat (t :: r) = false /\ mk cBar (t :: r) = false /\ mk cColon (t :: r) = false /\ mk cGets (t :: r) = false := by
  rcases h with (h | h | h | h) | ⟨h, h' | h'⟩
  all_goals simp [mk, h]
  all_goals simp [h', cHat, cBar, cColon, cGets, cOpen, cLeft]
theorem beg_part {need : Nat} {e : E} (h : ∃ t l, toks (px e) = t :: l /\ Beg t) : ∃ t l, toks (part need e) = t :: l /\ Beg t := by
  unfold part
  split
  · exact ⟨⟨7, cOpen, 0⟩, _, rfl, .inr ⟨rfl, .inl rfl⟩⟩
  · exact h
theorem beg_expr (e : E) : right e false = true -> ∃ t l, toks (px e) = t :: l /\ Beg t := by
  refine ind (P := fun e => right e false = true -> ∃ t l, toks (px e) = t :: l /\ Beg t) ?_ e
  intro k t n ns ks ih hR
  rw [px_mk]
  have hv := view _ false hR
  cases hv with
  | int n h => exact ⟨_, _, rfl, .inl (.inr (.inl rfl))⟩
  | text t h => exact ⟨_, _, rfl, .inl (.inr (.inr (.inl rfl)))⟩
  | sym t h => exact ⟨_, _, rfl, .inl (.inr (.inr (.inr rfl)))⟩
  | name t h => exact ⟨_, _, rfl, .inl (.inl rfl)⟩
  | assign t k h hk => exact ⟨_, _, rfl, .inl (.inl rfl)⟩
  | send t q us h hr ha =>
    obtain ⟨u, l, h1, h2⟩ := beg_part (need := recvNeed t) (ih q List.mem_cons_self hr)
    show ∃ t' l', toks (part (recvNeed t) q ++ sp :: msgX t (us.map fm)) = t' :: l' /\ Beg t'
    rw [zaf, h1]
    exact ⟨u, _, rfl, h2⟩
  | cas q m n ms hr hm =>
    obtain ⟨u, l, h1, h2⟩ := beg_part (need := recvNeed m.text) (ih q List.mem_cons_self hr)
    show ∃ t' l', toks (part (recvNeed m.text) q ++ sp :: (pm m ++ casTail ((n :: ms).map fm))) = t' :: l' /\ Beg t'
    rw [zaf, h1]
    exact ⟨u, _, rfl, h2⟩
  | block n ns ks hn hns hk => exact ⟨⟨7, cLeft, 0⟩, _, rfl, .inr ⟨rfl, .inr rfl⟩⟩
  | ret k hs hk => cases hs
theorem keysTail_gets (ks : List ByteArray) (fs : List Fm) (r : R) (h : mk cGets r = false) : mk cGets (toks (keysTail ks fs) ++ r) = false := by
  cases ks with
  | nil => rw [keysTail]; exact h; all_goals simp
  | cons k ks =>
    cases fs with
    | nil => rw [keysTail]; exact h; all_goals simp
    | cons f fs => rw [keysTail]; exact mk_kind _ _ _ (by show (2 : Int) ≠ 7; decide)
theorem toks_tail_keys (ks : List ByteArray) (fs : List Fm) : toks (keysTail ks fs).tail = toks (keysTail ks fs) := by
  cases ks with
  | nil => rw [keysTail]; rfl; all_goals simp
  | cons k ks =>
    cases fs with
    | nil => rw [keysTail]; rfl; all_goals simp
    | cons f fs => rw [keysTail]; rfl
theorem msg_gets (t : ByteArray) (fs : List Fm) (r : R) (h : mk cGets r = false) : mk cGets (toks (msgX t fs) ++ r) = false := by
  cases fs with
  | nil => rw [msgX]; exact mk_kind _ _ _ (by show (1 : Int) ≠ 7; decide)
  | cons f fs =>
    rw [msgX]
    split
    · exact mk_kind _ _ _ (by show (6 : Int) ≠ 7; decide)
    · rw [toks_tail_keys]; exact keysTail_gets _ _ _ h
theorem no_gets (e : E) : right e false = true -> e.kind ≠ 5 -> ∀ r, mk cGets r = false -> (hd 1 (toks (px e) ++ r) && mk cGets (toks (px e) ++ r).tail) = false := by
  refine ind (P := fun e => right e false = true -> e.kind ≠ 5 -> ∀ r, mk cGets r = false -> (hd 1 (toks (px e) ++ r) && mk cGets (toks (px e) ++ r).tail) = false) ?_ e
  intro k t n ns ks ih hR h5 r hr
  have hpart : ∀ need q rest, 1 <= need -> right q false = true -> q ∈ ks -> mk cGets rest = false -> (hd 1 (toks (part need q) ++ rest) && mk cGets (toks (part need q) ++ rest).tail) = false := by
    intro need q rest hn hq hm hg
    unfold part
    split
    · rw [toks_mark]; rfl
    · rename_i hb
      refine ih q hm hq ?_ rest hg
      intro hq5
      unfold bind at hb
      rw [hq5, if_neg (by decide), if_pos (.inl rfl)] at hb
      omega
  have hneed : ∀ s, 1 <= recvNeed s := by intro s; unfold recvNeed; split <;> omega
  rw [px_mk]
  have hv := view _ false hR
  cases hv with
  | int n h => rfl
  | text t h => rfl
  | sym t h => rfl
  | name t h => show (hd 1 (⟨1, t, 0⟩ :: r) && mk cGets r) = false; rw [hr, Bool.and_false]
  | assign t k h hk => exact absurd rfl h5
  | send t q us h hr' ha =>
    show (hd 1 (toks (part (recvNeed t) q ++ sp :: msgX t (us.map fm)) ++ r) && mk cGets (toks (part (recvNeed t) q ++ sp :: msgX t (us.map fm)) ++ r).tail) = false
    rw [zaf, List.append_assoc]
    exact hpart _ q _ (hneed t) hr' List.mem_cons_self (msg_gets _ _ _ hr)
  | cas q m n ms hr' hm =>
    obtain ⟨mt, mk', he, hl, ha⟩ := hm m List.mem_cons_self
    show (hd 1 (toks (part (recvNeed m.text) q ++ sp :: (pm m ++ casTail ((n :: ms).map fm))) ++ r) && mk cGets (toks (part (recvNeed m.text) q ++ sp :: (pm m ++ casTail ((n :: ms).map fm))) ++ r).tail) = false
    rw [zaf, List.append_assoc]
    refine hpart _ q _ (hneed _) hr' List.mem_cons_self ?_
    rw [toks_sp, zaf, List.append_assoc, he, pm_mk]
    exact msg_gets _ _ _ (by rw [List.map_cons, casTail]; simp [toks_mark, mk, cSemi, cGets])
  | block n ns ks hn hns hk => rfl
  | ret k hs hk => cases hs
section
variable {ex : X} {n : Nat}
theorem st_dot (body : List E) (r : R) (e : E) (r1 : R) (hb : begins r = true) (hh : mk cHat r = false) (he : ex r = some (e, r1)) (hd : mk cDot r1 = true) (hl : r1.tail.length < r.length) : stLoop ex body r = stLoop ex (body ++ [e]) r1.tail := by
  rw [stLoop, if_pos hb, if_neg (by rw [hh]; decide)]
  simp only [he, hd, if_true]
  rw [dif_pos hl]
theorem st_last (body : List E) (r : R) (e : E) (r1 : R) (hb : begins r = true) (hh : mk cHat r = false) (he : ex r = some (e, r1)) (hd : mk cDot r1 = false) : stLoop ex body r = some (body ++ [e], r1) := by
  rw [stLoop, if_pos hb, if_neg (by rw [hh]; decide)]
  simp only [he, hd]
  rfl
theorem st_ret (body : List E) (r : R) (e : E) (r1 : R) (hb : begins r = true) (hh : mk cHat r = true) (he : ex r.tail = some (e, r1)) (hd : mk cDot r1 = false) : stLoop ex body r = some (body ++ [.mk 9 none_ 0 [] [e]], r1) := by
  rw [stLoop, if_pos hb, if_pos hh]
  simp only [he, hd]
  rfl
theorem bin_step (e : E) (s : Bool) (r : R) (a : E) (s' : Bool) (r1 : R) (h : hd 6 r = true) (hu : unary ex r.tail = some (a, s', r1)) (hl : r1.length < r.length) : binLoop ex e s r = binLoop ex (eSend e (txt r) [a]) true r1 := by
  rw [binLoop, if_pos h]
  simp only [hu]
  rw [dif_pos hl]
theorem key_step (sel : ByteArray) (args : List E) (r : R) (a : E) (s : Bool) (r1 : R) (h : hd 2 r = true) (hu : binary ex r.tail = some (a, s, r1)) (hl : r1.length < r.length) : keyLoop ex sel args r = keyLoop ex (sel ++ txt r) (args ++ [a]) r1 := by
  rw [keyLoop, if_pos h]
  simp only [hu]
  rw [dif_pos hl]
theorem cas_step (kids : List E) (r : R) (m : E) (r1 : R) (h : mk cSemi r = true) (hu : message ex r.tail = some (m, r1)) (hl : r1.length < r.length) : casLoop ex kids r = casLoop ex (kids ++ [m]) r1 := by
  rw [casLoop, if_pos h]
  simp only [hu]
  rw [dif_pos hl]
theorem prim_paren (H : RdE ex n) (e : E) (hd' : depth e <= n) (hr : right e false = true) (r : R) : primary ex (toks (mark cOpen :: (px e ++ [mark cClose])) ++ r) = some (e, r) := by
  rw [toks_mark, zaf]
  show primary ex (⟨7, cOpen, 0⟩ :: (toks (px e) ++ [⟨7, cClose, 0⟩] ++ r)) = _
  rw [primary]
  have hm : mk cOpen [⟨7, cOpen, 0⟩] = true := by simp [mk]
  simp only [show ¬ (7 : Int) = 1 by decide, show ¬ (7 : Int) = 3 by decide, show ¬ (7 : Int) = 4 by decide, show ¬ (7 : Int) = 5 by decide, if_false, hm, if_true]
  rw [List.append_assoc, List.singleton_append, H e hd' hr _ (stop_close r)]
  simp [mk]
theorem par_loop (ps acc : List ByteArray) (r : R) (h : mk cColon r = false) : parLoop acc (toks (parsX ps) ++ r) = some (acc ++ ps, r) := by
  induction ps generalizing acc with
  | nil =>
    rw [parsX, toks, List.nil_append, List.append_nil]
    match r, h with
    | [], _ => rfl
    | [t], h => rw [parLoop, if_neg (by rw [h]; decide)]
    | t :: u :: r, h =>
      have : mk cColon [t] = false := h
      rw [parLoop, if_neg (by rw [this]; decide)]
  | cons p ps ih =>
    rw [parsX, toks_mark, toks_tk, toks_sp]
    show parLoop acc (⟨7, cColon, 0⟩ :: ⟨1, p, 0⟩ :: (toks (parsX ps) ++ r)) = _
    rw [parLoop, if_pos (by simp [mk]), if_pos rfl, ih, List.append_assoc]; rfl
theorem name_loop (ts acc : List ByteArray) (r : R) (h : hd 1 r = false) : nameLoop acc (toks (namesX ts) ++ r) = (acc ++ ts, r) := by
  induction ts generalizing acc with
  | nil =>
    rw [namesX, toks, List.nil_append, List.append_nil]
    cases r with
    | nil => rfl
    | cons t r =>
      rw [hd, decide_eq_false_iff_not] at h
      rw [nameLoop, if_neg h]
  | cons p ps ih =>
    rw [namesX, toks_tk, toks_sp]
    show nameLoop acc (⟨1, p, 0⟩ :: (toks (namesX ps) ++ r)) = _
    rw [nameLoop, if_pos rfl, ih, List.append_assoc]; rfl
theorem names_bars (ts : List ByteArray) (r : R) (h : mk cBar r = false) : names (toks (barsX ts) ++ r) = some (ts, r) := by
  unfold barsX
  split
  · rename_i h0
    rw [List.isEmpty_iff] at h0
    rw [toks, List.nil_append, h0]
    unfold names
    rw [if_neg (by rw [h]; decide)]
  · rw [toks_mark, toks_sp, zaf]
    show names (⟨7, cBar, 0⟩ :: (toks (namesX ts) ++ [⟨7, cBar, 0⟩] ++ r)) = _
    unfold names
    rw [if_pos (by simp [mk])]
    simp only [List.tail_cons, List.append_assoc]
    rw [name_loop ts [] _ (by rfl)]
    simp [mk]
theorem st_loop (H : RdE ex n) : ∀ (ks body : List E) (r : R), rights true ks = true -> depths ks <= n -> Stop r -> begins r = false -> mk cDot r = false -> stLoop ex body (toks (statsX (ks.map fm)) ++ r) = some (body ++ ks, r) := by
  intro ks
  induction ks with
  | nil =>
    intro body r _ _ _ hb _
    show stLoop ex body r = _
    rw [stLoop, if_neg (by rw [hb]; decide), List.append_nil]
  | cons e es ih =>
    intro body r hr hd' hs hb hdot
    rw [rights, Bool.and_eq_true, Bool.and_eq_true] at hr
    obtain ⟨⟨h1, h2⟩, h3⟩ := hr
    rw [depths] at hd'
    rw [List.map_cons, statsX, zaf, fm_x, List.append_assoc]
    by_cases h9 : e.kind = 9
    · have hes : es = [] := by
        rw [h9] at h2; simpa using h2
      subst hes
      cases e with
      | mk k t m ns ks =>
        have hv := view _ true h1
        have h9' : k = 9 := h9
        subst h9'
        cases hv with
        | ret q hq hk =>
          have hq' : depth q <= n := by
            have : depth (.mk 9 none_ 0 [] [q]) = depth q + 1 := by simp [depth, depths]
            omega
          rw [px_mk]
          show stLoop ex body (⟨7, cHat, 0⟩ :: (toks (px q) ++ r)) = _
          rw [st_ret body _ q r (by simp [begins]) (by simp [mk]) (H q hq' hk r hs) hdot]
    · have h1' := right_stat h1 h9
      obtain ⟨t, l, ht, hbeg⟩ := beg_expr e h1'
      have hbg : ∀ q, begins (toks (px e) ++ q) = true /\ mk cHat (toks (px e) ++ q) = false := by
        intro q
        rw [ht]
        exact ⟨beg_begins _ hbeg, (beg_not _ hbeg).1⟩
      cases es with
      | nil => exact st_last body _ e r (hbg _).1 (hbg _).2 (H e (by omega) h1' r hs) hdot
      | cons e2 es =>
        rw [List.map_cons, statsTail, toks_mark, toks_sp]
        have hrest : toks ((fm e2).x ++ statsTail (es.map fm)) = toks (statsX ((e2 :: es).map fm)) := rfl
        rw [hrest, List.cons_append, st_dot body _ e _ (hbg _).1 (hbg _).2 (H e (by omega) h1' _ (stop_dot _)) (by simp [mk]) (by simp; omega)]
        rw [List.tail_cons, ih (body ++ [e]) r h3 (by omega) hs hb hdot, List.append_assoc, List.singleton_append]
theorem stats_head (ks : List E) (r : R) (hr : rights true ks = true) (h1 : mk cBar r = false) (h2 : mk cColon r = false) : mk cBar (toks (statsX (ks.map fm)) ++ r) = false /\ mk cColon (toks (statsX (ks.map fm)) ++ r) = false := by
  cases ks with
  | nil => exact ⟨h1, h2⟩
  | cons e es =>
    rw [rights, Bool.and_eq_true, Bool.and_eq_true] at hr
    rw [List.map_cons, statsX, zaf, fm_x, List.append_assoc]
    by_cases h9 : e.kind = 9
    · cases e with
      | mk k t m ns ks =>
        have hv := view _ true hr.1.1
        have h9' : k = 9 := h9
        subst h9'
        cases hv with
        | ret q hq hk =>
          rw [px_mk]
          show mk cBar (⟨7, cHat, 0⟩ :: _) = false /\ mk cColon (⟨7, cHat, 0⟩ :: _) = false
          simp [mk, cHat, cBar, cColon]
    · obtain ⟨t, l, ht, hbeg⟩ := beg_expr e (right_stat hr.1.1 h9)
      rw [ht, List.cons_append]
      exact ⟨(beg_not _ hbeg).2.1, (beg_not _ hbeg).2.2.1⟩
theorem prim_block (H : RdE ex n) (m : Nat) (ns : List ByteArray) (ks : List E) (hm : m <= ns.length) (hk : rights true ks = true) (hd' : depths ks <= n) (r : R) : primary ex (toks (blockX m ns (ks.map fm)) ++ r) = some (.mk 8 none_ m ns ks, r) := by
  unfold blockX
  rw [toks_mark, List.cons_append, primary]
  have hml : mk cLeft [⟨7, cLeft, 0⟩] = true := by simp [mk]
  have hmo : mk cOpen [⟨7, cLeft, 0⟩] = false := by simp [mk, cOpen, cLeft]
  simp only [show ¬ (7 : Int) = 1 by decide, show ¬ (7 : Int) = 3 by decide, show ¬ (7 : Int) = 4 by decide, show ¬ (7 : Int) = 5 by decide, if_false, hml, hmo, if_true, Bool.false_eq_true]
  rw [zaf, zaf, zaf, List.append_assoc, List.append_assoc, List.append_assoc]
  show block ex _ = _
  unfold bodyX
  rw [zaf, List.append_assoc]
  have hR : mk cBar (toks (statsX (ks.map fm)) ++ ([⟨7, cRight, 0⟩] ++ r)) = false /\ mk cColon (toks (statsX (ks.map fm)) ++ ([⟨7, cRight, 0⟩] ++ r)) = false :=
    stats_head ks _ hk (by simp [mk, cRight, cBar]) (by simp [mk, cRight, cColon])
  have hst : stLoop ex [] (toks (statsX (ks.map fm)) ++ ([⟨7, cRight, 0⟩] ++ r)) = some ([] ++ ks, [⟨7, cRight, 0⟩] ++ r) :=
    st_loop H ks [] _ hk hd' (stop_right r) (by simp [begins, cRight, cOpen, cLeft, cHat]) (by simp [mk, cRight, cDot])
  have hnm := names_bars (ns.drop m) _ hR.1
  have hbarcol : ∀ ts (q : R), mk cColon q = false -> mk cColon (toks (barsX ts) ++ q) = false := by
    intro ts q hq
    unfold barsX
    split
    · exact hq
    · simp [toks_mark, mk, cBar, cColon]
  show block ex (toks (parsX (ns.take m)) ++ (toks (if 0 < m then [mark cBar, sp] else []) ++ (toks (barsX (ns.drop m)) ++ (toks (statsX (ks.map fm)) ++ ([⟨7, cRight, 0⟩] ++ r))))) = _
  generalize hS : toks (statsX (ks.map fm)) ++ ([⟨7, cRight, 0⟩] ++ r) = S at *
  have hcol : mk cColon (toks (if 0 < m then [mark cBar, sp] else []) ++ (toks (barsX (ns.drop m)) ++ S)) = false := by
    split
    · simp [toks_mark, mk, cBar, cColon]
    · exact hbarcol _ _ hR.2
  unfold block
  rw [par_loop (ns.take m) [] _ hcol]
  simp only [List.nil_append]
  have hlen : (ns.take m).length = m := by rw [List.length_take]; omega
  by_cases h0 : 0 < m
  · rw [if_pos h0]
    show (if (ns.take m).length = 0 \/ mk cBar (⟨7, cBar, 0⟩ :: (toks (barsX (ns.drop m)) ++ S)) = true then (match names (if (ns.take m).length = 0 then _ else (toks (barsX (ns.drop m)) ++ S)) with | none => none | some (ts, r2) => _) else none) = _
    rw [if_pos (.inr (by simp [mk])), if_neg (by omega), hnm]
    simp only [hst, List.nil_append]
    simp [mk, eBlock, hlen]
  · have hm0 : m = 0 := by omega
    subst hm0
    rw [if_neg (show ¬ 0 < 0 by omega)]
    show (if (ns.take 0).length = 0 \/ mk cBar (toks (barsX (ns.drop 0)) ++ S) = true then (match names (if (ns.take 0).length = 0 then (toks (barsX (ns.drop 0)) ++ S) else _) with | none => none | some (ts, r2) => _) else none) = _
    rw [if_pos (.inl rfl), if_pos (show (ns.take 0).length = 0 by simp), hnm]
    simp only [hst, List.nil_append]
    simp [mk, eBlock]
theorem bind_send (t : ByteArray) (m : Int) (ns : List ByteArray) (ks : List E) : bind (.mk 6 t m ns ks) = bindSel t := if_pos rfl
theorem prim4 (H : RdE ex n) (e : E) (hR : right e false = true) (hd' : depth e <= n + 1) (hb : 3 < bind e) (r : R) : primary ex (toks (px e) ++ r) = some (e, r) := by
  cases e with
  | mk k t m ns ks =>
    rw [px_mk]
    have hv := view _ false hR
    cases hv with
    | int z hz => show primary ex (⟨3, none_, _⟩ :: r) = _; rw [primary]; rfl
    | text t h => show primary ex (⟨4, t, 0⟩ :: r) = _; rw [primary]; rfl
    | sym t h => show primary ex (⟨5, t, 0⟩ :: r) = _; rw [primary]; rfl
    | name t h => show primary ex (⟨1, t, 0⟩ :: r) = _; rw [primary]; rfl
    | assign t k h hk => exact absurd hb (by show ¬ 3 < 0; decide)
    | send t q us h hr ha =>
      rw [bind_send] at hb
      unfold bindSel at hb
      repeat' split at hb
      all_goals omega
    | cas q m n ms hr hm => exact absurd hb (by show ¬ 3 < 0; decide)
    | block m ns ks hn hns hk =>
      rw [depth] at hd'
      show primary ex (toks (blockX (m : Int).toNat ns (ks.map fm)) ++ r) = _
      rw [Int.toNat_natCast]
      exact prim_block H m ns ks hn hk (by omega) r
    | ret k hs hk => cases hs
theorem unary_prim (r : R) (e : E) (r1 : R) (h : primary ex r = some (e, r1)) : unary ex r = some (unLoop e false r1) := by unfold unary; rw [h]
theorem send_un (q : E) (t : ByteArray) (r : R) (hq : P3 ex q) : unary ex (toks (part 3 q) ++ ⟨1, t, 0⟩ :: r) = some (unLoop (eSend q t []) true r) := by
  obtain ⟨s, hs⟩ := hq (⟨1, t, 0⟩ :: r)
  rw [hs, unLoop, if_pos rfl]
theorem bin_stop (e : E) (s : Bool) (r : R) (h : hd 6 r = false) : binLoop ex e s r = some (e, s, r) := by
  rw [binLoop, if_neg (by rw [h]; decide)]
theorem send_bin (q a : E) (t : ByteArray) (r : R) (hq : P2 ex q) (ha : P3 ex a) (hr : hd 1 r = false) : binary ex (toks (part 2 q) ++ ⟨6, t, 0⟩ :: (toks (part 3 a) ++ r)) = binLoop ex (eSend q t [a]) true r := by
  obtain ⟨s, hs⟩ := hq (⟨6, t, 0⟩ :: (toks (part 3 a) ++ r)) rfl
  obtain ⟨s', ha'⟩ := ha r
  rw [unLoop_stop _ _ _ hr] at ha'
  rw [hs, bin_step q s _ a s' r rfl ha' (by simp; omega)]
  rfl
theorem part_self (need : Nat) (e : E) (h : need <= bind e) : part need e = px e := by unfold part; rw [if_neg (by omega)]
theorem part_paren (need : Nat) (e : E) (h : bind e < need) : part need e = mark cOpen :: (px e ++ [mark cClose]) := by unfold part; rw [if_pos h]
theorem recv_three {t : ByteArray} (h : bindSel t = 3) : recvNeed t = 3 := by unfold recvNeed; rw [if_pos h]
theorem recv_two {t : ByteArray} (h : bindSel t ≠ 3) : recvNeed t = 2 := by unfold recvNeed; rw [if_neg h]
theorem un3 (H : RdE ex n) (hk : ∀ e', depth e' <= n -> right e' false = true -> P3 ex e') (e : E) (hR : right e false = true) (hd' : depth e <= n + 1) (hb : 3 <= bind e) (r : R) : ∃ s, unary ex (toks (px e) ++ r) = some (unLoop e s r) := by
  rcases Nat.lt_or_ge 3 (bind e) with h4 | h4
  · exact ⟨false, unary_prim _ _ _ (prim4 H e hR hd' h4 r)⟩
  · cases e with
    | mk k t m ns ks =>
      rw [px_mk]
      have hv := view _ false hR
      cases hv with
      | int n h => exact absurd h4 (by show ¬ 3 ≥ 4; decide)
      | text t h => exact absurd h4 (by show ¬ 3 ≥ 4; decide)
      | sym t h => exact absurd h4 (by show ¬ 3 ≥ 4; decide)
      | name t h => exact absurd h4 (by show ¬ 3 ≥ 4; decide)
      | assign t k h hk => exact absurd hb (by show ¬ 3 <= 0; decide)
      | send t q us h hr ha =>
        rw [bind_send] at hb h4
        rcases bind_cases t _ h with ⟨h1, _⟩ | ⟨h1, h2, h3, h5⟩ | ⟨h1, _⟩
        · omega
        · have := List.eq_nil_of_length_eq_zero h3
          subst this
          show ∃ s, unary ex (toks (part (recvNeed t) q ++ sp :: [tk 1 t]) ++ r) = _
          rw [recv_three h1, zaf, List.append_assoc]
          exact ⟨true, send_un q t r (hk q (kid_depth hd' List.mem_cons_self) hr)⟩
        · omega
      | cas q m n ms hr hm => exact absurd hb (by show ¬ 3 <= 0; decide)
      | block m ns ks hn hns hk => exact absurd h4 (by show ¬ 3 ≥ 4; decide)
      | ret k hs hk => cases hs
theorem bi2 (H : RdE ex n) (hk : ∀ e', depth e' <= n -> right e' false = true -> P3 ex e' /\ P2 ex e') (e : E) (hR : right e false = true) (hd' : depth e <= n + 1) (hb : 2 <= bind e) (r : R) (h1r : hd 1 r = false) : ∃ s, binary ex (toks (px e) ++ r) = binLoop ex e s r := by
  rcases Nat.lt_or_ge 2 (bind e) with h4 | h4
  · obtain ⟨s, hs⟩ := un3 H (fun e' h1 h2 => (hk e' h1 h2).1) e hR hd' h4 r
    rw [unLoop_stop _ _ _ h1r] at hs
    refine ⟨s, ?_⟩
    unfold binary
    rw [hs]
  · cases e with
    | mk k t m ns ks =>
      rw [px_mk]
      have hv := view _ false hR
      cases hv with
      | int n h => exact absurd h4 (by show ¬ 2 ≥ 4; decide)
      | text t h => exact absurd h4 (by show ¬ 2 ≥ 4; decide)
      | sym t h => exact absurd h4 (by show ¬ 2 ≥ 4; decide)
      | name t h => exact absurd h4 (by show ¬ 2 ≥ 4; decide)
      | assign t k h hk => exact absurd hb (by show ¬ 2 <= 0; decide)
      | send t q us h hr ha =>
        rw [bind_send] at hb h4
        rcases bind_cases t _ h with ⟨h1, h2, h3⟩ | ⟨h1, _⟩ | ⟨h1, _⟩
        · obtain ⟨a, rfl⟩ := len_one h3
          show ∃ s, binary ex (toks (part (recvNeed t) q ++ sp :: msgX t [fm a]) ++ r) = _
          rw [recv_two (by omega), msgX, if_pos h2, zaf, List.append_assoc]
          exact ⟨true, send_bin q a t r (hk q (kid_depth hd' List.mem_cons_self) hr).2 (hk a (kid_depth hd' (by simp)) (ha a List.mem_cons_self)).1 h1r⟩
        · omega
        · omega
      | cas q m n ms hr hm => exact absurd hb (by show ¬ 2 <= 0; decide)
      | block m ns ks hn hns hk => exact absurd h4 (by show ¬ 2 ≥ 4; decide)
      | ret k hs hk => cases hs
theorem paren3 (H : RdE ex n) (e : E) (hd' : depth e <= n) (hr : right e false = true) (hb : bind e < 3) : P3 ex e := by
  intro r
  rw [part_paren 3 e hb]
  exact ⟨false, unary_prim _ _ _ (prim_paren H e hd' hr r)⟩
theorem paren2 (H : RdE ex n) (e : E) (hd' : depth e <= n) (hr : right e false = true) (hb : bind e < 2) : P2 ex e := by
  intro r h1r
  rw [part_paren 2 e hb]
  refine ⟨false, ?_⟩
  unfold binary
  rw [unary_prim _ _ _ (prim_paren H e hd' hr r), unLoop_stop _ _ _ h1r]
theorem RdE.down {m : Nat} (H : RdE ex n) (h : m <= n) : RdE ex m := fun e hd' => H e (by omega)
theorem depth_pos (e : E) : 0 < depth e := by cases e; rw [depth]; omega
theorem parts (H : RdE ex n) : ∀ d, d <= n -> ∀ e, depth e <= d -> right e false = true -> P3 ex e /\ P2 ex e := by
  intro d
  induction d with
  | zero => intro _ e he; have := depth_pos e; omega
  | succ d ih =>
    intro hdn e he hr
    have hk := ih (by omega)
    have Hd := H.down (show d <= n by omega)
    refine ⟨?_, ?_⟩
    · rcases Nat.lt_or_ge (bind e) 3 with hb | hb
      · exact paren3 H e (by omega) hr hb
      · intro r
        rw [part_self 3 e hb]
        exact un3 Hd (fun e' h1 h2 => (hk e' h1 h2).1) e hr he hb r
    · rcases Nat.lt_or_ge (bind e) 2 with hb | hb
      · exact paren2 H e (by omega) hr hb
      · intro r h1r
        rw [part_self 2 e hb]
        exact bi2 Hd hk e hr he hb r h1r
theorem key_loop (ps : ∀ e, depth e <= n -> right e false = true -> P2 ex e) : ∀ (ks : List ByteArray) (us : List E) (sel : ByteArray) (args : List E) (r : R), ks.length = us.length -> (∀ a ∈ us, depth a <= n /\ right a false = true) -> hd 1 r = false -> hd 6 r = false -> hd 2 r = false -> ∃ S : ByteArray, S.data.toList = sel.data.toList ++ KeyText (ks.map fun p => p.data.toList) /\ keyLoop ex sel args (toks (keysTail ks (us.map fm)) ++ r) = some (S, args ++ us, r) := by
  intro ks
  induction ks with
  | nil =>
    intro us sel args r hl _ _ _ h2
    have : us = [] := List.eq_nil_of_length_eq_zero hl.symm
    subst this
    refine ⟨sel, by simp [KeyText], ?_⟩
    show keyLoop ex sel args r = _
    rw [keyLoop, if_neg (by rw [h2]; decide), List.append_nil]
  | cons k ks ih =>
    intro us sel args r hl ha h1 h6 h2
    cases us with
    | nil => simp at hl
    | cons a us =>
      have hrest : ∀ c, c ≠ 2 -> hd c r = false -> hd c (toks (keysTail ks (us.map fm)) ++ r) = false := by
        intro c hc hr
        cases ks with
        | nil => rw [keysTail]; exact hr; all_goals simp
        | cons k2 ks =>
          cases us with
          | nil => simp at hl
          | cons a2 us => rw [List.map_cons, keysTail]; exact hd_kind _ _ _ (fun h => hc h.symm)
      obtain ⟨s, hs⟩ := ps a (ha a List.mem_cons_self).1 (ha a List.mem_cons_self).2 (toks (keysTail ks (us.map fm)) ++ r) (hrest 1 (by decide) h1)
      rw [bin_stop _ _ _ (hrest 6 (by decide) h6)] at hs
      obtain ⟨S, hS, hgo⟩ := ih us (sel ++ colonOf k) (args ++ [a]) r (by simpa using hl) (fun x hx => ha x (List.mem_cons_of_mem _ hx)) h1 h6 h2
      refine ⟨S, ?_, ?_⟩
      · rw [hS]
        have e1 : (sel ++ colonOf k).data.toList = sel.data.toList ++ (k.data.toList ++ [58]) := by
          unfold colonOf
          rw [ByteArray.data_append, Array.toList_append, ByteArray.data_append, Array.toList_append]
        rw [e1]; simp [KeyText]
      · rw [List.map_cons, keysTail, toks_sp, toks_tk, toks_sp, zaf, fm_part, List.cons_append, List.append_assoc, key_step sel args _ a s _ rfl hs (by simp; omega)]
        show keyLoop ex (sel ++ colonOf k) (args ++ [a]) _ = _
        rw [hgo, List.append_assoc]; rfl
theorem key_msg (ps : ∀ e, depth e <= n -> right e false = true -> P2 ex e) (t : ByteArray) (us : List E) (r : R) (hl : us.length = (keysOf t).length) (h0 : 0 < us.length) (hk : Tok.keys (Cuts.parts t 58) = true) (hb : Tok.has Tok.binaries t = false) (ha : ∀ a ∈ us, depth a <= n /\ right a false = true) (h1 : hd 1 r = false) (h6 : hd 6 r = false) (h2 : hd 2 r = false) : keyLoop ex none_ [] (toks (msgX t (us.map fm)) ++ r) = some (t, us, r) /\ 0 < t.size := by
  obtain ⟨S, hS, hgo⟩ := key_loop ps (keysOf t) us none_ [] r hl.symm ha h1 h6 h2
  have ht := (keys_text t hk).2
  rw [ht] at hS
  have hSt : S = t := Tok.ba_ext (by rw [hS]; rfl)
  subst hSt
  refine ⟨?_, ?_⟩
  · cases us with
    | nil => simp at h0
    | cons a us =>
      rw [List.map_cons] at hgo ⊢
      rw [msgX, if_neg (by rw [hb]; decide), toks_tail_keys, hgo]; rfl
  · rw [<- Tok.zaa, <- ht]
    cases hkk : keysOf S with
    | nil => rw [hkk, List.length_nil] at hl; omega
    | cons k ks => simp [KeyText]; omega
theorem hd_msg_keys (t : ByteArray) (us : List E) (r : R) (hl : us.length = (keysOf t).length) (h0 : 0 < us.length) (hb : Tok.has Tok.binaries t = false) : hd 1 (toks (msgX t (us.map fm)) ++ r) = false /\ hd 6 (toks (msgX t (us.map fm)) ++ r) = false := by
  cases us with
  | nil => simp at h0
  | cons a us =>
    rw [List.map_cons, msgX, if_neg (by rw [hb]; decide), toks_tail_keys]
    cases hk : keysOf t with
    | nil => rw [hk] at hl; simp at hl
    | cons k ks =>
      rw [keysTail]
      exact ⟨hd_kind _ _ _ (by show (2 : Int) ≠ 1; decide), hd_kind _ _ _ (by show (2 : Int) ≠ 6; decide)⟩
theorem message_of (ps : ∀ e, depth e <= n -> right e false = true -> P3 ex e /\ P2 ex e) (m : E) (hm : Msg m) (hd' : depth m <= n + 1) (r : R) (h1 : hd 1 r = false) (h6 : hd 6 r = false) (h2 : hd 2 r = false) : message ex (toks (pm m) ++ r) = some (m, r) := by
  obtain ⟨t, ks, rfl, hl, ha⟩ := hm
  have ha' : ∀ a ∈ ks, depth a <= n /\ right a false = true := fun a h => ⟨kid_depth hd' h, ha a h⟩
  rw [pm_mk]
  rcases bind_cases t _ hl with ⟨_, hb, h3⟩ | ⟨_, hb, h3, hn⟩ | ⟨_, hb, h3, h0, hk⟩
  · obtain ⟨a, rfl⟩ := len_one h3
    rw [List.map_cons, List.map_nil, msgX, if_pos hb, toks_tk, toks_sp, fm_part, List.cons_append]
    unfold message
    rw [if_neg (by rw [hd_kind _ _ _ (by show (6 : Int) ≠ 1; decide)]; decide), if_pos (show hd 6 (⟨6, t, 0⟩ :: _) = true from rfl)]
    simp only [List.tail_cons]
    obtain ⟨s, hs⟩ := (ps a (ha' a List.mem_cons_self).1 (ha' a List.mem_cons_self).2).1 r
    rw [unLoop_stop _ _ _ h1] at hs
    rw [hs]
    rfl
  · have := List.eq_nil_of_length_eq_zero h3
    subst this
    rfl
  · have hh := hd_msg_keys t ks r h3 h0 hb
    obtain ⟨hgo, hpos⟩ := key_msg (fun e h1 h2 => (ps e h1 h2).2) t ks r h3 h0 hk hb ha' h1 h6 h2
    unfold message
    rw [if_neg (by rw [hh.1]; decide), if_neg (by rw [hh.2]; decide), hgo]
    simp only
    rw [if_neg (by omega)]
    rfl
theorem cas_loop (ps : ∀ e, depth e <= n -> right e false = true -> P3 ex e /\ P2 ex e) : ∀ (ms kids : List E) (r : R), (∀ m ∈ ms, Msg m /\ depth m <= n + 1) -> Stop r -> casLoop ex kids (toks (casTail (ms.map fm)) ++ r) = some (kids ++ ms, r) := by
  intro ms
  induction ms with
  | nil =>
    intro kids r _ hs
    show casLoop ex kids r = _
    rw [casLoop, if_neg (by rw [hs.hs]; decide), List.append_nil]
  | cons m ms ih =>
    intro kids r hm hs
    have hrest : ∀ c, c ≠ 7 -> hd c r = false -> hd c (toks (casTail (ms.map fm)) ++ r) = false := by
      intro c hc hr
      cases ms with
      | nil => exact hr
      | cons m2 ms => rw [List.map_cons, casTail]; exact hd_kind _ _ _ (fun h => hc h.symm)
    have hmsg := message_of ps m (hm m List.mem_cons_self).1 (hm m List.mem_cons_self).2 (toks (casTail (ms.map fm)) ++ r) (hrest 1 (by decide) hs.h1) (hrest 6 (by decide) hs.h6) (hrest 2 (by decide) hs.h2)
    rw [List.map_cons, casTail, toks_mark, toks_sp, zaf, fm_m, List.cons_append, List.append_assoc, cas_step kids _ m _ (by simp [mk]) hmsg (by simp; omega), ih (kids ++ [m]) r (fun x hx => hm x (List.mem_cons_of_mem _ hx)) hs, List.append_assoc]
    rfl
theorem cas_none (e : E) (s : Bool) (r : R) (h : mk cSemi r = false) : cascade ex e s r = some (e, r) := by
  unfold cascade; rw [if_neg (by rw [h]; decide)]
theorem key_none (r : R) (h : hd 2 r = false) : keyLoop ex none_ [] r = some (none_, [], r) := by
  rw [keyLoop, if_neg (by rw [h]; decide)]
theorem send_top (ps : ∀ e, depth e <= n -> right e false = true -> P3 ex e /\ P2 ex e) (t : ByteArray) (q : E) (us : List E) (h : (us.length : Int) = Tok.countArgs t) (hq : depth q <= n /\ right q false = true) (ha : ∀ a ∈ us, depth a <= n /\ right a false = true) (r : R) (h1 : hd 1 r = false) (h6 : hd 6 r = false) (h2 : hd 2 r = false)
    (hng : (hd 1 (toks (part (recvNeed t) q ++ sp :: msgX t (us.map fm)) ++ r) && mk cGets (toks (part (recvNeed t) q ++ sp :: msgX t (us.map fm)) ++ r).tail) = false) :
    exprF ex (toks (part (recvNeed t) q ++ sp :: msgX t (us.map fm)) ++ r) = cascade ex (eSend q t us) true r := by
  unfold exprF
  rw [if_neg (by rw [hng]; decide), zaf, toks_sp, List.append_assoc]
  rcases bind_cases t _ h with ⟨hs, hb, h3⟩ | ⟨hs, hb, h3, hn⟩ | ⟨hs, hb, h3, h0, hk⟩
  · obtain ⟨a, rfl⟩ := len_one h3
    rw [recv_two (by omega), List.map_cons, List.map_nil, msgX, if_pos hb, toks_tk, toks_sp, fm_part, List.cons_append,
      send_bin q a t r (ps q hq.1 hq.2).2 (ps a (ha a List.mem_cons_self).1 (ha a List.mem_cons_self).2).1 h1, bin_stop _ _ _ h6]
    simp only
    rw [key_none r h2]
    simp only
    rw [if_pos (show none_.size = 0 from rfl)]
  · have := List.eq_nil_of_length_eq_zero h3
    subst this
    have hun := send_un q t r (ps q hq.1 hq.2).1
    rw [unLoop_stop _ _ _ h1] at hun
    rw [recv_three hs, List.map_nil, msgX, toks_tk]
    show (match binary ex (toks (part 3 q) ++ ⟨1, t, 0⟩ :: r) with | none => none | some (e, s, r1) => _) = _
    unfold binary
    rw [hun]
    simp only
    rw [bin_stop _ _ _ h6]
    simp only
    rw [key_none r h2]
    simp only
    rw [if_pos (show none_.size = 0 from rfl)]
  · have hh := hd_msg_keys t us r h3 h0 hb
    obtain ⟨hgo, hpos⟩ := key_msg (fun e h1 h2 => (ps e h1 h2).2) t us r h3 h0 hk hb ha h1 h6 h2
    obtain ⟨s, hq2⟩ := (ps q hq.1 hq.2).2 (toks (msgX t (us.map fm)) ++ r) hh.1
    rw [bin_stop _ _ _ hh.2] at hq2
    rw [recv_two (by omega), hq2]
    simp only
    rw [hgo]
    simp only
    rw [if_neg (by omega)]
theorem exprF_of (H : RdE ex n) : RdE (exprF ex) (n + 1) := by
  intro e hd' hR r hs
  have ps := parts H n (zL _)
  have hng := fun h5 => no_gets e hR h5 r hs.hg
  rcases Nat.lt_or_ge (bind e) 2 with hb | hb
  · cases e with
    | mk k t m ns ks =>
      rw [px_mk] at hng ⊢
      have hv := view _ false hR
      cases hv with
      | int n h => exact absurd hb (by show ¬ 4 < 2; decide)
      | text t h => exact absurd hb (by show ¬ 4 < 2; decide)
      | sym t h => exact absurd hb (by show ¬ 4 < 2; decide)
      | name t h => exact absurd hb (by show ¬ 4 < 2; decide)
      | assign t k h hk =>
        show exprF ex (⟨1, t, 0⟩ :: ⟨7, cGets, 0⟩ :: (toks (px k) ++ r)) = _
        unfold exprF
        rw [if_pos (by simp [hd, mk])]
        simp only [List.tail_cons]
        rw [H k (kid_depth hd' List.mem_cons_self) hk r hs]
        rfl
      | send t q us h hr' ha =>
        have := send_top ps t q us h ⟨kid_depth hd' List.mem_cons_self, hr'⟩ (fun a h => ⟨kid_depth hd' (List.mem_cons_of_mem _ h), ha a h⟩) r hs.h1 hs.h6 hs.h2 (hng (by show (6 : Int) ≠ 5; decide))
        rw [cas_none _ _ _ hs.hs] at this
        exact this
      | cas q m m2 ms hr' hm =>
        have hmd : ∀ x ∈ m :: m2 :: ms, depth x <= n := fun x hx => kid_depth hd' (List.mem_cons_of_mem _ hx)
        obtain ⟨t, us, he, hl, ha⟩ := hm m List.mem_cons_self
        have hm1 := hmd m List.mem_cons_self
        subst he
        have e1 : toks (nodeX 7 none_ 0 [] ((q :: .mk 6 t 0 [] us :: m2 :: ms).map fm)) ++ r = toks (part (recvNeed t) q ++ sp :: msgX t (us.map fm)) ++ (toks (casTail ((m2 :: ms).map fm)) ++ r) := by
          show toks (part (recvNeed t) q ++ sp :: (pm (.mk 6 t 0 [] us) ++ casTail ((m2 :: ms).map fm))) ++ r = _
          rw [pm_mk, zaf, zaf, toks_sp, toks_sp, zaf, List.append_assoc, List.append_assoc, List.append_assoc]
        have hng' := hng (by show (7 : Int) ≠ 5; decide)
        rw [e1] at hng' ⊢
        have hsemi : ∀ c, c ≠ 7 -> hd c (toks (casTail ((m2 :: ms).map fm)) ++ r) = false := by
          intro c hc
          rw [List.map_cons, casTail]; exact hd_kind _ _ _ (fun h => hc h.symm)
        rw [send_top ps t q us hl ⟨kid_depth hd' List.mem_cons_self, hr'⟩ (fun a h => ⟨by rw [depth] at hm1; have := mem_depth h; omega, ha a h⟩) _ (hsemi 1 (by decide)) (hsemi 6 (by decide)) (hsemi 2 (by decide)) hng']
        unfold cascade
        rw [if_pos (by rw [List.map_cons, casTail]; simp [toks_mark, mk])]
        simp only [if_true]
        show (match casLoop ex [q, .mk 6 t 0 [] us] (toks (casTail ((m2 :: ms).map fm)) ++ r) with | none => none | some (ks, r1) => _) = _
        rw [cas_loop ps (m2 :: ms) _ r (fun x hx => ⟨hm x (List.mem_cons_of_mem _ hx), by have := hmd x (List.mem_cons_of_mem _ hx); omega⟩) hs]
        rfl
      | block m ns ks hn hns hk => exact absurd hb (by show ¬ 4 < 2; decide)
      | ret k hs hk => cases hs
  · have h5 : e.kind ≠ 5 := by
      intro h5; unfold bind at hb; rw [h5, if_neg (by decide), if_pos (.inl rfl)] at hb; omega
    obtain ⟨s, hbin⟩ := bi2 H ps e hR hd' hb r hs.h1
    rw [bin_stop _ _ _ hs.h6] at hbin
    unfold exprF
    rw [if_neg (by rw [hng h5]; decide), hbin]
    simp only
    rw [key_none r hs.h2]
    simp only
    rw [if_pos (by rfl), cas_none _ _ _ hs.hs]
end
theorem expr_of : ∀ n, RdE (expr n) n
  | 0 => fun e hd' => by have := depth_pos e; omega
  | n + 1 => exprF_of (expr_of n)
theorem depths_le (P : E -> Nat) (ks : List E) (b : Nat) (h : ∀ e ∈ ks, P e <= b) (hP : P = depth) : depths ks <= b := by
  subst hP
  induction ks with
  | nil => exact Nat.zero_le _
  | cons e es ih =>
    rw [depths]
    have h1 := h e List.mem_cons_self
    have h2 := ih fun x hx => h x (List.mem_cons_of_mem _ hx)
    omega
theorem part_len (need : Nat) (e : E) : (toks (px e)).length <= (toks (part need e)).length := by
  unfold part
  split
  · rw [toks_mark, zaf]; simp; omega
  · exact zL _
theorem keys_len : ∀ (ks : List ByteArray) (us : List E), ks.length = us.length -> ∀ a ∈ us, (toks (px a)).length + 1 <= (toks (keysTail ks (us.map fm))).length := by
  intro ks
  induction ks with
  | nil => intro us hl a ha; rw [List.eq_nil_of_length_eq_zero hl.symm] at ha; cases ha
  | cons k ks ih =>
    intro us hl a ha
    cases us with
    | nil => cases ha
    | cons b us =>
      rw [List.map_cons, keysTail, toks_sp, toks_tk, toks_sp, zaf, fm_part]
      have h1 := part_len 2 b
      cases ha with
      | head => simp; omega
      | tail _ ha =>
        have := ih us (by simpa using hl) a ha
        simp; omega
theorem msg_len (t : ByteArray) (us : List E) (h : (us.length : Int) = Tok.countArgs t) : 1 <= (toks (msgX t (us.map fm))).length /\ ∀ a ∈ us, (toks (px a)).length + 1 <= (toks (msgX t (us.map fm))).length := by
  rcases sel_cases t _ h with ⟨hb, h3⟩ | ⟨hb, h3, hn⟩ | ⟨hb, h3, h0, hk⟩
  · obtain ⟨a, rfl⟩ := len_one h3
    rw [List.map_cons, List.map_nil, msgX, if_pos hb, toks_tk, toks_sp, fm_part]
    have := part_len 3 a
    refine ⟨by simp, fun b hb => ?_⟩
    rw [List.mem_singleton] at hb
    subst hb
    simp; omega
  · have := List.eq_nil_of_length_eq_zero h3
    subst this
    exact ⟨by simp [msgX, toks_tk], fun a ha => by cases ha⟩
  · cases us with
    | nil => simp at h0
    | cons b us =>
      have h1 := keys_len (keysOf t) (b :: us) h3.symm
      rw [List.map_cons] at h1 ⊢
      rw [msgX, if_neg (by rw [hb]; decide), toks_tail_keys]
      have := h1 b List.mem_cons_self
      exact ⟨by omega, h1⟩
theorem stats_len (ks : List E) : ∀ a ∈ ks, (toks (px a)).length <= (toks (statsX (ks.map fm))).length := by
  have ht : ∀ (ks : List E), ∀ a ∈ ks, (toks (px a)).length <= (toks (statsTail (ks.map fm))).length := by
    intro ks
    induction ks with
    | nil => intro a ha; cases ha
    | cons k ks ih =>
      intro a ha
      rw [List.map_cons, statsTail, toks_mark, toks_sp, zaf, fm_x]
      cases ha with
      | head => simp; omega
      | tail _ ha => have := ih a ha; simp; omega
  intro a ha
  cases ks with
  | nil => cases ha
  | cons k ks =>
    rw [List.map_cons, statsX, zaf, fm_x]
    cases ha with
    | head => simp
    | tail _ ha => have := ht ks a ha; simp; omega
theorem cas_len (ks : List E) : ∀ a ∈ ks, (toks (pm a)).length <= (toks (casTail (ks.map fm))).length := by
  induction ks with
  | nil => intro a ha; cases ha
  | cons k ks ih =>
    intro a ha
    rw [List.map_cons, casTail, toks_mark, toks_sp, zaf, fm_m]
    cases ha with
    | head => simp; omega
    | tail _ ha => have := ih a ha; simp; omega
theorem depth_both (e : E) : (∀ st, right e st = true -> depth e <= (toks (px e)).length) /\ (Msg e -> depth e <= (toks (pm e)).length) := by
  refine ind (P := fun e => (∀ st, right e st = true -> depth e <= (toks (px e)).length) /\ (Msg e -> depth e <= (toks (pm e)).length)) ?_ e
  intro k t n ns ks ih
  have hmsg : ∀ (t : ByteArray) (us : List E), (us.length : Int) = Tok.countArgs t -> (∀ a ∈ us, a ∈ ks) -> (∀ a ∈ us, right a false = true) -> depths us + 1 <= (toks (msgX t (us.map fm))).length := by
    intro t us h hin ha
    have h3 := msg_len t us h
    have h4 := depths_le depth us ((toks (msgX t (us.map fm))).length - 1) (fun a h5 => by
      have := (ih a (hin a h5)).1 _ (ha a h5)
      have := h3.2 a h5
      omega) rfl
    omega
  refine ⟨fun st hR => ?_, ?_⟩
  · rw [px_mk]
    have hv := view _ st hR
    cases hv with
    | int n h => simp [depth, depths, nodeX, toks]
    | text t h => simp [depth, depths, nodeX, toks_tk, toks]
    | sym t h => simp [depth, depths, nodeX, toks_tk, toks]
    | name t h => simp [depth, depths, nodeX, toks_tk, toks]
    | assign t k h hk =>
      have := (ih k List.mem_cons_self).1 _ hk
      show depths [k] + 1 <= (toks (tk 1 t :: sp :: mark cGets :: sp :: px k)).length
      rw [toks_tk, toks_sp, toks_mark, toks_sp]
      simp [depths]; omega
    | send t q us h hr ha =>
      show depths (q :: us) + 1 <= (toks (part (recvNeed t) q ++ sp :: msgX t (us.map fm))).length
      have h1 := (ih q List.mem_cons_self).1 _ hr
      have h2 := part_len (recvNeed t) q
      have h3 := (msg_len t us h).1
      have h4 := hmsg t us h (fun a h => List.mem_cons_of_mem _ h) ha
      rw [zaf, toks_sp, List.length_append, depths]
      have h5 := depth_pos q
      omega
    | cas q m m2 ms hr hm =>
      show depths (q :: m :: m2 :: ms) + 1 <= (toks (part (recvNeed m.text) q ++ sp :: (pm m ++ casTail ((m2 :: ms).map fm)))).length
      have h1 := (ih q List.mem_cons_self).1 _ hr
      have h2 := part_len (recvNeed m.text) q
      have h5 := depth_pos q
      have hm1 := (ih m (by simp)).2 (hm m List.mem_cons_self)
      have h6 := depth_pos m
      have h4 := depths_le depth (m2 :: ms) (toks (casTail ((m2 :: ms).map fm))).length (fun a ha => by
        have h7 := (ih a (List.mem_cons_of_mem _ (List.mem_cons_of_mem _ ha))).2 (hm a (List.mem_cons_of_mem _ ha))
        have h8 := cas_len (m2 :: ms) a ha
        omega) rfl
      rw [zaf, toks_sp, zaf, List.length_append, List.length_append]
      rw [depths, depths]
      omega
    | block m ns ks hn hns hk =>
      show depths ks + 1 <= (toks (blockX (m : Int).toNat ns (ks.map fm))).length
      have h4 := depths_le depth ks (toks (statsX (ks.map fm))).length (fun a h5 => by
        obtain ⟨i, hi, rfl⟩ := List.mem_iff_getElem.1 h5
        have := (ih _ (List.getElem_mem hi)).1 _ ((rights_iff true ks).1 hk i hi).1
        have := stats_len ks _ (List.getElem_mem hi)
        omega) rfl
      unfold blockX bodyX
      rw [toks_mark, zaf, zaf, zaf, zaf]
      simp; omega
    | ret k hs hk =>
      have := (ih k List.mem_cons_self).1 _ hk
      show depths [k] + 1 <= (toks (mark cHat :: sp :: px k)).length
      rw [toks_mark, toks_sp]
      simp [depths]; omega
  · rintro ⟨t', ks', he, hl, ha⟩
    cases he
    rw [pm_mk, depth]
    exact hmsg t ks hl (fun a h => h) ha
theorem depth_len (e : E) (st : Bool) (h : right e st = true) : depth e <= (toks (px e)).length := (depth_both e).1 st h
theorem parse_of (e : E) (h : right e false = true) : parse (toks (px e)) = some e := by
  unfold parse
  have h1 := depth_len e false h
  have h2 := expr_of ((toks (px e)).length + 1) e (by omega) h [] stop_nil
  rw [List.append_nil] at h2
  rw [h2]
end Go.Proofs.YtbigfeblomfflaaGreatDoor.Prn
