/-
  SplitAfter Jn PrnSize
-/
import Derived.Test.YtbigfeblomfflaaGreatDoorB11
import Derived.Test.YtbigfeblomfflaaGreatDoorB14
import Derived.Test.YtbigfeblomfflaaGreatDoorB46
namespace Go.Proofs.YtbigfeblomfflaaGreatDoor
namespace Prn
open Go.RowKit
open Tree
theorem index_colon (p r : List UInt8) (h : ∀ c ∈ p, c ≠ 58) : Lib.index (p ++ 58 :: r) [58] = p.length := by
  induction p with
  | nil => rfl
  | cons c p ih =>
    have hc : ((58 : UInt8) == c) = false := by rw [beq_eq_false_iff_ne]; exact fun e => h c List.mem_cons_self e.symm
    have h1 := ih fun x hx => h x (List.mem_cons_of_mem _ hx)
    rw [List.cons_append, Lib.index]
    simp only [List.isPrefixOf, hc, Bool.false_and, Bool.false_eq_true, if_false, h1]
    rw [if_neg (by simp)]
    simp
theorem index_no (p : List UInt8) (h : ∀ c ∈ p, c ≠ 58) : Lib.index p [58] = -1 := by
  induction p with
  | nil => rfl
  | cons c p ih =>
    have hc : ((58 : UInt8) == c) = false := by rw [beq_eq_false_iff_ne]; exact fun e => h c List.mem_cons_self e.symm
    have h1 := ih fun x hx => h x (List.mem_cons_of_mem _ hx)
    rw [Lib.index]
    simp only [List.isPrefixOf, hc, Bool.false_and, Bool.false_eq_true, if_false, h1]
    rfl
theorem key_cons (p : List UInt8) (ps : List (List UInt8)) (z : List UInt8) : KeyText (p :: ps) ++ z = p ++ 58 :: (KeyText ps ++ z) := by simp [KeyText]
theorem drop_key (p z : List UInt8) : (p ++ 58 :: z).drop (p.length + ([58] : List UInt8).length) = z := by
  rw [show p ++ 58 :: z = (p ++ [58]) ++ z by simp]
  exact List.drop_left' (by simp)
theorem count_key (ps : List (List UInt8)) (z : List UInt8) (h : ∀ p ∈ ps, ∀ c ∈ p, c ≠ 58) (hz : ∀ c ∈ z, c ≠ 58) : Lib.count (KeyText ps ++ z) [58] = ps.length := by
  induction ps with
  | nil => exact Lib.count_miss (index_no z hz)
  | cons p ps ih =>
    rw [key_cons, Lib.count_hit (by simp) (index_colon p _ (h p List.mem_cons_self)), drop_key, ih fun q hq => h q (List.mem_cons_of_mem _ hq), List.length_cons, Nat.add_comm]
theorem split_key (ps : List (List UInt8)) (z : List UInt8) (h : ∀ p ∈ ps, ∀ c ∈ p, c ≠ 58) : Lib.splitK [58] 1 ps.length (KeyText ps ++ z) = ps.map (· ++ [58]) ++ [z] := by
  induction ps with
  | nil => rfl
  | cons p ps ih =>
    have hi := index_colon p (KeyText ps ++ z) (h p List.mem_cons_self)
    rw [List.length_cons, key_cons, Lib.splitK, hi, if_neg (by simp), Int.toNat_natCast, drop_key, ih fun q hq => h q (List.mem_cons_of_mem _ hq)]
    rw [show p ++ 58 :: (KeyText ps ++ z) = (p ++ [58]) ++ (KeyText ps ++ z) by simp, List.take_left' (by simp)]
    rfl
theorem data_inj : ∀ {a b : List ByteArray}, a.map (·.data.toList) = b.map (·.data.toList) -> a = b
  | [], [], _ => rfl
  | [], _ :: _, h => by cases h
  | _ :: _, [], h => by cases h
  | x :: xs, y :: ys, h => by
    rw [List.map_cons, List.map_cons, List.cons.injEq] at h
    rw [Tok.ba_ext h.1, data_inj h.2]
theorem after_key (s : ByteArray) (KS : List ByteArray) (z : ByteArray) (hs : s.data.toList = KeyText (KS.map fun p => p.data.toList) ++ z.data.toList) (h : ∀ p ∈ KS, ∀ c ∈ p.data.toList, c ≠ 58) (hz : ∀ c ∈ z.data.toList, c ≠ 58) :
    Lib.splitB ⟨#[58]⟩ 1 (Lib.countB s ⟨#[58]⟩) s = KS.map colonOf ++ [z] := by
  have h' : ∀ p ∈ KS.map (fun p => p.data.toList), ∀ c ∈ p, c ≠ 58 := by
    intro p hp
    obtain ⟨q, hq, rfl⟩ := List.mem_map.1 hp
    exact h q hq
  have hc : Lib.countB s ⟨#[58]⟩ = KS.length := by
    show Lib.count s.data.toList [58] = _
    rw [hs, count_key _ _ h' hz, List.length_map]
  apply data_inj
  rw [hc, Lib.splitB_data, hs]
  show Lib.splitK [58] 1 KS.length _ = _
  have hk := split_key (KS.map fun p => p.data.toList) z.data.toList h'
  rw [List.length_map] at hk
  rw [hk, List.map_append, List.map_map, List.map_map]
  congr 1
theorem alnum_no (l : List UInt8) (h : l.all Tok.alnum = true) : ∀ c ∈ l, c ≠ 58 := by
  intro c hc e
  rw [List.all_eq_true] at h
  have := h c hc
  rw [e] at this
  exact absurd this (by decide)
def partsOf (t : ByteArray) : List ByteArray := if Tok.has Tok.binaries t = true then [t] else (keysOf t).map colonOf ++ [ByteArray.empty]
theorem after_sel (t : ByteArray) (n : Nat) (h : (n : Int) = Tok.countArgs t) (h0 : 0 < n) : Lib.splitB ⟨#[58]⟩ 1 (Lib.countB t ⟨#[58]⟩) t = partsOf t := by
  unfold partsOf
  rcases sel_cases t n h with ⟨hb, hn⟩ | ⟨hb, hn, hx⟩ | ⟨hb, hn, h0, hx⟩
  · rw [if_pos hb]
    have := after_key t [] t rfl (by simp) (by
      rw [Tok.has_data, Tok.za4, List.contains_iff_mem] at hb
      have hall : ∀ y ∈ Tok.binL, ∀ c ∈ y, c ≠ 58 := by decide
      exact hall _ hb)
    exact this
  · omega
  · rw [if_neg (by rw [hb]; decide)]
    obtain ⟨h1, h2⟩ := keys_text t hx
    exact after_key t (keysOf t) ByteArray.empty (by rw [h2]; simp) (fun p hp => alnum_no _ (name20_all _ (h1 p hp)).1) (by intro c hc; cases hc)
set_option maxHeartbeats 1000000 in
theorem split_after (s : ByteArray) (w : World) (hM : Strs.Max w) (hs : s.size <= 1048576) (ps : List ByteArray) (hps : Lib.splitB ⟨#[58]⟩ 1 (Lib.countB s ⟨#[58]⟩) s = ps) :
    Calls Tryz.prog 178 #[.string s, .string ⟨#[58]⟩] w fun e w' => e = .returned (.slice (some ⟨w.heap.size, 0, none⟩) ps.length ps.length) /\ w' = w.alloc (.cells (ps.map Value.string).toArray 9) := by
  obtain ⟨m, hM⟩ := hM
  have hle := Lib.countB_le ⟨#[58]⟩ (by decide) s.size s (zL _)
  have hall := Lib.splitB_all ⟨#[58]⟩ (by decide) 1 _ s rfl
  rw [hps] at hall
  have c := Shelf.strings_genSplit s ⟨#[58]⟩ 1 (-1) (Lib.countB s ⟨#[58]⟩ + 1) _ w (by omega) hM (by decide) (by decide) (by decide) (by decide) (by rw [if_pos (by decide)]; omega)
  rw [Nat.add_sub_cancel, hps, <- hall] at c
  have e2 : Lib.cellsOf ps ps.length = (ps.map Value.string).toArray := Lib.cellsOf_full _
  rw [e2] at c
  have KC := zH c
  clear c hps hall e2 hle
  go_enter Tryz.func178, Tryz.ntmps178
  go_wp2_with fail
  refine KC.out.mono ?_
  rintro e w1 ⟨rfl, hw⟩
  go_wp2_with fail
  go_ret
  exact ⟨rfl, rfl⟩
end Prn
namespace Prn
open Tree
def jn (sep : List UInt8) : List (List UInt8) -> List UInt8
  | [] => []
  | x :: xs => sep ++ (x ++ jn sep xs)
theorem jn_append (sep : List UInt8) (a b : List (List UInt8)) : jn sep (a ++ b) = jn sep a ++ jn sep b := by
  induction a with
  | nil => rfl
  | cons x a ih => rw [List.cons_append, jn, jn, ih]; simp
def up (sep : List UInt8) (xs : List (List UInt8)) (i : Nat) : List UInt8 := (jn sep (xs.take i)).drop sep.length
theorem up_zero (sep : List UInt8) (xs : List (List UInt8)) : up sep xs 0 = [] := by simp [up, jn]
theorem up_one (sep : List UInt8) (xs : List (List UInt8)) (h : 0 < xs.length) : up sep xs 1 = xs[0] := by
  cases xs with
  | nil => simp at h
  | cons x xs => simp [up, jn]
theorem jn_pre (sep : List UInt8) (xs : List (List UInt8)) (i : Nat) (h0 : 0 < i) (h : i <= xs.length) : sep.length <= (jn sep (xs.take i)).length := by
  cases xs with
  | nil => simp at h; omega
  | cons x xs =>
    obtain ⟨i, rfl⟩ : ∃ j, i = j + 1 := ⟨i - 1, by omega⟩
    rw [List.take_succ_cons, jn, List.length_append]; omega
theorem up_more (sep : List UInt8) (xs : List (List UInt8)) (i : Nat) (h0 : 0 < i) (h : i < xs.length) : up sep xs (i + 1) = up sep xs i ++ (sep ++ xs[i]) := by
  unfold up
  rw [List.take_succ_eq_append_getElem h, jn_append, List.drop_append_of_le_length (jn_pre sep xs i h0 (by omega)), jn, jn, List.append_nil]
theorem up_first {sep : List UInt8} {xs : List (List UInt8)} {x : List UInt8} (h : xs[0]? = some x) : up sep xs 1 = x := by
  have hl : 0 < xs.length := by
    rcases Nat.lt_or_ge 0 xs.length with h1 | h1
    · exact h1
    · rw [List.getElem?_eq_none h1] at h; cases h
  rw [List.getElem?_eq_getElem hl] at h
  rw [up_one sep xs hl]; exact Option.some.inj h
theorem up_next {sep : List UInt8} {xs : List (List UInt8)} {i : Nat} {x : List UInt8} (h0 : 0 < i) (h : xs[i]? = some x) : up sep xs (i + 1) = up sep xs i ++ (sep ++ x) := by
  have hl : i < xs.length := by
    rcases Nat.lt_or_ge i xs.length with h1 | h1
    · exact h1
    · rw [List.getElem?_eq_none h1] at h; cases h
  rw [List.getElem?_eq_getElem hl] at h
  rw [up_more sep xs i h0 hl, Option.some.inj h]
theorem up_le (sep : List UInt8) (xs : List (List UInt8)) (i : Nat) : (up sep xs i).length <= (up sep xs xs.length).length := by
  unfold up
  rw [List.take_length, List.length_drop, List.length_drop]
  have : (jn sep xs).length = (jn sep (xs.take i)).length + (jn sep (xs.drop i)).length := by
    rw [<- List.length_append, <- jn_append, List.take_append_drop]
  omega
theorem up_full (sep : List UInt8) (xs : List (List UInt8)) : up sep xs xs.length = (jn sep xs).drop sep.length := by unfold up; rw [List.take_length]
theorem flat_part (need : Nat) (e : E) : flat (part need e) = if bind e < need then 40 :: (flat (px e) ++ [41]) else flat (px e) := by
  unfold part
  split
  · show 40 :: flat (px e ++ [mark Gram.cClose]) = _
    rw [zaj]; rfl
  · rfl
def statsL (ks : List E) : List (List UInt8) := ks.map fun k => flat (px k)
theorem flat_tail (ks : List E) : flat (statsTail (ks.map fm)) = jn [46, 32] (statsL ks) := by
  induction ks with
  | nil => rfl
  | cons k ks ih =>
    rw [List.map_cons, statsTail]
    show 46 :: 32 :: flat (px k ++ statsTail (ks.map fm)) = 46 :: 32 :: (flat (px k) ++ jn [46, 32] (statsL ks))
    rw [zaj, ih]
theorem flat_stats (ks : List E) : flat (statsX (ks.map fm)) = up [46, 32] (statsL ks) ks.length := by
  have h := up_full [46, 32] (statsL ks)
  rw [show (statsL ks).length = ks.length by simp [statsL]] at h
  rw [h]
  cases ks with
  | nil => rfl
  | cons k ks =>
    rw [List.map_cons, statsX, zaj, flat_tail]
    rfl
def msgsL (ms : List E) : List (List UInt8) := ms.map fun m => flat (pm m)
theorem flat_cas (ms : List E) : flat (casTail (ms.map fm)) = jn [59, 32] (msgsL ms) := by
  induction ms with
  | nil => rfl
  | cons k ks ih =>
    rw [List.map_cons, casTail]
    show 59 :: 32 :: flat (pm k ++ casTail (ks.map fm)) = 59 :: 32 :: (flat (pm k) ++ jn [59, 32] (msgsL ks))
    rw [zaj, ih]
theorem flat_msgs (m : E) (ms : List E) : flat (pm m ++ casTail (ms.map fm)) = up [59, 32] (msgsL (m :: ms)) (m :: ms).length := by
  have h := up_full [59, 32] (msgsL (m :: ms))
  rw [show (msgsL (m :: ms)).length = (m :: ms).length by simp [msgsL]] at h
  rw [h, zaj, flat_cas]
  rfl
def argsL (need : Nat) : List ByteArray -> List E -> List (List UInt8)
  | p :: ps, a :: us => (p.data.toList ++ 32 :: flat (part need a)) :: argsL need ps us
  | _, _ => []
theorem argsL_len (need : Nat) : ∀ (ps : List ByteArray) (us : List E), us.length <= ps.length -> (argsL need ps us).length = us.length
  | [], [], _ => rfl
  | [], _ :: _, h => by simp at h
  | _ :: _, [], _ => rfl
  | _ :: ps, _ :: us, h => by rw [argsL, List.length_cons, List.length_cons, argsL_len need ps us (by simpa using h)]
theorem argsL_at (need : Nat) : ∀ (ps : List ByteArray) (us : List E) (i : Nat) (h : us.length <= ps.length) (hi : i < us.length), (argsL need ps us)[i]'(by rw [argsL_len need ps us h]; exact hi) = (ps[i]'(by omega)).data.toList ++ 32 :: flat (part need us[i])
  | [], [], _, _, hi => by simp at hi
  | [], _ :: _, _, h, _ => by simp at h
  | _ :: _, [], _, _, hi => by simp at hi
  | _ :: ps, _ :: us, 0, _, _ => rfl
  | _ :: ps, _ :: us, i + 1, h, hi => by
    have := argsL_at need ps us i (by simpa using h) (by simpa using hi)
    simpa [argsL] using this
theorem argsL_get (need : Nat) (ps : List ByteArray) (us : List E) (h : us.length <= ps.length) (i : Nat) (hi : i < us.length) : (argsL need ps us)[i]? = some ((ps[i]'(by omega)).data.toList ++ 32 :: flat (part need us[i])) := by
  rw [List.getElem?_eq_getElem (by rw [argsL_len need ps us h]; exact hi), argsL_at need ps us i h hi]
theorem flat_keys : ∀ (ks : List ByteArray) (us : List E) (z : List ByteArray), ks.length = us.length -> flat (keysTail ks (us.map fm)) = jn [32] (argsL 2 (ks.map colonOf ++ z) us) := by
  intro ks
  induction ks with
  | nil => intro us z hl; rw [List.eq_nil_of_length_eq_zero hl.symm, List.map_nil, keysTail]; cases z <;> rfl
           all_goals simp
  | cons k ks ih =>
    intro us z hl
    cases us with
    | nil => simp at hl
    | cons a us =>
      rw [List.map_cons, keysTail]
      show 32 :: flat (tk 2 (colonOf k) :: sp :: (part 2 a ++ keysTail ks (us.map fm))) = 32 :: ((colonOf k).data.toList ++ 32 :: flat (part 2 a) ++ jn [32] (argsL 2 (ks.map colonOf ++ z) us))
      rw [flat_tk 2 _ _ (by decide) (by decide) (by decide), flat_sp, zaj, ih us z (by simpa using hl), List.append_assoc]
      rfl
theorem parts_len (t : ByteArray) (n : Nat) (h : (n : Int) = Tok.countArgs t) (h0 : 0 < n) : n <= (partsOf t).length := by
  unfold partsOf
  rcases sel_cases t n h with ⟨hb, hn⟩ | ⟨hb, hn, hx⟩ | ⟨hb, hn, h0, hx⟩
  · rw [if_pos hb, hn]; exact zL _
  · omega
  · rw [if_neg (by rw [hb]; decide)]; simp; omega
theorem flat_msg (t : ByteArray) (us : List E) (h : (us.length : Int) = Tok.countArgs t) (h0 : 0 < us.length) : flat (msgX t (us.map fm)) = up [32] (argsL (Form.argNeed t) (partsOf t) us) us.length := by
  have hl := parts_len t us.length h h0
  have hf := up_full [32] (argsL (Form.argNeed t) (partsOf t) us)
  rw [argsL_len _ _ _ hl] at hf
  rw [hf]
  unfold partsOf Form.argNeed
  rcases sel_cases t us.length h with ⟨hb, hn⟩ | ⟨hb, hn, hx⟩ | ⟨hb, hn, h0, hx⟩
  · obtain ⟨a, rfl⟩ := len_one hn
    rw [if_pos hb, if_pos hb, List.map_cons, List.map_nil, msgX, if_pos hb]
    rw [flat_tk 6 _ _ (by decide) (by decide) (by decide), flat_sp]
    simp [argsL, jn, fm_part]
  · omega
  · cases us with
    | nil => simp at h0
    | cons a us =>
      rw [if_neg (by rw [hb]; decide), if_neg (by rw [hb]; decide), <- flat_keys (keysOf t) (a :: us) [ByteArray.empty] hn.symm, List.map_cons, msgX, if_neg (by rw [hb]; decide)]
      cases hk : keysOf t with
      | nil => rw [hk] at hn; simp at hn
      | cons k ks => rw [keysTail]; rfl
theorem flat_msg_none (t : ByteArray) : flat (msgX t []) = t.data.toList := by
  rw [msgX, flat_tk 1 _ _ (by decide) (by decide) (by decide)]; simp [flat]
end Prn
namespace Prn
open Tree Gram
def bd (e : E) : Nat := 6 * weight e + 20 * size e
def bds : List E -> Nat
  | [] => 0
  | e :: es => bd e + bds es
theorem bds_eq (ks : List E) : bds ks = 6 * weights ks + 20 * sizes ks := by
  induction ks with
  | nil => rfl
  | cons e es ih => rw [bds, ih, bd, weights, sizes]; omega
theorem flat_part_le (need : Nat) (e : E) (h : (flat (px e)).length + 2 <= bd e) : (flat (part need e)).length <= bd e := by
  rw [flat_part]
  split
  · simp; omega
  · omega
theorem len_data (s : ByteArray) : s.data.toList.length = s.size := Tok.zaa s
theorem keys_flat_le : ∀ (ks : List ByteArray) (us : List E), ks.length = us.length -> (∀ a ∈ us, (flat (px a)).length + 2 <= bd a) -> (flat (keysTail ks (us.map fm))).length <= (KeyText (ks.map fun p => p.data.toList)).length + 2 * us.length + bds us := by
  intro ks
  induction ks with
  | nil => intro us hl _; rw [List.eq_nil_of_length_eq_zero hl.symm, List.map_nil, keysTail]; exact Nat.zero_le _
           all_goals simp
  | cons k ks ih =>
    intro us hl ha
    cases us with
    | nil => simp at hl
    | cons a us =>
      have h1 := ih us (by simpa using hl) fun x hx => ha x (List.mem_cons_of_mem _ hx)
      have h2 := flat_part_le 2 a (ha a List.mem_cons_self)
      rw [List.map_cons, keysTail, flat_sp, flat_tk 2 _ _ (by decide) (by decide) (by decide), flat_sp, zaj, fm_part]
      have e1 : (colonOf k).data.toList = k.data.toList ++ [58] := by unfold colonOf; rw [ByteArray.data_append, Array.toList_append]
      have e2 : (KeyText ((k :: ks).map fun p => p.data.toList)).length = k.data.toList.length + 1 + (KeyText (ks.map fun p => p.data.toList)).length := by simp [KeyText]; omega
      rw [e1, e2, bds]
      simp only [List.length_cons, List.length_append, List.length_nil]
      omega
theorem msg_le (t : ByteArray) (us : List E) (hc : (us.length : Int) = Tok.countArgs t) (ha : ∀ a ∈ us, (flat (px a)).length + 2 <= bd a) : (flat (msgX t (us.map fm))).length <= t.size + 2 * us.length + bds us := by
  rcases sel_cases t us.length hc with ⟨hb, hn⟩ | ⟨hb, hn, hx⟩ | ⟨hb, hn, h0, hx⟩
  · obtain ⟨a, rfl⟩ := len_one hn
    have h2 := flat_part_le 3 a (ha a List.mem_cons_self)
    rw [List.map_cons, List.map_nil, msgX, if_pos hb, flat_tk 6 _ _ (by decide) (by decide) (by decide), flat_sp, fm_part, bds, bds]
    simp only [List.length_cons, List.length_append, List.length_nil, len_data]
    omega
  · have := List.eq_nil_of_length_eq_zero hn
    subst this
    rw [List.map_nil, flat_msg_none, len_data]
    omega
  · have h1 := keys_flat_le (keysOf t) us hn.symm ha
    have h2 := (keys_text t hx).2
    rw [h2, len_data] at h1
    cases us with
    | nil => simp at h0
    | cons a us =>
      rw [List.map_cons] at h1 ⊢
      rw [msgX, if_neg (by rw [hb]; decide)]
      cases hk : keysOf t with
      | nil => rw [hk] at hn; simp at hn
      | cons k ks =>
        rw [hk, keysTail, flat_sp, List.length_cons] at h1
        rw [keysTail, List.tail_cons]
        omega
theorem stats_tail_le (ks : List E) (ha : ∀ a ∈ ks, (flat (px a)).length + 2 <= bd a) : (flat (statsTail (ks.map fm))).length <= bds ks := by
  induction ks with
  | nil => exact Nat.zero_le _
  | cons k ks ih =>
    have h1 := ih fun x hx => ha x (List.mem_cons_of_mem _ hx)
    have h2 := ha k List.mem_cons_self
    rw [List.map_cons, statsTail, bds]
    show (46 :: 32 :: flat (px k ++ statsTail (ks.map fm))).length <= _
    rw [zaj]
    simp only [List.length_cons, List.length_append]
    omega
theorem stats_le (ks : List E) (ha : ∀ a ∈ ks, (flat (px a)).length + 2 <= bd a) : (flat (statsX (ks.map fm))).length <= bds ks := by
  cases ks with
  | nil => exact Nat.zero_le _
  | cons k ks =>
    have h1 := stats_tail_le ks fun x hx => ha x (List.mem_cons_of_mem _ hx)
    have h2 := ha k List.mem_cons_self
    rw [List.map_cons, statsX, zaj, fm_x, bds]
    simp only [List.length_append]
    omega
theorem cas_le (ks : List E) (ha : ∀ a ∈ ks, (flat (pm a)).length + 2 <= bd a) : (flat (casTail (ks.map fm))).length <= bds ks := by
  induction ks with
  | nil => exact Nat.zero_le _
  | cons k ks ih =>
    have h1 := ih fun x hx => ha x (List.mem_cons_of_mem _ hx)
    have h2 := ha k List.mem_cons_self
    rw [List.map_cons, casTail, bds]
    show (59 :: 32 :: flat (pm k ++ casTail (ks.map fm))).length <= _
    rw [zaj]
    simp only [List.length_cons, List.length_append]
    omega
theorem pars_le (ps : List ByteArray) : (flat (parsX ps)).length <= 3 * ps.length + lens ps := by
  induction ps with
  | nil => exact Nat.zero_le _
  | cons p ps ih =>
    rw [parsX, lens]
    show (58 :: flat (tk 1 p :: sp :: parsX ps)).length <= _
    rw [flat_tk 1 _ _ (by decide) (by decide) (by decide), flat_sp]
    simp only [List.length_cons, List.length_append, len_data]
    omega
theorem names_le' (ps : List ByteArray) : (flat (namesX ps)).length <= 3 * ps.length + lens ps := by
  induction ps with
  | nil => exact Nat.zero_le _
  | cons p ps ih =>
    rw [namesX, lens, flat_tk 1 _ _ (by decide) (by decide) (by decide), flat_sp]
    simp only [List.length_cons, List.length_append, len_data]
    omega
theorem bars_le (ps : List ByteArray) : (flat (barsX ps)).length <= 3 * ps.length + lens ps + 4 := by
  unfold barsX
  split
  · exact Nat.zero_le _
  · show (124 :: 32 :: flat (namesX ps ++ [mark cBar, sp])).length <= _
    rw [zaj]
    have := names_le' ps
    simp only [List.length_cons, List.length_append]
    show _ + [124, 32].length + 1 + 1 <= _
    simp; omega
theorem body_le (ts : List ByteArray) (ks : List E) (ha : ∀ a ∈ ks, (flat (px a)).length + 2 <= bd a) : (flat (bodyX ts (ks.map fm))).length <= 3 * ts.length + lens ts + 4 + bds ks := by
  unfold bodyX
  rw [zaj, List.length_append]
  have h1 := bars_le ts
  have h2 := stats_le ks ha
  omega
theorem esc_two (l : List UInt8) : (Tok.esc l).length <= 2 * l.length := Tok.esc_len l
theorem bd_mk (k : Int) (t : ByteArray) (n : Int) (ns : List ByteArray) (ks : List E) : bd (.mk k t n ns ks) = 6 * (t.size + (ns.length + lens ns) + ks.length) + 20 + bds ks := by
  rw [bd, weight, size, bds_eq]; omega
theorem len_both (e : E) : (∀ st, right e st = true -> (flat (px e)).length + 2 <= bd e) /\ (Msg e -> (flat (pm e)).length + 2 <= bd e) := by
  refine ind (P := fun e => (∀ st, right e st = true -> (flat (px e)).length + 2 <= bd e) /\ (Msg e -> (flat (pm e)).length + 2 <= bd e)) ?_ e
  intro k t n ns ks ih
  refine ⟨fun st hR => ?_, ?_⟩
  · rw [px_mk, bd_mk]
    have hv := view _ st hR
    cases hv with
    | int z hz =>
      show (Num.intText n ++ []).length + 2 <= _
      obtain ⟨m, rfl⟩ : ∃ m : Nat, n = m := ⟨n.toNat, by omega⟩
      rw [Num.intText_nat, if_neg (by omega), List.append_nil]
      have : (Num.natText m).length <= 9 := by
        rw [Num.natText_len]
        exact Num.cnt_of_lt 8 m (by omega) (by have : (10 : Nat) ^ (8 + 1) = 1000000000 := by decide
                                               omega)
      show (Num.natText ((m : Int)).natAbs).length + 2 <= _
      rw [Int.natAbs_natCast]
      omega
    | text t hz =>
      show ((39 :: Tok.esc t.data.toList ++ [39]) ++ []).length + 2 <= _
      have := esc_two t.data.toList
      rw [len_data] at this
      simp; omega
    | sym t hz =>
      show ((35 :: t.data.toList) ++ []).length + 2 <= _
      rw [List.append_nil, List.length_cons, len_data]; omega
    | name t hz =>
      show (t.data.toList ++ []).length + 2 <= _
      rw [List.append_nil, len_data]; omega
    | assign t q hz hq =>
      have h1 := (ih q List.mem_cons_self).1 _ hq
      show (flat (tk 1 t :: sp :: mark cGets :: sp :: px q)).length + 2 <= _
      rw [flat_tk 1 _ _ (by decide) (by decide) (by decide)]
      show (t.data.toList ++ 32 :: 58 :: 61 :: 32 :: flat (px q)).length + 2 <= _
      simp only [List.length_cons, List.length_append, len_data, List.length_nil, bds, lens]
      omega
    | send t q us hz hq ha =>
      have h1 := flat_part_le (recvNeed t) q ((ih q List.mem_cons_self).1 _ hq)
      have h2 := msg_le t us hz fun a h => (ih a (List.mem_cons_of_mem _ h)).1 _ (ha a h)
      show (flat (part (recvNeed t) q ++ sp :: msgX t (us.map fm))).length + 2 <= _
      rw [zaj, flat_sp]
      simp only [List.length_cons, List.length_append, bds, lens, List.length_nil]
      omega
    | cas q m m2 ms hq hm =>
      have h1 := flat_part_le (recvNeed m.text) q ((ih q List.mem_cons_self).1 _ hq)
      have h2 := (ih m (by simp)).2 (hm m List.mem_cons_self)
      have h3 := cas_le (m2 :: ms) fun a h => (ih a (List.mem_cons_of_mem _ (List.mem_cons_of_mem _ h))).2 (hm a (List.mem_cons_of_mem _ h))
      show (flat (part (recvNeed m.text) q ++ sp :: (pm m ++ casTail ((m2 :: ms).map fm)))).length + 2 <= _
      rw [zaj, flat_sp, zaj]
      rw [bds] at h3
      simp only [List.length_cons, List.length_append, bds, lens, List.length_nil] at h3 ⊢
      omega
    | block m ns ks hn hnn hr =>
      have hb := body_le (ns.drop m) ks fun a h => by
        obtain ⟨i, hi, rfl⟩ := List.mem_iff_getElem.1 h
        exact (ih _ (List.getElem_mem hi)).1 _ ((rights_iff true ks).1 hr i hi).1
      have hp := pars_le (ns.take m)
      have hl : lens ns = lens (ns.take m) + lens (ns.drop m) := by rw [<- lens_append, List.take_append_drop]
      have hn2 : ns.length = (ns.take m).length + (ns.drop m).length := by rw [<- List.length_append, List.take_append_drop]
      show (flat (blockX (m : Int).toNat ns (ks.map fm))).length + 2 <= _
      rw [Int.toNat_natCast]
      unfold blockX
      show (91 :: flat (parsX (ns.take m) ++ ((if 0 < m then [mark cBar, sp] else []) ++ (bodyX (ns.drop m) (ks.map fm) ++ [mark cRight])))).length + 2 <= _
      have h4 : (flat (if 0 < m then [mark cBar, sp] else [])).length <= 2 := by split <;> decide
      rw [zaj, zaj, zaj]
      simp only [List.length_cons, List.length_append]
      show _ + (_ + (_ + [93].length)) + 1 + 2 <= _
      simp only [List.length_cons, List.length_nil]
      omega
    | ret q hs hq =>
      have h1 := (ih q List.mem_cons_self).1 _ hq
      show (94 :: 32 :: flat (px q)).length + 2 <= _
      simp only [List.length_cons, bds, lens, List.length_nil]
      omega
  · rintro ⟨t', ks', he, hl, ha⟩
    cases he
    rw [pm_mk, bd_mk]
    have := msg_le t ks hl fun a h => (ih a h).1 _ (ha a h)
    simp only [lens, List.length_nil]
    omega
theorem size_weight (e : E) : size e <= weight e + 1 := by
  refine ind (P := fun e => size e <= weight e + 1) ?_ e
  intro k t n ns ks ih
  rw [size, weight]
  have : sizes ks <= ks.length + weights ks := by
    induction ks with
    | nil => exact Nat.zero_le _
    | cons x xs ihh =>
      have h1 := ih x List.mem_cons_self
      have h2 := ihh fun y hy => ih y (List.mem_cons_of_mem _ hy)
      rw [sizes, weights, List.length_cons]; omega
  omega
theorem flat_len (e : E) (st : Bool) (h : right e st = true) : (flat (px e)).length <= 26 * weight e + 20 := by
  have h1 := (len_both e).1 st h
  have h2 := size_weight e
  unfold bd at h1
  omega
end Prn
end Go.Proofs.YtbigfeblomfflaaGreatDoor
