/-
  Items Prn
-/
import Derived.Test.YtbigfeblomfflaaGreatDoorB8
namespace Go.Proofs.YtbigfeblomfflaaGreatDoor
namespace Prn
open Tok
inductive It where
  | tok (a : T)
  | bl (c : UInt8)
def It.text : It -> List UInt8
  | .tok t => Tok.text t
  | .bl c => [c]
def flat : List It -> List UInt8
  | [] => []
  | x :: l => x.text ++ flat l
def toks : List It -> List T
  | [] => []
  | .tok t :: l => t :: toks l
  | .bl _ :: l => toks l
theorem zaj (a b : List It) : flat (a ++ b) = flat a ++ flat b := by
  induction a with
  | nil => rfl
  | cons x a ih => rw [List.cons_append, flat, ih, flat, List.append_assoc]
theorem zaf (a b : List It) : toks (a ++ b) = toks a ++ toks b := by
  induction a with
  | nil => rfl
  | cons x a ih => cases x with
    | tok t => rw [List.cons_append, toks, ih, toks]; rfl
    | bl c => rw [List.cons_append, toks, ih, toks]
def ReadsIn (t : T) (r : List UInt8) : Prop := ∃ c F, text t = c :: F /\ ¬ (c = 32 \/ c = 10 \/ c = 9) /\ ¬ c = 34 /\ next ⟨(text t ++ r).toArray⟩ 0 c = some (t, (text t).length)
theorem reads_of {t : T} (h : Tok.Good t) {r : List UInt8} (hr : Gap r) : ReadsIn t r := by
  obtain ⟨⟨c, F, h1, h2, h3, h4⟩, -⟩ := h
  exact ⟨c, F, h1, h2, h3, h4 r hr⟩
def Fit : List It -> List UInt8 -> Prop
  | [], _ => True
  | .tok t :: l, r => ReadsIn t (flat l ++ r) /\ Fit l r
  | .bl c :: l, r => (c = 32 \/ c = 10) /\ Fit l r
theorem fit_append (a b : List It) (r : List UInt8) : Fit (a ++ b) r ↔ Fit a (flat b ++ r) /\ Fit b r := by
  induction a with
  | nil => exact ⟨fun h => ⟨trivial, h⟩, fun h => h.2⟩
  | cons x a ih => cases x with
    | tok t =>
      rw [List.cons_append, Fit, ih, Fit, zaj, List.append_assoc]
      exact ⟨fun h => ⟨⟨h.1, h.2.1⟩, h.2.2⟩, fun h => ⟨h.1.1, h.1.2, h.2⟩⟩
    | bl c =>
      rw [List.cons_append, Fit, ih, Fit]
      exact ⟨fun h => ⟨⟨h.1, h.2.1⟩, h.2.2⟩, fun h => ⟨h.1.1, h.1.2, h.2⟩⟩
theorem read_items (s : ByteArray) : ∀ (l : List It) (p : Nat) (acc : List T), Fit l [] -> acc.length <= 800 -> p <= s.size -> s.data.toList.drop p = flat l -> from_ s p acc = if acc.length + (toks l).length <= 800 then some (acc ++ toks l) else none := by
  have hls := zaa s
  intro l
  induction l with
  | nil =>
    intro p acc _ h8 hp hd
    have h1 := congrArg List.length hd
    rw [List.length_drop] at h1
    have h2 : (flat []).length = 0 := rfl
    rw [toks, List.append_nil, if_pos (by simp; omega)]
    exact from_end s p acc (by omega)
  | cons x l ih =>
    intro p acc hf h8 hp hd
    cases x with
    | bl c =>
      have hlt : p < s.data.toList.length := by
        have h1 := congrArg List.length hd
        rw [List.length_drop, flat, It.text, List.length_append] at h1; simp at h1; rw [<- hls] at h1; simp at h1; simp; omega
      have hd' := hd
      rw [List.drop_eq_getElem_cons hlt, flat, It.text, List.singleton_append, List.cons.injEq] at hd'
      rw [from_skip s p acc hlt (by rw [hd'.1]; rcases hf.1 with h | h <;> simp [h]), toks]
      exact ih (p + 1) acc hf.2 h8 (by omega) hd'.2
    | tok t =>
      obtain ⟨c, F, hcF, hnb, hnq, hnx⟩ := hf.1
      rw [flat, It.text] at hd
      have hlen := congrArg List.length hd
      rw [List.length_drop, List.length_append, hls] at hlen
      have hpos : 0 < (text t).length := by rw [hcF]; simp
      have hlt : p < s.data.toList.length := by omega
      have hd' := hd
      rw [List.drop_eq_getElem_cons hlt, hcF, List.cons_append, List.cons.injEq] at hd'
      have hrest : rest s p = ⟨(text t ++ (flat l ++ [])).toArray⟩ := ba_ext (by rw [za5, hd, List.append_nil])
      have hn : next s p s.data.toList[p] = some (t, p + (text t).length) := by
        rw [next_rest s p _ hp, hrest, hd'.1, hnx]; rfl
      rw [toks]
      by_cases h9 : 800 <= acc.length
      · rw [from_full s p acc hlt (by rw [hd'.1]; exact hnb) (by rw [hd'.1]; exact hnq) t _ hn h9, if_neg (by simp; omega)]
      · rw [from_more s p acc hlt (by rw [hd'.1]; exact hnb) (by rw [hd'.1]; exact hnq) t _ hn h9,
          ih (p + (text t).length) (acc ++ [t]) hf.2 (by simp; omega) (by omega) (by rw [<- List.drop_drop, hd, List.drop_left])]
        simp only [List.length_append, List.length_cons, List.length_nil, List.append_assoc, List.singleton_append, Nat.zero_add, Nat.add_assoc, Nat.add_comm 1]
theorem tokens_items (s : ByteArray) (l : List It) (hf : Fit l []) (hd : s.data.toList = flat l) : tokens s = if s.size <= 4000 /\ (toks l).length <= 800 then some (toks l) else none := by
  by_cases h : 4000 < s.size
  · rw [tokens_long s h, if_neg (by omega)]
  · rw [tokens_short s h]
    show from_ s 0 [] = _
    rw [read_items s l 0 [] hf (by simp) (Nat.zero_le _) hd]
    simp only [List.length_nil, Nat.zero_add, List.nil_append, (by omega : s.size <= 4000), true_and]
theorem name20_all (l : List UInt8) (h : name20 l = true) : l.all alnum = true /\ 1 <= l.length /\ l.length <= 20 /\ letterAt l 0 = true /\ run l 0 = l.length := by
  rw [name20_def] at h
  simp only [Bool.and_eq_true, decide_eq_true_eq] at h
  obtain ⟨⟨⟨h1, h20⟩, hl⟩, hr⟩ := h
  have := all_run l 0
  rw [hr, List.drop_zero, Nat.sub_zero, List.take_length] at this
  exact ⟨this, h1, h20, hl, hr⟩
theorem letter_zero (l : List UInt8) (h0 : 0 < l.length) (h : letterAt l 0 = true) : letter l[0] = true := by
  unfold letterAt at h
  rw [List.getElem?_eq_getElem h0] at h; exact h
theorem good_of (s : ByteArray) (t : T) (h0 : 0 < s.data.toList.length) (h : next s 0 s.data.toList[0] = some (t, s.data.toList.length)) : Tok.Good t := (next_again s 0 h0 t _ h).1
theorem good_word (s : ByteArray) (h : name20 s.data.toList = true) : Tok.Good ⟨if has words s = true then 8 else 1, s, 0⟩ := by
  obtain ⟨_, h1, h20, hl, hr⟩ := name20_all _ h
  refine good_of s _ (by omega) ?_
  unfold next
  rw [if_pos (letter_zero _ (by omega) hl)]
  unfold nameAt
  have hc : colon s.data.toList s.data.toList.length = false := by unfold colon; rw [List.getElem?_eq_none (by omega)]; rfl
  have hx : s.extract 0 s.data.toList.length = s := ba_ext (by rw [zan, List.drop_zero, Nat.sub_zero, List.take_length])
  simp only [hr]
  rw [if_neg (by omega), hc, if_neg (by decide), hx]
theorem good_name (s : ByteArray) (h : isName s = true) : Tok.Good ⟨1, s, 0⟩ := by
  unfold isName at h
  rw [Bool.and_eq_true] at h
  have := good_word s h.1
  rwa [if_neg (by intro hw; rw [hw] at h; exact absurd h.2 (by decide))] at this
theorem run_colon (x r : List UInt8) (hx : x.all alnum = true) : run (x ++ 58 :: r) 0 = x.length := by
  unfold run
  rw [List.drop_zero, Nat.zero_add]
  have : (x ++ 58 :: r).takeWhile alnum = x := by
    induction x with
    | nil => rfl
    | cons c x ih =>
      rw [List.all_cons, Bool.and_eq_true] at hx
      rw [List.cons_append, List.takeWhile_cons, hx.1, if_pos rfl, ih hx.2]
  rw [this]
theorem good_key (p : ByteArray) (h : name20 p.data.toList = true) : Tok.Good ⟨2, p ++ ⟨#[58]⟩, 0⟩ := by
  obtain ⟨ha, h1, h20, hl, hr⟩ := name20_all _ h
  have hd : (p ++ (⟨#[58]⟩ : ByteArray)).data.toList = p.data.toList ++ [58] := by rw [ByteArray.data_append, Array.toList_append]
  have hlen : (p ++ (⟨#[58]⟩ : ByteArray)).data.toList.length = p.data.toList.length + 1 := by rw [hd]; simp
  have hlt : letterAt (p.data.toList ++ [58]) 0 = true := by
    cases hp : p.data.toList with
    | nil => rw [hp] at h1; simp at h1
    | cons c m => rw [hp] at hl; exact hl
  refine good_of (p ++ ⟨#[58]⟩) _ (by omega) ?_
  unfold next
  rw [if_pos (letter_zero _ (by omega) (by rw [hd]; exact hlt))]
  unfold nameAt
  have hrun : run (p ++ (⟨#[58]⟩ : ByteArray)).data.toList 0 = p.data.toList.length := by rw [hd]; exact run_colon _ [] ha
  have hc : colon (p ++ (⟨#[58]⟩ : ByteArray)).data.toList p.data.toList.length = true := by rw [hd]; exact colon_one _ [] (.inl rfl)
  have hx : (p ++ (⟨#[58]⟩ : ByteArray)).extract 0 p.data.toList.length = p := ba_ext (by rw [zan, List.drop_zero, Nat.sub_zero, hd, List.take_left])
  simp only [hrun]
  rw [if_neg (by omega), hc, if_pos rfl, hx, hlen]
theorem good_int (n : Int) (h : 0 <= n /\ n <= 999999999) : Tok.Good ⟨3, ByteArray.empty, n⟩ := by
  obtain ⟨m, rfl⟩ : ∃ m : Nat, n = m := ⟨n.toNat, by omega⟩
  have hr := Num.natText_reads m (by omega)
  have hlen9 : (Num.natText m).length <= 9 := by
    rw [Num.natText_len]
    exact Num.cnt_of_lt 8 m (by omega) (by have : (10 : Nat) ^ (8 + 1) = 1000000000 := by decide
                                           omega)
  have hda : (Num.natText m).all digit = true := hr.1
  have h0 : 0 < (Num.natText m).length := List.length_pos_iff.2 hr.2.1
  refine good_of ⟨(Num.natText m).toArray⟩ _ h0 ?_
  have hd0 : digit ((Num.natText m)[0]) = true := by rw [List.all_eq_true] at hda; exact hda _ (List.getElem_mem h0)
  show next ⟨(Num.natText m).toArray⟩ 0 ((Num.natText m)[0]) = some (_, (Num.natText m).length)
  unfold next
  rw [(digit_not _ hd0).2.2, if_neg (by decide), if_pos hd0]
  show number (Num.natText m) 0 = _
  rw [number_word]
  have hrun : run (Num.natText m) 0 = (Num.natText m).length := by
    have := run_gap (Num.natText m) [] (digit_alnum _ hda) (.inl rfl)
    rwa [List.append_nil] at this
  simp only [hrun, List.take_length]
  rw [if_neg (by omega), if_pos hda]
  have hv : dval (Num.natText m) = m := hr.2.2
  rw [hv]
theorem good_text (s : ByteArray) (h : Tree.isText s = true) : Tok.Good ⟨4, s, 0⟩ := by
  unfold Tree.isText at h
  rw [Bool.and_eq_true, decide_eq_true_eq] at h
  have hls := zaa s
  refine good_of ⟨(39 :: esc s.data.toList ++ [39]).toArray⟩ _ (by show 0 < (39 :: esc s.data.toList ++ [39]).length; simp) ?_
  show next ⟨(39 :: esc s.data.toList ++ [39]).toArray⟩ 0 39 = some (_, (39 :: esc s.data.toList ++ [39]).length)
  unfold next
  rw [if_neg (by decide), if_neg (by decide), if_pos rfl]
  show Tok.quoted (39 :: (esc s.data.toList ++ 39 :: [])) 0 = _
  rw [quoted_unq, unq_esc _ [] (by simp)]
  have hp : s.data.toList.all plain = true /\ s.data.toList.length <= 40 := ⟨h.1, by omega⟩
  simp only [if_pos hp]
  simp; omega
theorem good_bin (s : ByteArray) (h : has binaries s = true) : Tok.Good ⟨6, s, 0⟩ := by
  rw [has_data, za4, List.contains_iff_mem] at h
  obtain ⟨c, F, hcF, hs⟩ := bin_head _ h
  have h0 : 0 < s.data.toList.length := by rw [hcF]; simp
  refine good_of s _ h0 ?_
  have h00 : s.data.toList[0] = c := by simp only [hcF, List.getElem_cons_zero]
  rw [h00, sign_next _ c hs]
  have h1 := starts_data s 0 binaries (Nat.zero_le _)
  rw [za4, List.drop_zero, binL_self _ h] at h1
  have h2 : starts s 0 binaries = s := ba_ext h1
  rw [h2, if_pos (by rw [ByteArray.toList_eq, hcF]; rfl), zaa]
theorem good_mark (s : ByteArray) (h : s.data.toList ∈ markL) : Tok.Good ⟨7, s, 0⟩ := by
  obtain ⟨c, F, hcF, hs⟩ := mark_head _ h
  have h0 : 0 < s.data.toList.length := by rw [hcF]; simp
  refine good_of s _ h0 ?_
  have h00 : s.data.toList[0] = c := by simp only [hcF, List.getElem_cons_zero]
  rw [h00, sign_next _ c hs]
  have hm := marks_again _ h [] (.inl rfl)
  rw [List.append_nil] at hm
  have h1 := starts_data s 0 binaries (Nat.zero_le _)
  rw [za4, List.drop_zero, hm.1] at h1
  have h3 := starts_data s 0 marks (Nat.zero_le _)
  rw [mark_data, List.drop_zero, hm.2] at h3
  have h2 : starts s 0 marks = s := ba_ext h3
  rw [if_neg (by rw [ByteArray.toList_eq, h1]; decide), h2, if_pos (by rw [ByteArray.toList_eq, hcF]; rfl), zaa]
theorem mark_in (c : UInt8) (y : ByteArray) (r : List UInt8) (hy : y.data.toList = [c]) (hs : Sign c) (hb : startsL (c :: r) binL = []) (hm : startsL (c :: r) markL = [c]) : ReadsIn ⟨7, y, 0⟩ r := by
  have htx : text ⟨7, y, 0⟩ = [c] := by rw [plain_text 7 y 0 (by decide) (by decide) (by decide), hy]
  refine ⟨c, [], htx, hs.2.2.2.2.1, hs.2.2.2.2.2, ?_⟩
  rw [htx, sign_next _ c hs]
  have h1 := starts_mk (c :: r) binaries
  rw [za4, hb] at h1
  have h3 := starts_mk (c :: r) marks
  rw [mark_data, hm, <- hy] at h3
  have h2 : starts ⟨(c :: r).toArray⟩ 0 marks = y := ba_ext h3
  show (if (starts ⟨(c :: r).toArray⟩ 0 binaries).toList.isEmpty = false then _ else if (starts ⟨(c :: r).toArray⟩ 0 marks).toList.isEmpty = false then some ((⟨7, starts ⟨(c :: r).toArray⟩ 0 marks, 0⟩ : T), (starts ⟨(c :: r).toArray⟩ 0 marks).size) else none) = _
  rw [if_neg (by rw [ByteArray.toList_eq, h1]; decide), h2, if_pos (by rw [ByteArray.toList_eq, hy]; rfl), <- zaa, hy]
theorem open_in (r : List UInt8) : ReadsIn ⟨7, ⟨#[40]⟩, 0⟩ r := mark_in 40 _ r rfl (by unfold Sign; decide) rfl rfl
theorem left_in (r : List UInt8) : ReadsIn ⟨7, ⟨#[91]⟩, 0⟩ r := mark_in 91 _ r rfl (by unfold Sign; decide) rfl rfl
theorem colon_in (c : UInt8) (r : List UInt8) (h : letter c = true) : ReadsIn ⟨7, ⟨#[58]⟩, 0⟩ (c :: r) := by
  refine mark_in 58 _ (c :: r) rfl (by unfold Sign; decide) rfl ?_
  have hne : ((61 : UInt8) == c) = false := by
    rw [beq_eq_false_iff_ne]; rintro rfl; exact absurd h (by decide)
  simp [startsL, markL, List.isPrefixOf, hne]
def KeyText : List (List UInt8) -> List UInt8 := fun ps => (ps.map fun p => p ++ [58]).flatten
theorem selGo_keys : ∀ (ps : List (List UInt8)) (pre : List UInt8) (f : Nat), (∀ p ∈ ps, name20 p = true) -> ps.length < f -> selGo (pre ++ KeyText ps) f pre.length = (pre ++ KeyText ps).length := by
  intro ps
  induction ps with
  | nil =>
    intro pre f _ hf
    have : KeyText [] = [] := rfl
    rw [this, List.append_nil]
    refine selGo_stop _ _ _ ?_
    rw [run_stop _ _ (fun h => absurd h (Nat.lt_irrefl _))]; omega
  | cons p ps ih =>
    intro pre f hp hf
    obtain ⟨f, rfl⟩ : ∃ g, f = g + 1 := ⟨f - 1, by omega⟩
    obtain ⟨ha, h1, h20, hl, hr⟩ := name20_all p (hp p List.mem_cons_self)
    have e : KeyText (p :: ps) = p ++ 58 :: KeyText ps := by simp [KeyText]
    have hrun : run (pre ++ (p ++ 58 :: KeyText ps)) pre.length = pre.length + p.length := by
      have := run_rest (pre ++ (p ++ 58 :: KeyText ps)) pre.length 0
      rw [Nat.add_zero, List.drop_left, run_colon _ _ ha] at this
      exact this
    have hcol : colon (pre ++ (p ++ 58 :: KeyText ps)) (pre.length + p.length) = true := by
      have := colon_rest (pre ++ (p ++ 58 :: KeyText ps)) pre.length p.length
      rw [List.drop_left] at this
      rw [this]
      unfold colon
      rw [List.getElem?_append_right (zL _), Nat.sub_self, List.getElem?_append_right (by omega), show p.length + 1 - p.length = 1 by omega]
      cases ps with
      | nil => rfl
      | cons q qs =>
        obtain ⟨_, h1q, _, hlq, _⟩ := name20_all q (hp q (by simp))
        have e2 : KeyText (q :: qs) = q ++ 58 :: KeyText qs := by simp [KeyText]
        rw [e2]
        cases q with
        | nil => simp at h1q
        | cons c m =>
          have hc : letter c = true := hlq
          have : ¬ c = 61 := by rintro rfl; exact absurd hc (by decide)
          simp [this]
    rw [e, selGo_go _ _ _ (by rw [hrun]; exact ⟨by omega, hcol⟩), hrun]
    have h2 : pre ++ (p ++ 58 :: KeyText ps) = (pre ++ (p ++ [58])) ++ KeyText ps := by simp
    have h3 : pre.length + p.length + 1 = (pre ++ (p ++ [58])).length := by simp; omega
    rw [h2, h3]
    exact ih (pre ++ (p ++ [58])) f (fun q hq => hp q (List.mem_cons_of_mem _ hq)) (by simp at hf; omega)
def keysOf (s : ByteArray) : List ByteArray := (Cuts.cuts s 58 s.size).1
theorem parts_keys (s : ByteArray) : ∃ z, Cuts.parts s 58 = keysOf s ++ [z] := ⟨_, rfl⟩
theorem keys_text (s : ByteArray) (h : keys (Cuts.parts s 58) = true) : (∀ p ∈ keysOf s, name20 p.data.toList = true) /\ KeyText ((keysOf s).map fun p => p.data.toList) = s.data.toList := by
  obtain ⟨z, hz⟩ := parts_keys s
  have hacc := Cuts.acc_parts s 58
  rw [hz] at h hacc
  unfold keys at h
  rw [List.getLast?_concat, List.dropLast_concat] at h
  simp only [Option.getD_some, Bool.and_eq_true, decide_eq_true_eq] at h
  obtain ⟨⟨h0, h1⟩, -⟩ := h
  rw [List.all_eq_true] at h1
  refine ⟨h1, ?_⟩
  have hl : (keysOf s ++ [z]).length = (keysOf s).length + 1 := by simp
  rw [hl, show UInt8.ofNat (58 : Int).toNat = 58 from rfl, Cuts.acc_flat _ _ _ (by simp), List.take_left] at hacc
  have hz0 : z.data.toList = [] := by rwa [ByteArray.toList_eq, List.isEmpty_iff] at h0
  have hz1 : JoinMath.at_ (keysOf s ++ [z]) (keysOf s).length = z := by simp [JoinMath.at_, List.getD]
  rw [hz1, hz0, List.append_nil] at hacc
  rw [<- hacc]
  unfold KeyText Cuts.flat
  rw [List.map_map]; rfl
theorem keys_size (s : ByteArray) (h : keys (Cuts.parts s 58) = true) : (keysOf s).length <= 4 := by
  obtain ⟨z, hz⟩ := parts_keys s
  rw [hz] at h
  unfold keys at h
  simp only [Bool.and_eq_true, decide_eq_true_eq] at h
  have := h.2
  simp at this; omega
theorem pick_self (s : ByteArray) (h : sel s = true) : pick s = s := by
  have hls := zaa s
  by_cases hb : has binaries s = true
  · rw [has_data, za4, List.contains_iff_mem] at hb
    have h1 := starts_data s 0 binaries (Nat.zero_le _)
    rw [za4, List.drop_zero, binL_self _ hb] at h1
    have h2 : starts s 0 binaries = s := ba_ext h1
    have h3 : ∀ z ∈ binL, z.isEmpty = false := by decide
    unfold pick
    rw [h2, if_pos (by rw [ByteArray.toList_eq]; exact h3 _ hb)]
  · have hlt : letterAt s.data.toList 0 = true := (sel_begins s h).resolve_left hb
    have h1 := starts_data s 0 binaries (Nat.zero_le _)
    rw [za4, List.drop_zero, letter_starts _ hlt] at h1
    unfold pick
    rw [if_neg (by rw [ByteArray.toList_eq, h1]; decide)]
    have hsl : selLen s.data.toList = s.size := by
      unfold sel at h
      rw [Bool.or_eq_true] at h
      have h := h.resolve_left hb
      split at h
      · rename_i hm
        obtain ⟨hn, ht⟩ := keys_text s h
        have hgo := selGo_keys ((keysOf s).map fun p => p.data.toList) [] (s.data.toList.length + 1) (by
          intro p hp
          obtain ⟨q, hq, rfl⟩ := List.mem_map.1 hp
          exact hn q hq) (by
          have : ((keysOf s).map fun p => p.data.toList).length <= (KeyText ((keysOf s).map fun p => p.data.toList)).length := by
            generalize (keysOf s).map (fun p => p.data.toList) = l
            induction l with
            | nil => simp
            | cons p l ih => 
              have e : KeyText (p :: l) = p ++ 58 :: KeyText l := by simp [KeyText]
              rw [e]; simp; omega
          rw [ht] at this
          omega)
        rw [List.nil_append, ht] at hgo
        have hpos : 0 < s.data.toList.length := by
          cases hd : s.data.toList with
          | nil => rw [hd] at hlt; exact absurd hlt (by decide)
          | cons c m => simp
        unfold selLen
        have hgo' : selGo s.data.toList (s.data.toList.length + 1) 0 = s.data.toList.length := hgo
        rw [hgo', if_neg (by omega), hls]
      · unfold isName at h
        rw [Bool.and_eq_true] at h
        obtain ⟨_, h1, h20, hl, hr⟩ := name20_all _ h.1
        unfold selLen
        have hc : colon s.data.toList s.data.toList.length = false := by unfold colon; rw [List.getElem?_eq_none (by omega)]; rfl
        rw [selGo_stop _ _ 0 (by rw [hr, hc]; exact fun h => absurd h.2 (by decide)), if_pos rfl, hr, hls]
    rw [hsl]
    exact ba_ext (by rw [zan, List.drop_zero, Nat.sub_zero]; exact List.take_of_length_le (by omega))
theorem good_sym (s : ByteArray) (h : sel s = true) : Tok.Good ⟨5, s, 0⟩ := by
  have hls := zaa s
  refine good_of ⟨(35 :: s.data.toList).toArray⟩ _ (by show 0 < (35 :: s.data.toList).length; simp) ?_
  show next ⟨(35 :: s.data.toList).toArray⟩ 0 35 = some (_, (35 :: s.data.toList).length)
  unfold next
  rw [if_neg (by decide), if_neg (by decide), if_neg (by decide), if_pos rfl, Nat.zero_add]
  have hsz : (⟨(35 :: s.data.toList).toArray⟩ : ByteArray).size = 1 + s.data.toList.length := by rw [<- zaa]; show (35 :: s.data.toList).length = _; simp; omega
  rw [selector_read _ (by rw [hsz]; omega)]
  have hrest : rest ⟨(35 :: s.data.toList).toArray⟩ 1 = s := ba_ext (by rw [za5]; rfl)
  rw [hrest, pick_self s h, if_pos h, List.length_cons, hls, Nat.add_comm]
end Prn
end Go.Proofs.YtbigfeblomfflaaGreatDoor
namespace Go.Proofs.YtbigfeblomfflaaGreatDoor.Prn
open Tree Gram
def tk (k : Int) (s : ByteArray) : It := .tok ⟨k, s, 0⟩
def mark (c : ByteArray) : It := tk 7 c
def sp : It := .bl 32
def colonOf (k : ByteArray) : ByteArray := k ++ ⟨#[58]⟩
def bindSel (s : ByteArray) : Nat := if Tok.has Tok.binaries s = true then 2 else if Tok.countArgs s = 0 then 3 else 1
def bind (e : E) : Nat := if e.kind = 6 then bindSel e.text else if e.kind = 5 \/ e.kind = 7 \/ e.kind = 9 then 0 else 4
def recvNeed (s : ByteArray) : Nat := if bindSel s = 3 then 3 else 2
structure Fm where
  lv : Nat
  sel : ByteArray
  x : List It
  m : List It
def Fm.part (need : Nat) (f : Fm) : List It := if f.lv < need then mark cOpen :: (f.x ++ [mark cClose]) else f.x
def keysTail : List ByteArray -> List Fm -> List It
  | k :: ks, f :: fs => sp :: tk 2 (colonOf k) :: sp :: (f.part 2 ++ keysTail ks fs)
  | _, _ => []
def msgX (t : ByteArray) : List Fm -> List It
  | [] => [tk 1 t]
  | f :: fs => if Tok.has Tok.binaries t = true then tk 6 t :: sp :: f.part 3 else (keysTail (keysOf t) (f :: fs)).tail
def statsTail : List Fm -> List It
  | [] => []
  | f :: fs => mark cDot :: sp :: (f.x ++ statsTail fs)
def statsX : List Fm -> List It
  | [] => []
  | f :: fs => f.x ++ statsTail fs
def casTail : List Fm -> List It
  | [] => []
  | f :: fs => mark cSemi :: sp :: (f.m ++ casTail fs)
def parsX : List ByteArray -> List It
  | [] => []
  | p :: ps => mark cColon :: tk 1 p :: sp :: parsX ps
def namesX : List ByteArray -> List It
  | [] => []
  | p :: ps => tk 1 p :: sp :: namesX ps
def barsX (ts : List ByteArray) : List It := if ts.isEmpty = true then [] else mark cBar :: sp :: (namesX ts ++ [mark cBar, sp])
def bodyX (ts : List ByteArray) (fs : List Fm) : List It := barsX ts ++ statsX fs
def blockX (n : Nat) (ns : List ByteArray) (fs : List Fm) : List It :=
  mark cLeft :: (parsX (ns.take n) ++ ((if 0 < n then [mark cBar, sp] else []) ++ (bodyX (ns.drop n) fs ++ [mark cRight])))
def assignX (t : ByteArray) : List Fm -> List It
  | [] => []
  | f :: _ => tk 1 t :: sp :: mark cGets :: sp :: f.x
def sendX (t : ByteArray) : List Fm -> List It
  | [] => []
  | f :: fs => f.part (recvNeed t) ++ sp :: msgX t fs
def casX : List Fm -> List It
  | f :: g :: gs => f.part (recvNeed g.sel) ++ sp :: (g.m ++ casTail gs)
  | _ => []
def retX : List Fm -> List It
  | [] => []
  | f :: _ => mark cHat :: sp :: f.x
def nodeX (k : Int) (t : ByteArray) (n : Int) (ns : List ByteArray) (fs : List Fm) : List It :=
  if k = 1 then [.tok ⟨3, none_, n⟩]
  else if k = 2 then [tk 4 t]
  else if k = 3 then [tk 5 t]
  else if k = 5 then assignX t fs
  else if k = 6 then sendX t fs
  else if k = 7 then casX fs
  else if k = 8 then blockX n.toNat ns fs
  else if k = 9 then retX fs
  else [tk 1 t]
mutual
def form : E -> List It × List It
  | .mk k t n ns ks => (nodeX k t n ns (forms ks), msgX t (forms ks))
def forms : List E -> List Fm
  | [] => []
  | e :: es => ⟨bind e, e.text, (form e).1, (form e).2⟩ :: forms es
end
def fm (e : E) : Fm := ⟨bind e, e.text, (form e).1, (form e).2⟩
def px (e : E) : List It := (form e).1
def pm (e : E) : List It := (form e).2
def part (need : Nat) (e : E) : List It := if bind e < need then mark cOpen :: (px e ++ [mark cClose]) else px e
theorem forms_map (ks : List E) : forms ks = ks.map fm := by
  induction ks with
  | nil => rw [forms]; rfl
  | cons e es ih => rw [forms, ih]; rfl
theorem px_mk (k : Int) (t : ByteArray) (n : Int) (ns : List ByteArray) (ks : List E) : px (.mk k t n ns ks) = nodeX k t n ns (ks.map fm) := by
  unfold px; rw [form, forms_map]
theorem pm_mk (k : Int) (t : ByteArray) (n : Int) (ns : List ByteArray) (ks : List E) : pm (.mk k t n ns ks) = msgX t (ks.map fm) := by
  unfold pm; rw [form, forms_map]
theorem fm_x (e : E) : (fm e).x = px e := rfl
theorem fm_m (e : E) : (fm e).m = pm e := rfl
theorem fm_part (need : Nat) (e : E) : (fm e).part need = part need e := rfl
theorem sel_cases (t : ByteArray) (n : Nat) (h : (n : Int) = Tok.countArgs t) : (Tok.has Tok.binaries t = true /\ n = 1) \/ (Tok.has Tok.binaries t = false /\ n = 0 /\ Tok.isName t = true) \/ (Tok.has Tok.binaries t = false /\ n = (keysOf t).length /\ 0 < n /\ Tok.keys (Cuts.parts t 58) = true) := by
  unfold Tok.countArgs at h
  by_cases hs : Tok.sel t = true
  · rw [if_pos hs] at h
    by_cases hb : Tok.has Tok.binaries t = true
    · rw [if_pos hb] at h
      exact .inl ⟨hb, by omega⟩
    · rw [if_neg hb] at h
      have hb' : Tok.has Tok.binaries t = false := by simpa using hb
      obtain ⟨z, hz⟩ := parts_keys t
      have hl : (Cuts.parts t 58).length = (keysOf t).length + 1 := by rw [hz]; simp
      unfold Tok.sel at hs
      rw [hb', Bool.false_or] at hs
      split at hs
      · exact .inr (.inr ⟨hb', by omega, by omega, hs⟩)
      · exact .inr (.inl ⟨hb', by omega, hs⟩)
  · rw [if_neg hs] at h; omega
theorem bind_cases (t : ByteArray) (n : Nat) (h : (n : Int) = Tok.countArgs t) : (bindSel t = 2 /\ Tok.has Tok.binaries t = true /\ n = 1) \/ (bindSel t = 3 /\ Tok.has Tok.binaries t = false /\ n = 0 /\ Tok.isName t = true) \/ (bindSel t = 1 /\ Tok.has Tok.binaries t = false /\ n = (keysOf t).length /\ 0 < n /\ Tok.keys (Cuts.parts t 58) = true) := by
  rcases sel_cases t n h with ⟨hb, hn⟩ | ⟨hb, hn, hx⟩ | ⟨hb, hn, h0, hx⟩
  · exact .inl ⟨by unfold bindSel; rw [if_pos hb], hb, hn⟩
  · exact .inr (.inl ⟨by unfold bindSel; rw [hb, if_neg (by decide), if_pos (by omega)], hb, hn, hx⟩)
  · exact .inr (.inr ⟨by unfold bindSel; rw [hb, if_neg (by decide), if_neg (by omega)], hb, hn, h0, hx⟩)
def Msg (m : E) : Prop := ∃ t ks, m = .mk 6 t 0 [] ks /\ (ks.length : Int) = Tok.countArgs t /\ ∀ a ∈ ks, right a false = true
theorem size_zero (s : ByteArray) (h : s.size = 0) : s = none_ := by
  have h1 : s.data.toList.length = 0 := by rw [Tok.zaa]; exact h
  exact Tok.ba_ext (by rw [List.eq_nil_of_length_eq_zero h1]; rfl)
theorem msg_view (m : E) (h : msg m = true) : Msg m := by
  cases m with
  | mk k t n ns ks =>
    unfold msg E.kind E.num E.names E.text E.kids at h
    simp only [Bool.and_eq_true, decide_eq_true_eq] at h
    obtain ⟨⟨⟨⟨⟨h1, h2⟩, h3⟩, h4⟩, h5⟩, h6⟩ := h
    rw [rights_false, List.all_eq_true] at h6
    exact ⟨t, ks, by rw [h1, h2, List.eq_nil_of_length_eq_zero h3], h5, h6⟩
inductive View (st : Bool) : E -> Prop where
  | int (n : Int) (h : 0 <= n /\ n <= 999999999) : View st (.mk 1 none_ n [] [])
  | text (t : ByteArray) (h : isText t = true) : View st (.mk 2 t 0 [] [])
  | sym (t : ByteArray) (h : Tok.sel t = true) : View st (.mk 3 t 0 [] [])
  | name (t : ByteArray) (h : Tok.isName t = true) : View st (.mk 4 t 0 [] [])
  | assign (t : ByteArray) (k : E) (h : Tok.isName t = true) (hk : right k false = true) : View st (.mk 5 t 0 [] [k])
  | send (t : ByteArray) (r : E) (us : List E) (h : (us.length : Int) = Tok.countArgs t) (hr : right r false = true) (ha : ∀ a ∈ us, right a false = true) : View st (.mk 6 t 0 [] (r :: us))
  | cas (r m n : E) (ms : List E) (hr : right r false = true) (hm : ∀ x ∈ m :: n :: ms, Msg x) : View st (.mk 7 none_ 0 [] (r :: m :: n :: ms))
  | block (n : Nat) (ns : List ByteArray) (ks : List E) (hn : n <= ns.length) (hns : ∀ x ∈ ns, Tok.isName x = true) (hk : rights true ks = true) : View st (.mk 8 none_ n ns ks)
  | ret (k : E) (hs : st = true) (hk : right k false = true) : View st (.mk 9 none_ 0 [] [k])
theorem len_one {ks : List E} (h : ks.length = 1) : ∃ k, ks = [k] := by
  match ks, h with
  | [k], _ => exact ⟨k, rfl⟩
theorem view (e : E) (st : Bool) (h : right e st = true) : View st e := by
  cases e with
  | mk k t n ns ks =>
    rw [right, Bool.and_eq_true, Bool.and_eq_true] at h
    obtain ⟨⟨hn, h9⟩, hk⟩ := h
    unfold node at hn
    split at hn
    · cases hn
    · rename_i h0
      have hns : k ≠ 8 -> ns = [] := fun hk8 => List.eq_nil_of_length_eq_zero (by
        rcases Nat.eq_zero_or_pos ns.length with hz | hz
        · exact hz
        · exact absurd (.inl ⟨hk8, hz⟩) h0)
      have hnum : k ≠ 1 -> k ≠ 8 -> n = 0 := fun h1 h8 => by
        rcases Classical.em (n = 0) with hz | hz
        · exact hz
        · exact absurd (.inr ⟨h1, h8, hz⟩) h0
      split at hn
      · rename_i h1
        subst h1
        simp only [Bool.and_eq_true, decide_eq_true_eq] at hn
        rw [hns (by decide), size_zero t hn.1, List.eq_nil_of_length_eq_zero hn.2.2]
        exact .int n hn.2.1
      split at hn
      · rename_i h1
        subst h1
        simp only [Bool.and_eq_true, decide_eq_true_eq] at hn
        rw [hns (by decide), hnum (by decide) (by decide), List.eq_nil_of_length_eq_zero hn.2]
        exact .text t hn.1
      split at hn
      · rename_i h1
        subst h1
        simp only [Bool.and_eq_true, decide_eq_true_eq] at hn
        rw [hns (by decide), hnum (by decide) (by decide), List.eq_nil_of_length_eq_zero hn.2]
        exact .sym t hn.1
      split at hn
      · rename_i h1
        subst h1
        simp only [Bool.and_eq_true, decide_eq_true_eq] at hn
        rw [hns (by decide), hnum (by decide) (by decide), List.eq_nil_of_length_eq_zero hn.2]
        exact .name t hn.1
      split at hn
      · rename_i h1
        subst h1
        simp only [Bool.and_eq_true, decide_eq_true_eq] at hn
        obtain ⟨e, rfl⟩ := len_one hn.2
        rw [if_neg (by decide), show decide ((5 : Int) = 8) = false from rfl, rights_false] at hk
        rw [hns (by decide), hnum (by decide) (by decide)]
        exact .assign t e hn.1 (by simpa using hk)
      split at hn
      · rename_i h1
        subst h1
        simp only [Bool.and_eq_true, decide_eq_true_eq] at hn
        rw [if_neg (by decide), show decide ((6 : Int) = 8) = false from rfl, rights_false, List.all_eq_true] at hk
        rw [hns (by decide), hnum (by decide) (by decide)]
        cases ks with
        | nil => exact absurd hn.2 (by simp)
        | cons r us => exact .send t r us (by have := hn.1; simp at this; omega) (hk r List.mem_cons_self) (fun a ha => hk a (List.mem_cons_of_mem _ ha))
      split at hn
      · rename_i h1
        subst h1
        simp only [Bool.and_eq_true, decide_eq_true_eq] at hn
        rw [if_pos rfl] at hk
        rw [hns (by decide), hnum (by decide) (by decide), size_zero t hn.1]
        match ks, hn.2.1, hn.2.2, hk with
        | [], h3, _, _ => exact absurd h3 (by simp)
        | [_], h3, _, _ => exact absurd h3 (by simp)
        | [_, _], h3, _, _ => exact absurd h3 (by simp)
        | r :: m :: n :: ms, _, hm, hr =>
          rw [tailOk, msgs_all, List.all_eq_true] at hm
          rw [headOk] at hr
          exact .cas r m n ms hr (fun x hx => msg_view x (hm x hx))
      split at hn
      · rename_i h1
        subst h1
        simp only [Bool.and_eq_true, decide_eq_true_eq] at hn
        rw [if_neg (by decide), show decide ((8 : Int) = 8) = true from rfl] at hk
        obtain ⟨m, rfl⟩ : ∃ m : Nat, n = m := ⟨n.toNat, by omega⟩
        rw [size_zero t hn.2.1]
        rw [List.all_eq_true] at hn
        exact .block m ns ks (by omega) hn.1 hk
      split at hn
      · rename_i h1
        subst h1
        simp only [Bool.and_eq_true, decide_eq_true_eq] at hn
        obtain ⟨e, rfl⟩ := len_one hn.2
        rw [if_neg (by decide), show decide ((9 : Int) = 8) = false from rfl, rights_false] at hk
        rw [hns (by decide), hnum (by decide) (by decide), size_zero t hn.1]
        exact .ret e (by simpa using h9) (by simpa using hk)
      · cases hn
theorem right_stat {e : E} (h : right e true = true) (h9 : e.kind ≠ 9) : right e false = true := by
  cases e with
  | mk k t n ns ks =>
    have h9' : k ≠ 9 := h9
    rw [right] at h ⊢
    rw [decide_eq_true h9'] at h ⊢
    simpa using h
open Tok (Gap Gp)
theorem gap32 (l : List UInt8) : Gap (32 :: l) := .inr ⟨32, l, rfl, .inl rfl⟩
theorem gap_mark (c : UInt8) (h : Gp c) (l : List UInt8) : Gap (c :: l) := .inr ⟨c, l, rfl, h⟩
theorem flat_tk (k : Int) (s : ByteArray) (l : List It) (h3 : k ≠ 3) (h4 : k ≠ 4) (h5 : k ≠ 5) : flat (tk k s :: l) = s.data.toList ++ flat l := by
  rw [flat]; show Tok.text ⟨k, s, 0⟩ ++ _ = _
  rw [Tok.plain_text k s 0 h3 h4 h5]
theorem flat_sp (l : List It) : flat (sp :: l) = 32 :: flat l := rfl
theorem fit_tk (k : Int) (s : ByteArray) (l : List It) (r : List UInt8) (hg : Tok.Good ⟨k, s, 0⟩) (hr : Gap (flat l ++ r)) (hl : Fit l r) : Fit (tk k s :: l) r := ⟨reads_of hg hr, hl⟩
theorem fit_sp (l : List It) (r : List UInt8) (hl : Fit l r) : Fit (sp :: l) r := ⟨.inl rfl, hl⟩
theorem good_cClose : Tok.Good ⟨7, cClose, 0⟩ := good_mark _ (by decide)
theorem good_cRight : Tok.Good ⟨7, cRight, 0⟩ := good_mark _ (by decide)
theorem good_cBar : Tok.Good ⟨7, cBar, 0⟩ := good_mark _ (by decide)
theorem good_cDot : Tok.Good ⟨7, cDot, 0⟩ := good_mark _ (by decide)
theorem good_cSemi : Tok.Good ⟨7, cSemi, 0⟩ := good_mark _ (by decide)
theorem good_cGets : Tok.Good ⟨7, cGets, 0⟩ := good_mark _ (by decide)
theorem good_cHat : Tok.Good ⟨7, cHat, 0⟩ := good_mark _ (by decide)
def FitX (l : List It) : Prop := ∀ r, Gap r -> Fit l r
theorem fit_part (f : Fm) (need : Nat) (h : FitX f.x) : FitX (f.part need) := by
  intro r hr
  unfold Fm.part
  split
  · refine ⟨open_in _, ?_⟩
    rw [fit_append]
    refine ⟨h _ ?_, fit_tk 7 cClose [] r good_cClose hr trivial⟩
    exact gap_mark 41 (by simp [Gp]) r
  · exact h r hr
theorem fit_keys : ∀ (ks : List ByteArray) (fs : List Fm), (∀ k ∈ ks, Tok.name20 k.data.toList = true) -> (∀ f ∈ fs, FitX f.x) -> ∀ r, Gap r -> Fit (keysTail ks fs) r /\ Gap (flat (keysTail ks fs) ++ r) := by
  intro ks
  induction ks with
  | nil => intro fs _ _ r hr; rw [keysTail]; exact ⟨trivial, hr⟩; all_goals simp
  | cons k ks ih =>
    intro fs hk hf r hr
    cases fs with
    | nil => rw [keysTail]; exact ⟨trivial, hr⟩; all_goals simp
    | cons f fs =>
      obtain ⟨h1, h2⟩ := ih fs (fun x hx => hk x (List.mem_cons_of_mem _ hx)) (fun x hx => hf x (List.mem_cons_of_mem _ hx)) r hr
      rw [keysTail]
      refine ⟨fit_sp _ _ (fit_tk 2 _ _ r (good_key k (hk k List.mem_cons_self)) (gap32 _) (fit_sp _ _ ?_)), gap32 _⟩
      rw [fit_append]
      exact ⟨fit_part f 2 (hf f List.mem_cons_self) _ h2, h1⟩
theorem fit_msg (t : ByteArray) (fs : List Fm) (ht : (fs.length : Int) = Tok.countArgs t) (hf : ∀ f ∈ fs, FitX f.x) : FitX (msgX t fs) := by
  intro r hr
  rcases sel_cases t _ ht with ⟨hb, hn⟩ | ⟨hb, hn, hx⟩ | ⟨hb, hn, h0, hx⟩
  · cases fs with
    | nil => simp at hn
    | cons f fs =>
      rw [msgX, if_pos hb]
      exact fit_tk 6 t _ r (good_bin t hb) (gap32 _) (fit_sp _ _ (fit_part f 3 (hf f List.mem_cons_self) r hr))
  · rw [List.eq_nil_of_length_eq_zero hn, msgX]
    exact fit_tk 1 t [] r (good_name t hx) hr trivial
  · cases fs with
    | nil => simp at h0
    | cons f fs =>
      rw [msgX, if_neg (by rw [hb]; decide)]
      have h1 := (fit_keys (keysOf t) (f :: fs) (keys_text t hx).1 hf r hr).1
      cases hk : keysOf t with
      | nil => rw [hk] at hn; simp at hn
      | cons k ks =>
        rw [hk] at h1
        rw [keysTail] at h1 ⊢
        exact h1.2
theorem fit_stats (fs : List Fm) (hf : ∀ f ∈ fs, FitX f.x) : ∀ r, Gap r -> Fit (statsTail fs) r /\ Gap (flat (statsTail fs) ++ r) := by
  intro r hr
  induction fs with
  | nil => exact ⟨trivial, hr⟩
  | cons f fs ih =>
    obtain ⟨h1, h2⟩ := ih fun x hx => hf x (List.mem_cons_of_mem _ hx)
    rw [statsTail]
    refine ⟨fit_tk 7 cDot _ r good_cDot (gap32 _) (fit_sp _ _ ?_), gap_mark 46 (by simp [Gp]) _⟩
    rw [fit_append]
    exact ⟨hf f List.mem_cons_self _ h2, h1⟩
theorem fit_statsX (fs : List Fm) (hf : ∀ f ∈ fs, FitX f.x) : FitX (statsX fs) := by
  intro r hr
  cases fs with
  | nil => exact trivial
  | cons f fs =>
    obtain ⟨h1, h2⟩ := fit_stats fs (fun x hx => hf x (List.mem_cons_of_mem _ hx)) r hr
    rw [statsX, fit_append]
    exact ⟨hf f List.mem_cons_self _ h2, h1⟩
theorem fit_cas (fs : List Fm) (hf : ∀ f ∈ fs, FitX f.m) : ∀ r, Gap r -> Fit (casTail fs) r /\ Gap (flat (casTail fs) ++ r) := by
  intro r hr
  induction fs with
  | nil => exact ⟨trivial, hr⟩
  | cons f fs ih =>
    obtain ⟨h1, h2⟩ := ih fun x hx => hf x (List.mem_cons_of_mem _ hx)
    rw [casTail]
    refine ⟨fit_tk 7 cSemi _ r good_cSemi (gap32 _) (fit_sp _ _ ?_), gap_mark 59 (by simp [Gp]) _⟩
    rw [fit_append]
    exact ⟨hf f List.mem_cons_self _ h2, h1⟩
theorem name_head (p : ByteArray) (h : Tok.isName p = true) : ∃ c l, p.data.toList = c :: l /\ Tok.letter c = true := by
  unfold Tok.isName at h
  rw [Bool.and_eq_true] at h
  obtain ⟨_, h1, _, hl, _⟩ := name20_all _ h.1
  cases hp : p.data.toList with
  | nil => rw [hp] at h1; simp at h1
  | cons c l => rw [hp] at hl; exact ⟨c, l, rfl, hl⟩
theorem fit_pars (ps : List ByteArray) (hp : ∀ p ∈ ps, Tok.isName p = true) (r : List UInt8) : Fit (parsX ps) r := by
  induction ps with
  | nil => exact trivial
  | cons p ps ih =>
    rw [parsX]
    refine ⟨?_, fit_tk 1 p _ r (good_name p (hp p List.mem_cons_self)) (gap32 _) (fit_sp _ _ (ih fun x hx => hp x (List.mem_cons_of_mem _ hx)))⟩
    rw [flat_tk 1 p _ (by decide) (by decide) (by decide)]
    obtain ⟨c, l, hc, hl⟩ := name_head p (hp p List.mem_cons_self)
    rw [hc]
    exact colon_in c _ hl
theorem fit_names (ps : List ByteArray) (hp : ∀ p ∈ ps, Tok.isName p = true) (r : List UInt8) : Fit (namesX ps) r := by
  induction ps with
  | nil => exact trivial
  | cons p ps ih =>
    rw [namesX]
    exact fit_tk 1 p _ r (good_name p (hp p List.mem_cons_self)) (gap32 _) (fit_sp _ _ (ih fun x hx => hp x (List.mem_cons_of_mem _ hx)))
theorem fit_bars (ts : List ByteArray) (hp : ∀ p ∈ ts, Tok.isName p = true) (r : List UInt8) : Fit (barsX ts) r := by
  unfold barsX
  split
  · exact trivial
  · refine fit_tk 7 cBar _ r good_cBar (gap32 _) (fit_sp _ _ ?_)
    rw [fit_append]
    exact ⟨fit_names ts hp _, fit_tk 7 cBar _ r good_cBar (gap32 _) (fit_sp _ _ trivial)⟩
theorem fit_body (ts : List ByteArray) (fs : List Fm) (hp : ∀ p ∈ ts, Tok.isName p = true) (hf : ∀ f ∈ fs, FitX f.x) : FitX (bodyX ts fs) := by
  intro r hr
  unfold bodyX
  rw [fit_append]
  exact ⟨fit_bars ts hp _, fit_statsX fs hf r hr⟩
theorem fit_tree (e : E) : (∀ st, right e st = true -> FitX (px e)) /\ (Msg e -> FitX (pm e)) := by
  refine ind (P := fun e => (∀ st, right e st = true -> FitX (px e)) /\ (Msg e -> FitX (pm e))) ?_ e
  intro k t n ns ks ih
  have hkid : ∀ (l : List E), (∀ a ∈ l, a ∈ ks /\ ∃ st, right a st = true) -> ∀ f ∈ l.map fm, FitX f.x := by
    intro l hl f hf
    obtain ⟨a, ha, rfl⟩ := List.mem_map.1 hf
    obtain ⟨h1, st, h2⟩ := hl a ha
    exact (ih a h1).1 st h2
  refine ⟨fun st hR => ?_, ?_⟩
  · rw [px_mk]
    have hv := view _ st hR
    cases hv with
    | int n h => exact fun r hr => ⟨reads_of (good_int n h) hr, trivial⟩
    | text t h => exact fun r hr => ⟨reads_of (good_text _ h) hr, trivial⟩
    | sym t h => exact fun r hr => ⟨reads_of (good_sym _ h) hr, trivial⟩
    | name t h => exact fun r hr => ⟨reads_of (good_name _ h) hr, trivial⟩
    | assign t k h hk =>
      intro r hr
      exact fit_tk 1 t _ r (good_name t h) (gap32 _) (fit_sp _ _ (fit_tk 7 cGets _ r good_cGets (gap32 _) (fit_sp _ _ ((ih k List.mem_cons_self).1 _ hk r hr))))
    | send t q us h hr ha =>
      intro r hg
      show Fit (Fm.part (recvNeed t) (fm q) ++ sp :: msgX t (us.map fm)) r
      rw [fit_append]
      refine ⟨fit_part _ _ ((ih q List.mem_cons_self).1 _ hr) _ (gap32 _), fit_sp _ _ (fit_msg t _ (by rw [List.length_map]; exact h) (hkid us fun a h1 => ⟨List.mem_cons_of_mem _ h1, false, ha a h1⟩) r hg)⟩
    | cas q m n ms hr hm =>
      intro r hg
      show Fit (Fm.part (recvNeed m.text) (fm q) ++ sp :: (pm m ++ casTail ((n :: ms).map fm))) r
      obtain ⟨h1, h2⟩ := fit_cas ((n :: ms).map fm) (by
        intro f hf
        obtain ⟨a, ha, rfl⟩ := List.mem_map.1 hf
        exact (ih a (List.mem_cons_of_mem _ (List.mem_cons_of_mem _ ha))).2 (hm a (List.mem_cons_of_mem _ ha))) r hg
      rw [fit_append]
      refine ⟨fit_part _ _ ((ih q List.mem_cons_self).1 _ hr) _ (gap32 _), fit_sp _ _ ?_⟩
      rw [fit_append]
      exact ⟨(ih m (by simp)).2 (hm m List.mem_cons_self) _ h2, h1⟩
    | block n ns ks hn hns hk =>
      intro r hg
      show Fit (blockX (n : Int).toNat ns (ks.map fm)) r
      rw [Int.toNat_natCast]
      unfold blockX
      refine ⟨left_in _, ?_⟩
      rw [fit_append]
      refine ⟨fit_pars _ (fun p hp => hns p (List.mem_of_mem_take hp)) _, ?_⟩
      rw [fit_append]
      refine ⟨?_, ?_⟩
      · split
        · exact fit_tk 7 cBar _ _ good_cBar (gap32 _) (fit_sp _ _ trivial)
        · exact trivial
      · rw [fit_append]
        refine ⟨fit_body _ _ (fun p hp => hns p (List.mem_of_mem_drop hp)) (hkid ks fun a h1 => ⟨h1, true, ?_⟩) _ (gap_mark 93 (by simp [Gp]) _), fit_tk 7 cRight [] r good_cRight hg trivial⟩
        obtain ⟨i, hi, rfl⟩ := List.mem_iff_getElem.1 h1
        exact ((rights_iff true ks).1 hk i hi).1
    | ret k hs hk =>
      intro r hr
      exact fit_tk 7 cHat _ r good_cHat (gap32 _) (fit_sp _ _ ((ih k List.mem_cons_self).1 _ hk r hr))
  · rintro ⟨t', ks', he, hl, ha⟩
    cases he
    rw [pm_mk]
    exact fit_msg t _ (by rw [List.length_map]; exact hl) (hkid ks fun a h1 => ⟨h1, false, ha a h1⟩)
theorem fit_expr (e : E) (st : Bool) (h : right e st = true) : Fit (px e) [] := (fit_tree e).1 st h [] (.inl rfl)
end Go.Proofs.YtbigfeblomfflaaGreatDoor.Prn
