/-
  impl's readers of words, numbers, signs: the token with which a text begins. They write nothing that was there.
  impl.readInt: the number with which a text begins. It writes nothing that was there.
  impl.readText: the text in quotes with which a text begins. It writes nothing that was there.
  impl.readText, leadingSelector, readSymbol, readSign, readToken: the token with which a text begins. They write nothing that was there.
-/
import Derived.Test.YtbflpocbjdccgaaGreatDoorBImplCount
import Derived.Test.YtbflpocbjdccgaaGreatDoorBImplQuot
import Derived.Test.YtbflpocbjdccgaaGreatDoorBMax
namespace Go.Proofs.YtbflpocbjdccgaaGreatDoor.ImplRead
open Go.RowKit
open Strs

/-- A token that may be missing, and its length, as impl hands it back. -/
def Tv (r : Option (Tok.T × Nat)) (w : World) (e : Ending) (w' : World) : Prop := match r with
  | some (t, n) => e = .returned (.tuple #[.agg #[.int .i64 t.kind, .string t.text, .int .i64 t.num], .int .i64 (n : Nat)]) ∧ Below w.heap.size w w'
  | none => ∃ (k : Int) (t : ByteArray) (n : Int), e = .returned (.tuple #[.agg #[.int .i64 k, .string t, .int .i64 n], .int .i64 0]) ∧ Below w.heap.size w w'

/-- The result's own block at number B is a zero token, and nothing below it has turned. -/
structure Box (w : World) (B : Nat) (wr : World) : Prop where
  below : Below B w wr
  size : B + 1 ≤ wr.heap.size
  c0 : wr.cell? ⟨B, 0, none⟩ = some (.int .i64 0)
  c1 : wr.cell? ⟨B, 1, none⟩ = some (.string ⟨#[]⟩)
  c2 : wr.cell? ⟨B, 2, none⟩ = some (.int .i64 0)
  fz : ∀ o, wr.frozen? ⟨B, o, none⟩ = false
theorem Box.step {w wr w' : World} {B : Nat} (h : Box w B wr) (hb : Below wr.heap.size wr w') : Box w B w' :=
  ⟨h.below.trans (hb.mono (by have := h.size; omega)), Nat.le_trans h.size hb.size, cell_keep hb h.c0, cell_keep hb h.c1, cell_keep hb h.c2, fun o => (hb.frozen (p := ⟨B, o, none⟩) (by have := h.size; simp; omega)).trans (h.fz o)⟩
theorem box_new (w : World) : Box w w.heap.size (w.alloc (.cells #[.int .i64 0, .string ⟨#[]⟩, .int .i64 0] 48)) := by
  refine ⟨(Below.refl _ _).alloc (Nat.le_refl _) _, by simp, ?_, ?_, ?_, ?_⟩
  all_goals first | (intro o; go_simp) | go_simp

theorem marks_any (w : World) : Calls Tryz.prog 116 #[] w (ImplSigns.List Tok.marks w) := by
  go_enter Tryz.func116, Tryz.ntmps116
  go_wp2
  go_ret
  refine ImplSigns.list_at w _ Tok.marks 10 rfl (by omega) (fun j hj => ?_)
  obtain rfl | rfl | rfl | rfl | rfl | rfl | rfl | rfl | rfl | rfl : j = 0 ∨ j = 1 ∨ j = 2 ∨ j = 3 ∨ j = 4 ∨ j = 5 ∨ j = 6 ∨ j = 7 ∨ j = 8 ∨ j = 9 := by omega
  all_goals rfl

theorem starts_colon (s : ByteArray) (w : World) :
    Calls Tryz.prog 109 #[.string s] w (ImplTok.Part (Tok.colon s.data.toList 0) w) := by
  have HV := Lib.hid (Tok.colon_is s)
  have KS := fun v w h => Lib.hid (ImplSigns.sign_any s v Tok.marks w h)
  have HC : Hid (ByteArray.toList ⟨#[58]⟩ = [58]) := by show _ = _; rw [ByteArray.toList_eq]
  rw [HC.out] at HV
  generalize Tok.starts s 0 Tok.marks = x at *
  go_enter Tryz.func109, Tryz.ntmps109
  go_wp2_with fail
  refine (marks_any _).mono ?_
  rintro e w1 ⟨a, c, rfl, hat, hb1⟩
  go_wp2_with fail
  refine (KS _ _ hat).out.mono ?_
  rintro e w2 ⟨rfl, rfl⟩
  go_wp2_with fail
  go_ret
  exact ⟨by rw [HV.out]; rfl, hb1⟩
theorem colon_at (s : ByteArray) (e : Nat) (b : Bool) (w : World) (h : Tok.colon s.data.toList e = b) :
    Calls Tryz.prog 109 #[.string (s.extract e s.size)] w (ImplTok.Part b w) := by
  have h1 := starts_colon (s.extract e s.size) w
  have h2 : Tok.colon (s.extract e s.size).data.toList 0 = b := by
    rw [← h, show s.extract e s.size = Tok.rest s e from rfl, Tok.rest_data, ← Tok.colon_rest]; rfl
  rwa [h2] at h1

set_option maxRecDepth 10000 in
set_option maxHeartbeats 4000000 in
theorem word_any (s : ByteArray) (w : World) :
    Calls Tryz.prog 82 #[.string s] w (Tv (Tok.nameAt s 0) w) := by
  have hle := Tok.run_le s.data.toList 0 (Nat.zero_le _)
  rw [Tok.len_list] at hle
  have KW := fun w => Lib.hid (ImplTok.word_any s w)
  unfold ImplTok.Word at KW
  have HV : Hid (Tok.nameAt s 0 = (let e := Tok.run s.data.toList 0; let x := s.extract 0 e; if 20 < e - 0 then none else if Tok.colon s.data.toList e = true then some (⟨2, x ++ ⟨#[58]⟩, 0⟩, e + 1) else some (⟨if Tok.has Tok.words x = true then 8 else 1, x, 0⟩, e))) := rfl
  have hsz : (s.extract 0 (Tok.run s.data.toList 0)).size = Tok.run s.data.toList 0 := by
    rw [← Tok.len_list, Tok.ext_data, List.length_take, List.length_drop, Tok.len_list]; omega
  generalize Tok.run s.data.toList 0 = n at *
  simp only [Nat.sub_zero] at HV
  have HX : Hid (Tok.colon s.data.toList n = true → s.extract 0 (n + 1) = s.extract 0 n ++ ⟨#[58]⟩) := Tok.colon_piece s n
  have HL : Hid (Tok.colon s.data.toList n = true → n + 1 ≤ s.size) := fun h => by have := Tok.colon_lt _ _ h; rw [Tok.len_list] at this; exact this
  have KC := fun b w h => Lib.hid (colon_at s n b w h)
  have KI := fun w => Lib.hid (ImplTok.is_word (s.extract 0 n) w)
  have BX := Lib.hid (box_new w)
  generalize s.extract 0 n = x at *
  subst hsz
  obtain ⟨-, hle⟩ := hle
  by_cases h20 : (20 : Int) < (x.size : Int)
  · have HR : Hid (Tok.nameAt s 0 = none) := by show _ = _; rw [HV.out, if_pos (by omega)]
    rw [HR.out]
    clear HV HR
    go_enter Tryz.func82, Tryz.ntmps82
    go_wp2_with fail
    refine (KW _).out.mono ?_
    rintro e w1 ⟨rfl, hb1⟩
    obtain ⟨hbw, hz, c0, c1, c2, hf⟩ := BX.out.step hb1
    clear hb1
    go_wp2_with fail
    exact bodyPost_ret (v := .tuple #[.agg #[.int .i64 0, .string ⟨#[]⟩, .int .i64 0], .int .i64 0]) (by simp [results, Tryz.results82, go_sem, *]) rfl ⟨0, _, 0, rfl, (by repeat (first | assumption | refine Below.setCell ?_ (by exact Nat.le_refl _) _))⟩
  · cases hc : Tok.colon s.data.toList x.size with
    | true =>
      have HR : Hid (Tok.nameAt s 0 = some (⟨2, x ++ ⟨#[58]⟩, 0⟩, x.size + 1)) := by show _ = _; rw [HV.out, if_neg (by omega), if_pos hc]
      rw [HR.out]
      have HX1 := Lib.hid (HX.out hc)
      have hl1 := HL.out hc
      have KC1 := fun w => KC true w hc
      clear HV HR HX HL KC hc
      go_enter Tryz.func82, Tryz.ntmps82
      go_wp2_with fail
      refine (KW _).out.mono ?_
      rintro e w1 ⟨rfl, hb1⟩
      have BX1 := Lib.hid (BX.out.step hb1); clear BX hb1
      go_wp2_with fail
      refine (KC1 _).out.mono ?_
      rintro e w2 ⟨rfl, hb2⟩
      obtain ⟨hbw, hz, c0, c1, c2, hf⟩ := BX1.out.step hb2
      clear hb2 BX1
      go_wp2_with fail
      exact bodyPost_ret (v := .tuple #[.agg #[.int .i64 2, .string (s.extract 0 (x.size + 1)), .int .i64 0], .int .i64 ((x.size : Int) + 1)]) (by simp [results, Tryz.results82, go_sem, *]) rfl ⟨by rw [HX1.out]; rfl, (by repeat (first | assumption | refine Below.setCell ?_ (by exact Nat.le_refl _) _))⟩
    | false =>
      have HR : Hid (Tok.nameAt s 0 = some (⟨if Tok.has Tok.words x = true then 8 else 1, x, 0⟩, x.size)) := by show _ = _; rw [HV.out, if_neg (by omega), hc]; rfl
      rw [HR.out]
      have KC1 := fun w => KC false w hc
      clear HV HR HX HL KC hc
      cases hw : Tok.has Tok.words x with
      | true =>
        rw [hw] at KI
        clear hw
        go_enter Tryz.func82, Tryz.ntmps82
        go_wp2_with fail
        refine (KW _).out.mono ?_
        rintro e w1 ⟨rfl, hb1⟩
        have BX1 := Lib.hid (BX.out.step hb1); clear BX hb1
        go_wp2_with fail
        refine (KC1 _).out.mono ?_
        rintro e w2 ⟨rfl, hb2⟩
        have BX2 := Lib.hid (BX1.out.step hb2); clear BX1 hb2
        go_wp2_with fail
        refine (KI _).out.mono ?_
        rintro e w3 ⟨rfl, rfl⟩
        obtain ⟨hbw, hz, c0, c1, c2, hf⟩ := BX2.out
        clear BX2
        go_wp2_with fail
        exact bodyPost_ret (v := .tuple #[.agg #[.int .i64 8, .string x, .int .i64 0], .int .i64 (x.size : Int)]) (by simp [results, Tryz.results82, go_sem, *]) rfl ⟨rfl, (by repeat (first | assumption | refine Below.setCell ?_ (by exact Nat.le_refl _) _))⟩
      | false =>
        rw [hw] at KI
        clear hw
        go_enter Tryz.func82, Tryz.ntmps82
        go_wp2_with fail
        refine (KW _).out.mono ?_
        rintro e w1 ⟨rfl, hb1⟩
        have BX1 := Lib.hid (BX.out.step hb1); clear BX hb1
        go_wp2_with fail
        refine (KC1 _).out.mono ?_
        rintro e w2 ⟨rfl, hb2⟩
        have BX2 := Lib.hid (BX1.out.step hb2); clear BX1 hb2
        go_wp2_with fail
        refine (KI _).out.mono ?_
        rintro e w3 ⟨rfl, rfl⟩
        obtain ⟨hbw, hz, c0, c1, c2, hf⟩ := BX2.out
        clear BX2
        go_wp2_with fail
        exact bodyPost_ret (v := .tuple #[.agg #[.int .i64 1, .string x, .int .i64 0], .int .i64 (x.size : Int)]) (by simp [results, Tryz.results82, go_sem, *]) rfl ⟨rfl, (by repeat (first | assumption | refine Below.setCell ?_ (by exact Nat.le_refl _) _))⟩
end Go.Proofs.YtbflpocbjdccgaaGreatDoor.ImplRead

namespace Go.Proofs.YtbflpocbjdccgaaGreatDoor.ImplRead
open Go.RowKit
open Strs

theorem word_list (s : ByteArray) : (s.extract 0 (Tok.run s.data.toList 0)).data.toList = s.data.toList.takeWhile Tok.alnum := by
  rw [Tok.ext_data, List.drop_zero, Nat.sub_zero]
  unfold Tok.run
  rw [List.drop_zero, Nat.zero_add]
  exact ((List.prefix_iff_eq_take).1 (List.takeWhile_prefix Tok.alnum)).symm
theorem alnum_low (c : UInt8) (h : Tok.alnum c = true) : c.toNat < 128 := by
  rcases Nat.lt_or_ge c.toNat 128 with h1 | h1
  · exact h1
  · rw [ImplTok.high_not c h1] at h; cases h

set_option maxRecDepth 10000 in
set_option maxHeartbeats 4000000 in
theorem int_any (s : ByteArray) (w : World) :
    Calls Tryz.prog 84 #[.string s] w (Tv (Tok.number s.data.toList 0) w) := by
  have KW := fun w => Lib.hid (ImplTok.word_any s w)
  unfold ImplTok.Word at KW
  have HV : Hid (Tok.number s.data.toList 0 = (let x := (s.extract 0 (Tok.run s.data.toList 0)).data.toList; if 9 < x.length then none else if x.all Tok.digit = true then some (⟨3, ByteArray.empty, Tok.dval x⟩, x.length) else none)) := by
    show _ = _
    rw [Tok.number_word, Tok.ext_data, List.drop_zero, Nat.sub_zero]
  have HA : Hid (∀ c ∈ (s.extract 0 (Tok.run s.data.toList 0)).data.toList, c.toNat < 128) := by
    intro c hc
    rw [word_list] at hc
    exact alnum_low c (List.all_eq_true.1 (List.all_takeWhile (p := Tok.alnum) (l := s.data.toList)) c hc)
  have BX := Lib.hid (box_new w)
  generalize s.extract 0 (Tok.run s.data.toList 0) = x at *
  have hxl := Tok.len_list x
  simp only [hxl] at HV
  by_cases h9 : (9 : Int) < (x.size : Int)
  · have HR : Hid (Tok.number s.data.toList 0 = none) := by show _ = _; rw [HV.out, if_pos (by omega)]
    rw [HR.out]
    clear HV HR
    go_enter Tryz.func84, Tryz.ntmps84
    go_wp2_with fail
    refine (KW _).out.mono ?_
    rintro e w1 ⟨rfl, hb1⟩
    obtain ⟨hbw, hz, c0, c1, c2, hf⟩ := BX.out.step hb1
    clear hb1
    go_wp2_with fail
    exact bodyPost_ret (v := .tuple #[.agg #[.int .i64 0, .string ⟨#[]⟩, .int .i64 0], .int .i64 0]) (by simp [results, Tryz.results84, go_sem, *]) rfl ⟨0, _, 0, rfl, (by repeat (first | assumption | refine Below.setCell ?_ (by exact Nat.le_refl _) _))⟩
  · have HV2 : Hid (Tok.number s.data.toList 0 = if x.data.toList.all Tok.digit = true then some (⟨3, ByteArray.empty, Tok.dval x.data.toList⟩, x.size) else none) := by show _ = _; rw [HV.out, if_neg (by omega)]
    clear HV
    go_enter Tryz.func84, Tryz.ntmps84
    go_wp2_with fail
    refine (KW _).out.mono ?_
    rintro e w1 ⟨rfl, hb1⟩
    have BX1 := BX.out.step hb1
    clear hb1 BX
    go_wp2_with fail
    go_loopw [5] (fun q wr => ∃ i v : Nat, i ≤ x.size ∧ wr = w1.iter x i ∧ q = .int .i64 v ∧ v = Tok.dval (x.data.toList.take i) ∧ v < 1000000000 ∧ (∀ j (hj : j < x.data.toList.length), j < i → Tok.digit (x.data.toList[j]'hj) = true)) (fun _ wr => x.size - wr.iterPos w1.heap.size)
    case atStart => exact ⟨0, 0, Nat.zero_le _, rfl, rfl, rfl, by omega, fun j hj h => by omega⟩
    case round =>
      obtain ⟨i, v, hi, rfl, rfl, hv, hv9, hd⟩ := hrel
      have HVV := Lib.hid hv; clear hv
      have HD := Lib.hid hd; clear hd
      by_cases hlt : i < x.size
      · have hlt' : i < x.data.toList.length := by rw [hxl]; exact hlt
        have hx : x.data.toList[i]'hlt' = x[i]'hlt := rfl
        have ha : (x[i]'hlt).toNat < 128 := HA.out _ (by rw [← hx]; exact List.getElem_mem _)
        have hnx : ∀ ty, (Instr.next (.pointer (some ⟨w1.heap.size, 0, none⟩)) true ty).run Tryz.prog (w1.iter x i) = _ := fun ty => run_next_ascii w1 x i ty hlt ha
        cases hdg : Tok.digit (x[i]'hlt) with
        | true =>
          have KD := fun w => Lib.hid (ImplTok.digit_is (x[i]'hlt) true w hdg)
          have hrange : 48 ≤ (x[i]'hlt).toNat ∧ (x[i]'hlt).toNat ≤ 57 := by
            unfold Tok.digit at hdg
            rw [Bool.and_eq_true, decide_eq_true_eq, decide_eq_true_eq] at hdg; exact hdg
          have HN : Hid (v * 10 + ((x[i]'hlt).toNat - 48) = Tok.dval (x.data.toList.take (i + 1))) := by
            show _ = _
            rw [List.take_succ_eq_append_getElem hlt', Tok.dval_snoc, ← HVV.out, hx]; omega
          have HD2 : Hid (∀ j (hj : j < x.data.toList.length), j < i + 1 → Tok.digit (x.data.toList[j]'hj) = true) := by
            intro j hj h
            by_cases h2 : j = i
            · subst h2; exact hdg
            · exact HD.out j hj (by omega)
          have HB : Hid (v * 10 + ((x[i]'hlt).toNat - 48) < 1000000000) := by
            show _ < _
            rw [HN.out]
            have h1 : (x.data.toList.take (i + 1)).all Tok.digit = true := by
              rw [List.all_eq_true]
              intro c hc
              obtain ⟨j, hj, rfl⟩ := List.mem_iff_getElem.1 hc
              rw [List.getElem_take]
              rw [List.length_take] at hj
              exact HD2.out j (by omega) (by omega)
            have h2 := Tok.dval_lt _ h1
            have h3 : (x.data.toList.take (i + 1)).length ≤ 9 := by rw [List.length_take]; omega
            exact Nat.lt_of_lt_of_le h2 (Nat.pow_le_pow_right (by omega) h3)
          obtain ⟨hr1, hr2⟩ := hrange
          clear hdg hx ha
          generalize (x[i]'hlt).toNat = c at *
          have hw1 : wrap32 ((c : Int) - 48) = (c : Int) - 48 := by unfold wrap32; omega
          go_wp2_with fail
          refine (KD _).out.mono ?_
          rintro e w2 ⟨rfl, rfl⟩
          go_wp2_with fail
          go_roundw
          case rel => exact ⟨i + 1, v * 10 + (c - 48), by omega, rfl, by go_num, HN.out, HB.out, HD2.out⟩
          case measure => simp; omega
        | false =>
          have KD := fun w => Lib.hid (ImplTok.digit_is (x[i]'hlt) false w hdg)
          have HR : Hid (Tok.number s.data.toList 0 = none) := by
            show _ = _
            rw [HV2.out]
            have : ¬ x.data.toList.all Tok.digit = true := by
              rw [List.all_eq_true]
              intro h
              have := h _ (List.getElem_mem hlt')
              rw [hx, hdg] at this; cases this
            rw [if_neg this]
          rw [HR.out]
          have hb9 : Below w1.heap.size w1 (w1.iter x (i + 1)) := (Below.refl w1.heap.size w1).alloc (Nat.le_refl _) (.stringIter x (i + 1))
          obtain ⟨hbw, hz, c0, c1, c2, hf⟩ := BX1.step hb9
          clear hb9
          clear hdg hx ha HR HV2
          go_wp2_with fail
          refine (KD _).out.mono ?_
          rintro e w2 ⟨rfl, rfl⟩
          go_wp2_with fail
          exact bodyPost_ret (v := .tuple #[.agg #[.int .i64 0, .string ⟨#[]⟩, .int .i64 0], .int .i64 0]) (by simp [results, Tryz.results84, go_sem, *]) rfl ⟨0, _, 0, rfl, (by repeat (first | assumption | refine Below.setCell ?_ (by exact Nat.le_refl _) _))⟩
      · have hall : x.data.toList.take i = x.data.toList := List.take_of_length_le (by rw [hxl]; omega)
        have HR : Hid (Tok.number s.data.toList 0 = some (⟨3, ByteArray.empty, v⟩, x.size)) := by
          show _ = _
          have h1 : x.data.toList.all Tok.digit = true := by
            rw [List.all_eq_true]
            intro c hc
            obtain ⟨j, hj, rfl⟩ := List.mem_iff_getElem.1 hc
            exact HD.out j hj (by omega)
          rw [HV2.out, if_pos h1, HVV.out, hall]
        have hnx : ∀ ty, (Instr.next (.pointer (some ⟨w1.heap.size, 0, none⟩)) true ty).run Tryz.prog (w1.iter x i) = _ := fun ty => run_next_end w1 x i ty hlt
        have hb9 : Below w1.heap.size w1 (w1.iter x i) := (Below.refl w1.heap.size w1).alloc (Nat.le_refl _) (.stringIter x i)
        obtain ⟨hbw, hz, c0, c1, c2, hf⟩ := BX1.step hb9
        clear hb9 HV2 hall
        go_wp2_with fail
        exact bodyPost_ret (v := .tuple #[.agg #[.int .i64 3, .string ⟨#[]⟩, .int .i64 v], .int .i64 x.size]) (by simp [results, Tryz.results84, go_sem, *]) rfl (by rw [HR.out]; exact ⟨rfl, (by repeat (first | assumption | refine Below.setCell ?_ (by exact Nat.le_refl _) _))⟩)
end Go.Proofs.YtbflpocbjdccgaaGreatDoor.ImplRead

namespace Go.Proofs.YtbflpocbjdccgaaGreatDoor.ImplRead
open Go.RowKit
open Strs

theorem plain_low (c : UInt8) (h : Tok.plain c = true) : c.toNat < 128 := by
  unfold Tok.plain at h
  rw [Bool.and_eq_true, decide_eq_true_eq, decide_eq_true_eq] at h; omega

set_option maxHeartbeats 4000000 in
theorem quotable_is (s : ByteArray) (b : Bool) (w : World) (hb : (s.data.toList.all Tok.plain && decide (s.size ≤ 40)) = b) :
    Calls Tryz.prog 93 #[.string s] w (ImplTok.Part b w) := by
  have HB := Lib.hid hb; clear hb
  have hsl := Tok.len_list s
  go_enter Tryz.func93, Tryz.ntmps93
  go_wp2_with fail
  go_loopw [] (fun wr => ∃ i : Nat, i ≤ s.size ∧ wr = w.iter s i ∧ (∀ j (hj : j < s.data.toList.length), j < i → Tok.plain (s.data.toList[j]'hj) = true)) (fun wr => s.size - wr.iterPos w.heap.size)
  case atStart => exact ⟨0, Nat.zero_le _, rfl, fun j hj h => by omega⟩
  case round =>
    obtain ⟨i, hi, rfl, hd⟩ := hrel
    have HD := Lib.hid hd; clear hd
    by_cases hlt : i < s.size
    · have hlt' : i < s.data.toList.length := by rw [hsl]; exact hlt
      have hx : s.data.toList[i]'hlt' = s[i]'hlt := rfl
      have HF : Hid (Tok.plain (s[i]'hlt) = false → (s.data.toList.all Tok.plain && decide (s.size ≤ 40)) = false) := by
        intro h
        have : s.data.toList.all Tok.plain = false := by
          rw [← Bool.not_eq_true, List.all_eq_true]
          intro h2
          have h3 := h2 _ (List.getElem_mem hlt')
          rw [hx, h] at h3; cases h3
        rw [this]; rfl
      by_cases ha : (s[i]'hlt).toNat < 128
      · have hnx : ∀ ty, (Instr.next (.pointer (some ⟨w.heap.size, 0, none⟩)) true ty).run Tryz.prog (w.iter s i) = _ := fun ty => run_next_ascii w s i ty hlt ha
        have HP : Hid (Tok.plain (s[i]'hlt) = (decide (32 ≤ (s[i]'hlt).toNat) && decide ((s[i]'hlt).toNat ≤ 126))) := rfl
        have HD2 : Hid (Tok.plain (s[i]'hlt) = true → ∀ j (hj : j < s.data.toList.length), j < i + 1 → Tok.plain (s.data.toList[j]'hj) = true) := by
          intro h0 j hj h
          by_cases h2 : j = i
          · subst h2; exact h0
          · exact HD.out j hj (by omega)
        generalize (s[i]'hlt) = c at *
        by_cases h1 : (c.toNat : Int) < 32
        · have HE : Hid (b = false) := HB.out.symm.trans (HF.out (by rw [HP.out, decide_eq_false (by omega : ¬ 32 ≤ c.toNat)]; rfl))
          clear HF HP HD2 hx ha
          go_wp2_with fail
          go_ret
          exact ⟨by rw [HE.out]; rfl, (Below.refl _ _).alloc (Nat.le_refl _) _⟩
        · by_cases h2 : (126 : Int) < (c.toNat : Int)
          · have HE : Hid (b = false) := HB.out.symm.trans (HF.out (by rw [HP.out, decide_eq_false (by omega : ¬ c.toNat ≤ 126), Bool.and_false]))
            clear HF HP HD2 hx ha
            go_wp2_with fail
            go_ret
            exact ⟨by rw [HE.out]; rfl, (Below.refl _ _).alloc (Nat.le_refl _) _⟩
          · have HE := Lib.hid (HD2.out (by rw [HP.out, decide_eq_true (by omega : 32 ≤ c.toNat), decide_eq_true (by omega : c.toNat ≤ 126)]; rfl))
            clear HF HP HD2 hx ha
            go_wp2_with fail
            go_roundw
            case rel => exact ⟨i + 1, by omega, rfl, HE.out⟩
            case measure => simp; omega
      · have hnx : ∀ ty, (Instr.next (.pointer (some ⟨w.heap.size, 0, none⟩)) true ty).run Tryz.prog (w.iter s i) = _ := fun ty => run_next_any w s i ty hlt
        have hdh := (decode_high s i hlt (by omega)).1
        have HE : Hid (b = false) := HB.out.symm.trans (HF.out (by
          rw [← Bool.not_eq_true]; intro h
          exact ha (plain_low _ h)))
        generalize (Utf8.decode s i).1 = n at *
        generalize (Utf8.decode s i).2 = m at *
        have h1 : ¬ (n : Int) < 32 := by omega
        have h2 : (126 : Int) < (n : Int) := by omega
        clear HF hx ha
        go_wp2_with fail
        go_ret
        exact ⟨by rw [HE.out]; rfl, (Below.refl _ _).alloc (Nat.le_refl _) _⟩
    · have hnx : ∀ ty, (Instr.next (.pointer (some ⟨w.heap.size, 0, none⟩)) true ty).run Tryz.prog (w.iter s i) = _ := fun ty => run_next_end w s i ty hlt
      have HE : Hid (b = decide ((s.size : Int) ≤ 40)) := by
        show _ = _
        rw [← HB.out]
        have h1 : s.data.toList.all Tok.plain = true := by
          rw [List.all_eq_true]
          intro c hc
          obtain ⟨j, hj, rfl⟩ := List.mem_iff_getElem.1 hc
          exact HD.out j hj (by omega)
        rw [h1, Bool.true_and, Bool.eq_iff_iff, decide_eq_true_eq, decide_eq_true_eq]; omega
      go_wp2_with fail
      go_ret
      exact ⟨by rw [HE.out]; rfl, (Below.refl _ _).alloc (Nat.le_refl _) _⟩

theorem qlen_end (l : List UInt8) (p : Nat) (h : ¬ l.head? = some 39) : Tok.qlen (39 :: l) p true = p + 1 := by
  rw [Tok.qlen]; exact if_pos ⟨by decide, h⟩
theorem quote_next (s : ByteArray) (i : Nat) : Lib.hasPrefix (s.extract (i + 1) s.size).data.toList (⟨#[39]⟩ : ByteArray).data.toList = decide ((s.data.toList.drop (i + 1)).head? = some 39) := by
  rw [show s.extract (i + 1) s.size = Tok.rest s (i + 1) from rfl, Tok.rest_data]
  generalize s.data.toList.drop (i + 1) = l
  unfold Lib.hasPrefix
  cases l with
  | nil => rfl
  | cons c l =>
    rw [Bool.eq_iff_iff, decide_eq_true_eq, List.isPrefixOf_iff_prefix]
    show [39] <+: c :: l ↔ _
    rw [List.cons_prefix_cons]
    simp [eq_comm]

set_option maxHeartbeats 4000000 in
theorem quoted_len (s : ByteArray) (w : World) (hs : s.size ≤ 1048576) (h0 : ∀ h : 0 < s.size, (s[0]'h).toNat = 39) :
    Calls Tryz.prog 111 #[.string s] w fun e w' => e = .returned (.int .i64 (Tok.qlen s.data.toList 0 false : Nat)) ∧ Below w.heap.size w w' := by
  have hsl := Tok.len_list s
  have KP : ∀ i w, Hid (Calls Tryz.prog 129 #[.string (s.extract (i + 1) s.size), .string ⟨#[39]⟩] w fun e w' => e = .returned (.bool (decide ((s.data.toList.drop (i + 1)).head? = some 39))) ∧ w' = w) := fun i w => by
    have h := Shelf.strings_HasPrefix (s.extract (i + 1) s.size) ⟨#[39]⟩ w
    rw [quote_next] at h
    exact h
  have H0 := Lib.hid h0; clear h0
  go_enter Tryz.func111, Tryz.ntmps111
  go_wp2_with fail
  go_loopw [3] (fun v wr => ∃ (i : Nat) (o : Bool), i ≤ s.size ∧ wr = w.iter s i ∧ v = .bool o ∧ Tok.qlen s.data.toList 0 false = Tok.qlen (s.data.toList.drop i) i o ∧ (o = false → ∀ h : i < s.size, (s[i]'h).toNat = 39)) (fun _ wr => s.size - wr.iterPos w.heap.size)
  case atStart => exact ⟨0, false, Nat.zero_le _, rfl, rfl, rfl, fun _ h => H0.out h⟩
  case round =>
    obtain ⟨i, o, hi, rfl, rfl, hq, ho⟩ := hrel
    have HQ := Lib.hid hq; clear hq
    by_cases hlt : i < s.size
    · have hlt' : i < s.data.toList.length := by rw [hsl]; exact hlt
      have hx : s.data.toList[i]'hlt' = s[i]'hlt := rfl
      have HC : Hid (s.data.toList.drop i = s[i]'hlt :: s.data.toList.drop (i + 1)) := by show _ = _; rw [List.drop_eq_getElem_cons hlt', hx]
      by_cases ha : (s[i]'hlt).toNat < 128
      · have hnx : ∀ ty, (Instr.next (.pointer (some ⟨w.heap.size, 0, none⟩)) true ty).run Tryz.prog (w.iter s i) = _ := fun ty => run_next_ascii w s i ty hlt ha
        have KP1 := KP i
        by_cases h39 : (s[i]'hlt).toNat = 39
        · have hc39 : s[i]'hlt = (39 : UInt8) := UInt8.toNat_inj.1 (by rw [h39]; rfl)
          have t39 : (((s[i]'hlt).toNat : Int) == 39) = true := by rw [beq_iff_eq]; omega
          cases o with
          | true =>
            by_cases hh : (s.data.toList.drop (i + 1)).head? = some 39
            · have HQ2 : Hid (Tok.qlen s.data.toList 0 false = Tok.qlen (s.data.toList.drop (i + 1)) (i + 1) false) := by
                show _ = _
                rw [HQ.out, HC.out, hc39, Tok.qlen]
                simp [hh]
              have HO : Hid (∀ h : i + 1 < s.size, (s[i + 1]'h).toNat = 39) := by
                intro h
                rw [List.head?_drop, List.getElem?_eq_getElem (by rw [hsl]; exact h), Option.some.injEq] at hh
                have : s[i + 1]'h = 39 := hh
                rw [this]; rfl
              rw [decide_eq_true hh] at KP1
              clear hh hc39 hx HC ha h39 ho
              go_wp2_with fail
              refine (KP1 _).out.mono ?_
              rintro e w2 ⟨rfl, rfl⟩
              go_wp2_with fail
              go_roundw
              case rel => exact ⟨i + 1, false, by omega, rfl, rfl, HQ2.out, fun _ => HO.out⟩
              case measure => simp; omega
            · have HQ2 : Hid (Tok.qlen s.data.toList 0 false = i + 1) := by
                show _ = _
                rw [HQ.out, HC.out, hc39]
                exact qlen_end _ _ hh
              rw [decide_eq_false hh] at KP1
              clear hh hc39 hx HC ha h39 ho
              go_wp2_with fail
              refine (KP1 _).out.mono ?_
              rintro e w2 ⟨rfl, rfl⟩
              go_wp2_with fail
              go_ret
              exact ⟨by rw [HQ2.out]; rfl, (Below.refl _ _).alloc (Nat.le_refl _) _⟩
          | false =>
            have HQ2 : Hid (Tok.qlen s.data.toList 0 false = Tok.qlen (s.data.toList.drop (i + 1)) (i + 1) true) := by
              show _ = _
              rw [HQ.out, HC.out, hc39, Tok.qlen]
              simp
            clear hc39 hx HC ha h39 ho
            go_wp2_with fail
            go_roundw
            case rel => exact ⟨i + 1, true, by omega, rfl, rfl, HQ2.out, fun h => by cases h⟩
            case measure => simp; omega
        · have t39 : (((s[i]'hlt).toNat : Int) == 39) = false := by rw [beq_eq_false_iff_ne]; omega
          have hne : ¬ s[i]'hlt = (39 : UInt8) := fun h => h39 (by rw [h]; rfl)
          have hot : o = true := by
            cases o with
            | true => rfl
            | false => exact absurd (ho rfl hlt) h39
          subst hot
          have HQ2 : Hid (Tok.qlen s.data.toList 0 false = Tok.qlen (s.data.toList.drop (i + 1)) (i + 1) true) := by
            show _ = _
            rw [HQ.out, HC.out, Tok.qlen]
            simp [hne]
          clear hne hx HC ha h39 ho
          go_wp2_with fail
          go_roundw
          case rel => exact ⟨i + 1, true, by omega, rfl, rfl, HQ2.out, fun h => by cases h⟩
          case measure => simp; omega
      · have hnx : ∀ ty, (Instr.next (.pointer (some ⟨w.heap.size, 0, none⟩)) true ty).run Tryz.prog (w.iter s i) = _ := fun ty => run_next_any w s i ty hlt
        have hdh := decode_high s i hlt (by omega)
        have hwide := Tok.decode_wide s i hlt (by omega)
        have hot : o = true := by
          cases o with
          | true => rfl
          | false => have := ho rfl hlt; omega
        subst hot
        obtain ⟨hd1, hd2⟩ := hdh
        generalize (Utf8.decode s i).1 = n at *
        generalize (Utf8.decode s i).2 = m at *
        have him : i + m ≤ s.size := by
          obtain ⟨h1, _⟩ := hwide (m - 1) (by omega)
          omega
        have HQ2 : Hid (Tok.qlen s.data.toList 0 false = Tok.qlen (s.data.toList.drop (i + m)) (i + m) true) := by
          show _ = _
          rw [HQ.out]
          refine Tok.qlen_pass s.data.toList m i (fun j hj => ?_)
          obtain ⟨h1, h2⟩ := hwide j hj
          exact ⟨by rw [hsl]; exact h1, h2⟩
        have t39 : ((n : Int) == 39) = false := by rw [beq_eq_false_iff_ne]; omega
        clear hx HC ha ho hwide
        go_wp2_with fail
        go_roundw
        case rel => exact ⟨i + m, true, him, rfl, rfl, HQ2.out, fun h => by cases h⟩
        case measure => simp; omega
    · have hnx : ∀ ty, (Instr.next (.pointer (some ⟨w.heap.size, 0, none⟩)) true ty).run Tryz.prog (w.iter s i) = _ := fun ty => run_next_end w s i ty hlt
      have HQ2 : Hid (Tok.qlen s.data.toList 0 false = 0) := by
        show _ = _
        rw [HQ.out, List.drop_of_length_le (by omega)]; rfl
      go_wp2_with fail
      go_ret
      exact ⟨by rw [HQ2.out]; rfl, (Below.refl _ _).alloc (Nat.le_refl _) _⟩
end Go.Proofs.YtbflpocbjdccgaaGreatDoor.ImplRead

namespace Go.Proofs.YtbflpocbjdccgaaGreatDoor.ImplRead
open Go.RowKit
open Strs

set_option maxRecDepth 10000 in
set_option maxHeartbeats 4000000 in
theorem text_any (s : ByteArray) (w : World) (hM : Max w) (hs : s.size ≤ 1048576) (hp : 0 < s.size) (h0 : (s[0]'hp).toNat = 39) :
    Calls Tryz.prog 85 #[.string s] w (Tv (Tok.quoted s.data.toList 0) w) := by
  have hsl := Tok.len_list s
  have KQ := fun w => Lib.hid (quoted_len s w hs (fun _ => h0))
  have h39 : s[0]'hp = (39 : UInt8) := UInt8.toNat_inj.1 (by rw [h0]; rfl)
  obtain ⟨l, hl⟩ : ∃ l, s.data.toList = 39 :: l := by
    have h1 : 0 < s.data.toList.length := by rw [hsl]; exact hp
    refine ⟨s.data.toList.drop 1, ?_⟩
    have h2 := List.drop_eq_getElem_cons h1
    rw [List.drop_zero] at h2
    have h3 : s.data.toList[0]'h1 = 39 := h39
    rw [h3] at h2; exact h2
  have hq : Tok.qlen s.data.toList 0 false = match Tok.unq l with | none => 0 | some x => 1 + x.2 := by
    rw [hl, Tok.qlen]
    simp only [if_true, Bool.not_false, Bool.true_eq_false, false_and, if_false, Nat.zero_add]
    exact Tok.qlen_unq l 1
  have HV : Hid (Tok.quoted s.data.toList 0 = match Tok.unq l with | none => none | some x => if x.1.all Tok.plain = true ∧ x.1.length ≤ 40 then some (⟨4, ⟨x.1.toArray⟩, 0⟩, 1 + x.2) else none) := by
    show _ = _
    rw [hl]; exact Tok.quoted_unq 39 l
  have BX := Lib.hid (box_new w)
  cases hu : Tok.unq l with
  | none =>
    rw [hu] at hq
    simp only at hq
    rw [hq] at KQ
    have HR : Hid (Tok.quoted s.data.toList 0 = none) := by show _ = _; rw [HV.out, hu]
    rw [HR.out]
    clear HV hu hq hl h39 h0 HR
    go_enter Tryz.func85, Tryz.ntmps85
    go_wp2_with fail
    refine (KQ _).out.mono ?_
    rintro e w1 ⟨rfl, hb1⟩
    obtain ⟨hbw, hz, c0, c1, c2, hf⟩ := BX.out.step hb1
    clear hb1
    go_wp2_with fail
    exact bodyPost_ret (v := .tuple #[.agg #[.int .i64 0, .string ⟨#[]⟩, .int .i64 0], .int .i64 0]) (by simp [results, Tryz.results85, go_sem, *]) rfl ⟨0, _, 0, rfl, (by repeat (first | assumption | refine Below.setCell ?_ (by exact Nat.le_refl _) _))⟩
  | some x =>
    obtain ⟨o, n⟩ := x
    obtain ⟨hn1, hn2, hrep⟩ := Tok.unq_rep l o n hu
    rw [hu] at hq
    simp only at hq
    rw [hq] at KQ
    have hll : l.length + 1 = s.size := by rw [← hsl, hl]; rfl
    have HT : Hid (Lib.replaceAll (s.extract 1 n).data.toList (⟨#[39, 39]⟩ : ByteArray).data.toList (⟨#[39]⟩ : ByteArray).data.toList = o) := by
      show _ = _
      rw [Tok.ext_data, hl]; exact hrep
    have hts : (s.extract 1 n).size ≤ 1048576 := by rw [← Tok.len_list, Tok.ext_data, List.length_take]; omega
    have KR := fun w h => Lib.hid (rep_any (s.extract 1 n) ⟨#[39, 39]⟩ ⟨#[39]⟩ w h hts (by decide) (by decide))
    simp only [HT.out] at KR
    have HV2 : Hid (Tok.quoted s.data.toList 0 = if o.all Tok.plain = true ∧ o.length ≤ 40 then some (⟨4, ⟨o.toArray⟩, 0⟩, 1 + n) else none) := by show _ = _; rw [HV.out, hu]
    have KI := fun b w h => Lib.hid (quotable_is (⟨o.toArray⟩ : ByteArray) b w h)
    have hos : (⟨o.toArray⟩ : ByteArray).size = o.length := by rw [← Tok.len_list]
    simp only [hos] at KI
    have e1 : (((1 + n : Nat) : Int) == 0) = false := by rw [beq_eq_false_iff_ne]; omega
    have e2 : ((1 + n : Nat) : Int) - 1 = (n : Int) := by omega
    clear HV hu hq hl h39 h0 HT hrep
    by_cases hok : o.all Tok.plain = true ∧ o.length ≤ 40
    · have HR : Hid (Tok.quoted s.data.toList 0 = some (⟨4, ⟨o.toArray⟩, 0⟩, 1 + n)) := by show _ = _; rw [HV2.out, if_pos hok]
      have KI1 := fun w => KI true w (by show (o.all Tok.plain && decide (o.length ≤ 40)) = true; rw [hok.1, decide_eq_true hok.2]; rfl)
      rw [HR.out]
      clear HV2 KI hok HR
      generalize (⟨o.toArray⟩ : ByteArray) = x at *
      go_enter Tryz.func85, Tryz.ntmps85
      go_wp2_with fail
      refine (KQ _).out.mono ?_
      rintro e w1 ⟨rfl, hb1⟩
      have BX1 := Lib.hid (BX.out.step hb1)
      have HM1 : Hid (Max w1) := (hM.keep ((Below.refl _ _).alloc (Nat.le_refl _) _)).keep hb1
      clear BX hb1
      go_wp2_with fail
      refine (KR _ HM1.out).out.mono ?_
      rintro e w2 ⟨rfl, hb2⟩
      have BX2 := Lib.hid (BX1.out.step hb2)
      clear BX1 hb2
      go_wp2_with fail
      refine (KI1 _).out.mono ?_
      rintro e w3 ⟨rfl, hb3⟩
      obtain ⟨hbw, hz, c0, c1, c2, hf⟩ := BX2.out.step hb3
      clear hb3 BX2
      go_wp2_with fail
      exact bodyPost_ret (v := .tuple #[.agg #[.int .i64 4, .string x, .int .i64 0], .int .i64 (1 + (n : Int))]) (by simp [results, Tryz.results85, go_sem, *]) rfl ⟨rfl, (by repeat (first | assumption | refine Below.setCell ?_ (by exact Nat.le_refl _) _))⟩
    · have HR : Hid (Tok.quoted s.data.toList 0 = none) := by show _ = _; rw [HV2.out, if_neg hok]
      have KI1 := fun w => KI false w (by
        show (o.all Tok.plain && decide (o.length ≤ 40)) = false
        rw [← Bool.not_eq_true, Bool.and_eq_true, decide_eq_true_eq]; exact hok)
      rw [HR.out]
      clear HV2 KI hok HR
      generalize (⟨o.toArray⟩ : ByteArray) = x at *
      go_enter Tryz.func85, Tryz.ntmps85
      go_wp2_with fail
      refine (KQ _).out.mono ?_
      rintro e w1 ⟨rfl, hb1⟩
      have BX1 := Lib.hid (BX.out.step hb1)
      have HM1 : Hid (Max w1) := (hM.keep ((Below.refl _ _).alloc (Nat.le_refl _) _)).keep hb1
      clear BX hb1
      go_wp2_with fail
      refine (KR _ HM1.out).out.mono ?_
      rintro e w2 ⟨rfl, hb2⟩
      have BX2 := Lib.hid (BX1.out.step hb2)
      clear BX1 hb2
      go_wp2_with fail
      refine (KI1 _).out.mono ?_
      rintro e w3 ⟨rfl, hb3⟩
      obtain ⟨hbw, hz, c0, c1, c2, hf⟩ := BX2.out.step hb3
      clear hb3 BX2
      go_wp2_with fail
      exact bodyPost_ret (v := .tuple #[.agg #[.int .i64 0, .string ⟨#[]⟩, .int .i64 0], .int .i64 0]) (by simp [results, Tryz.results85, go_sem, *]) rfl ⟨0, _, 0, rfl, (by repeat (first | assumption | refine Below.setCell ?_ (by exact Nat.le_refl _) _))⟩

theorem piece_word (s : ByteArray) (e : Nat) : (s.extract e s.size).extract 0 (Tok.run (s.extract e s.size).data.toList 0) = s.extract e (Tok.run s.data.toList e) := by
  have h := Tok.run_rest s.data.toList e 0
  rw [Nat.add_zero] at h
  rw [show s.extract e s.size = Tok.rest s e from rfl, Tok.extract_rest, Tok.rest_data, ← h, Nat.add_zero]
theorem word_at (s : ByteArray) (e : Nat) (w : World) :
    Calls Tryz.prog 108 #[.string (s.extract e s.size)] w fun e' w' => e' = .returned (.string (s.extract e (Tok.run s.data.toList e))) ∧ Below w.heap.size w w' := by
  have h := ImplTok.word_any (s.extract e s.size) w
  unfold ImplTok.Word at h
  rw [piece_word] at h
  exact h

end Go.Proofs.YtbflpocbjdccgaaGreatDoor.ImplRead
