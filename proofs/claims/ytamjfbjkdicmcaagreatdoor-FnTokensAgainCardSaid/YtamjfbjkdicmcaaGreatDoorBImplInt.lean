/-
  impl.readInt: the number with which a text begins. It writes nothing that was there.
-/
import Derived.Test.YtamjfbjkdicmcaaGreatDoorBImplRead
namespace Go.Proofs.YtamjfbjkdicmcaaGreatDoor.ImplRead
open Go.RowKit
open Strs
theorem word_list (s : ByteArray) : (s.extract 0 (Tok.run s.data.toList 0)).data.toList = s.data.toList.takeWhile Tok.alnum := by
  rw [Tok.ext_data, List.drop_zero, Nat.sub_zero]
  unfold Tok.run
  rw [List.drop_zero, Nat.zero_add]
  exact ((List.prefix_iff_eq_take).1 (List.takeWhile_prefix Tok.alnum)).symm
theorem alnum_low (c : UInt8) (h : Tok.alnum c = true) : c.toNat < 128 := by
  rcases Nat.lt_or_ge c.toNat 128 with h1 | h1
  · exact h1
  · rw [ImplTok.high_not c h1] at h; cases h
set_option maxRecDepth 10000 in
set_option maxHeartbeats 4000000 in
theorem int_any (s : ByteArray) (w : World) :
    Calls Tryz.prog 25 #[.string s] w (Tv (Tok.number s.data.toList 0) w) := by
  have KW := fun w => Lib.hid (ImplTok.word_any s w)
  unfold ImplTok.Word at KW
  have HV : Hid (Tok.number s.data.toList 0 = (let x := (s.extract 0 (Tok.run s.data.toList 0)).data.toList; if 9 < x.length then none else if x.all Tok.digit = true then some (⟨3, ByteArray.empty, Tok.dval x⟩, x.length) else none)) := by
    show _ = _
    rw [Tok.number_word, Tok.ext_data, List.drop_zero, Nat.sub_zero]
  have HA : Hid (∀ c ∈ (s.extract 0 (Tok.run s.data.toList 0)).data.toList, c.toNat < 128) := by
    intro c hc
    rw [word_list] at hc
    exact alnum_low c (List.all_eq_true.1 (List.all_takeWhile (p := Tok.alnum) (l := s.data.toList)) c hc)
  have BX := Lib.hid (box_new w)
  generalize s.extract 0 (Tok.run s.data.toList 0) = x at *
  have hxl := Tok.len_list x
  simp only [hxl] at HV
  by_cases h9 : (9 : Int) < (x.size : Int)
  · have HR : Hid (Tok.number s.data.toList 0 = none) := by show _ = _; rw [HV.out, if_pos (by omega)]
    rw [HR.out]
    clear HV HR
    go_enter Tryz.func25, Tryz.ntmps25
    go_wp2_with fail
    refine (KW _).out.mono ?_
    rintro e w1 ⟨rfl, hb1⟩
    obtain ⟨hbw, hz, c0, c1, c2, hf⟩ := BX.out.step hb1
    clear hb1
    go_wp2_with fail
    exact bodyPost_ret (v := .tuple #[.agg #[.int .i64 0, .string ⟨#[]⟩, .int .i64 0], .int .i64 0]) (by simp [results, Tryz.results25, go_sem, *]) rfl ⟨0, _, 0, rfl, (by repeat (first | assumption | refine Below.setCell ?_ (by exact Nat.le_refl _) _))⟩
  · have HV2 : Hid (Tok.number s.data.toList 0 = if x.data.toList.all Tok.digit = true then some (⟨3, ByteArray.empty, Tok.dval x.data.toList⟩, x.size) else none) := by show _ = _; rw [HV.out, if_neg (by omega)]
    clear HV
    go_enter Tryz.func25, Tryz.ntmps25
    go_wp2_with fail
    refine (KW _).out.mono ?_
    rintro e w1 ⟨rfl, hb1⟩
    have BX1 := BX.out.step hb1
    clear hb1 BX
    go_wp2_with fail
    go_loopw [5] (fun q wr => ∃ i v : Nat, i ≤ x.size ∧ wr = w1.iter x i ∧ q = .int .i64 v ∧ v = Tok.dval (x.data.toList.take i) ∧ v < 1000000000 ∧ (∀ j (hj : j < x.data.toList.length), j < i → Tok.digit (x.data.toList[j]'hj) = true)) (fun _ wr => x.size - wr.iterPos w1.heap.size)
    case atStart => exact ⟨0, 0, Nat.zero_le _, rfl, rfl, rfl, by omega, fun j hj h => by omega⟩
    case round =>
      obtain ⟨i, v, hi, rfl, rfl, hv, hv9, hd⟩ := hrel
      have HVV := Lib.hid hv; clear hv
      have HD := Lib.hid hd; clear hd
      by_cases hlt : i < x.size
      · have hlt' : i < x.data.toList.length := by rw [hxl]; exact hlt
        have hx : x.data.toList[i]'hlt' = x[i]'hlt := rfl
        have ha : (x[i]'hlt).toNat < 128 := HA.out _ (by rw [← hx]; exact List.getElem_mem _)
        have hnx : ∀ ty, (Instr.next (.pointer (some ⟨w1.heap.size, 0, none⟩)) true ty).run Tryz.prog (w1.iter x i) = _ := fun ty => run_next_ascii w1 x i ty hlt ha
        cases hdg : Tok.digit (x[i]'hlt) with
        | true =>
          have KD := fun w => Lib.hid (ImplTok.digit_is (x[i]'hlt) true w hdg)
          have hrange : 48 ≤ (x[i]'hlt).toNat ∧ (x[i]'hlt).toNat ≤ 57 := by
            unfold Tok.digit at hdg
            rw [Bool.and_eq_true, decide_eq_true_eq, decide_eq_true_eq] at hdg; exact hdg
          have HN : Hid (v * 10 + ((x[i]'hlt).toNat - 48) = Tok.dval (x.data.toList.take (i + 1))) := by
            show _ = _
            rw [List.take_succ_eq_append_getElem hlt', Tok.dval_snoc, ← HVV.out, hx]; omega
          have HD2 : Hid (∀ j (hj : j < x.data.toList.length), j < i + 1 → Tok.digit (x.data.toList[j]'hj) = true) := by
            intro j hj h
            by_cases h2 : j = i
            · subst h2; exact hdg
            · exact HD.out j hj (by omega)
          have HB : Hid (v * 10 + ((x[i]'hlt).toNat - 48) < 1000000000) := by
            show _ < _
            rw [HN.out]
            have h1 : (x.data.toList.take (i + 1)).all Tok.digit = true := by
              rw [List.all_eq_true]
              intro c hc
              obtain ⟨j, hj, rfl⟩ := List.mem_iff_getElem.1 hc
              rw [List.getElem_take]
              rw [List.length_take] at hj
              exact HD2.out j (by omega) (by omega)
            have h2 := Tok.dval_lt _ h1
            have h3 : (x.data.toList.take (i + 1)).length ≤ 9 := by rw [List.length_take]; omega
            exact Nat.lt_of_lt_of_le h2 (Nat.pow_le_pow_right (by omega) h3)
          obtain ⟨hr1, hr2⟩ := hrange
          clear hdg hx ha
          generalize (x[i]'hlt).toNat = c at *
          have hw1 : wrap32 ((c : Int) - 48) = (c : Int) - 48 := by unfold wrap32; omega
          go_wp2_with fail
          refine (KD _).out.mono ?_
          rintro e w2 ⟨rfl, rfl⟩
          go_wp2_with fail
          go_roundw
          case rel => exact ⟨i + 1, v * 10 + (c - 48), by omega, rfl, by go_num, HN.out, HB.out, HD2.out⟩
          case measure => simp; omega
        | false =>
          have KD := fun w => Lib.hid (ImplTok.digit_is (x[i]'hlt) false w hdg)
          have HR : Hid (Tok.number s.data.toList 0 = none) := by
            show _ = _
            rw [HV2.out]
            have : ¬ x.data.toList.all Tok.digit = true := by
              rw [List.all_eq_true]
              intro h
              have := h _ (List.getElem_mem hlt')
              rw [hx, hdg] at this; cases this
            rw [if_neg this]
          rw [HR.out]
          have hb9 : Below w1.heap.size w1 (w1.iter x (i + 1)) := (Below.refl w1.heap.size w1).alloc (Nat.le_refl _) (.stringIter x (i + 1))
          obtain ⟨hbw, hz, c0, c1, c2, hf⟩ := BX1.step hb9
          clear hb9
          clear hdg hx ha HR HV2
          go_wp2_with fail
          refine (KD _).out.mono ?_
          rintro e w2 ⟨rfl, rfl⟩
          go_wp2_with fail
          exact bodyPost_ret (v := .tuple #[.agg #[.int .i64 0, .string ⟨#[]⟩, .int .i64 0], .int .i64 0]) (by simp [results, Tryz.results25, go_sem, *]) rfl ⟨0, _, 0, rfl, (by repeat (first | assumption | refine Below.setCell ?_ (by exact Nat.le_refl _) _))⟩
      · have hall : x.data.toList.take i = x.data.toList := List.take_of_length_le (by rw [hxl]; omega)
        have HR : Hid (Tok.number s.data.toList 0 = some (⟨3, ByteArray.empty, v⟩, x.size)) := by
          show _ = _
          have h1 : x.data.toList.all Tok.digit = true := by
            rw [List.all_eq_true]
            intro c hc
            obtain ⟨j, hj, rfl⟩ := List.mem_iff_getElem.1 hc
            exact HD.out j hj (by omega)
          rw [HV2.out, if_pos h1, HVV.out, hall]
        have hnx : ∀ ty, (Instr.next (.pointer (some ⟨w1.heap.size, 0, none⟩)) true ty).run Tryz.prog (w1.iter x i) = _ := fun ty => run_next_end w1 x i ty hlt
        have hb9 : Below w1.heap.size w1 (w1.iter x i) := (Below.refl w1.heap.size w1).alloc (Nat.le_refl _) (.stringIter x i)
        obtain ⟨hbw, hz, c0, c1, c2, hf⟩ := BX1.step hb9
        clear hb9 HV2 hall
        go_wp2_with fail
        exact bodyPost_ret (v := .tuple #[.agg #[.int .i64 3, .string ⟨#[]⟩, .int .i64 v], .int .i64 x.size]) (by simp [results, Tryz.results25, go_sem, *]) rfl (by rw [HR.out]; exact ⟨rfl, (by repeat (first | assumption | refine Below.setCell ?_ (by exact Nat.le_refl _) _))⟩)
end Go.Proofs.YtamjfbjkdicmcaaGreatDoor.ImplRead
