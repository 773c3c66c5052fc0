/-
  impl.readText: the text in quotes with which a text begins. It writes nothing that was there.
-/
import Derived.Test.YtamjfbjkdicmcaaGreatDoorBImplQuot
import Derived.Test.YtamjfbjkdicmcaaGreatDoorBImplRead
import Derived.Test.YtamjfbjkdicmcaaGreatDoorBMax
namespace Go.Proofs.YtamjfbjkdicmcaaGreatDoor.ImplRead
open Go.RowKit
open Strs
theorem quotable_is (s : ByteArray) (b : Bool) (w : World) (hb : (s.data.toList.all Tok.plain && decide (s.size ≤ 40)) = b) :
    Calls Tryz.prog 57 #[.string s] w (ImplTok.Part b w) := ImplQuot.quotable_is s b w hb
theorem qlen_end (l : List UInt8) (p : Nat) (h : ¬ l.head? = some 39) : Tok.qlen (39 :: l) p true = p + 1 := by
  rw [Tok.qlen]; exact if_pos ⟨by decide, h⟩
theorem quote_next (s : ByteArray) (i : Nat) : Lib.hasPrefix (s.extract (i + 1) s.size).data.toList (⟨#[39]⟩ : ByteArray).data.toList = decide ((s.data.toList.drop (i + 1)).head? = some 39) := by
  rw [show s.extract (i + 1) s.size = Tok.rest s (i + 1) from rfl, Tok.rest_data]
  generalize s.data.toList.drop (i + 1) = l
  unfold Lib.hasPrefix
  cases l with
  | nil => rfl
  | cons c l =>
    rw [Bool.eq_iff_iff, decide_eq_true_eq, List.isPrefixOf_iff_prefix]
    show [39] <+: c :: l ↔ _
    rw [List.cons_prefix_cons]
    simp [eq_comm]
set_option maxHeartbeats 4000000 in
theorem quoted_len (s : ByteArray) (w : World) (hs : s.size ≤ 1048576) (h0 : ∀ h : 0 < s.size, (s[0]'h).toNat = 39) :
    Calls Tryz.prog 56 #[.string s] w fun e w' => e = .returned (.int .i64 (Tok.qlen s.data.toList 0 false : Nat)) ∧ Below w.heap.size w w' := by
  have hsl := Tok.len_list s
  have KP : ∀ i w, Hid (Calls Tryz.prog 78 #[.string (s.extract (i + 1) s.size), .string ⟨#[39]⟩] w fun e w' => e = .returned (.bool (decide ((s.data.toList.drop (i + 1)).head? = some 39))) ∧ w' = w) := fun i w => by
    have h := Shelf.strings_HasPrefix (s.extract (i + 1) s.size) ⟨#[39]⟩ w
    rw [quote_next] at h
    exact h
  have H0 := Lib.hid h0; clear h0
  go_enter Tryz.func56, Tryz.ntmps56
  go_wp2_with fail
  go_loopw [3] (fun v wr => ∃ (i : Nat) (o : Bool), i ≤ s.size ∧ wr = w.iter s i ∧ v = .bool o ∧ Tok.qlen s.data.toList 0 false = Tok.qlen (s.data.toList.drop i) i o ∧ (o = false → ∀ h : i < s.size, (s[i]'h).toNat = 39)) (fun _ wr => s.size - wr.iterPos w.heap.size)
  case atStart => exact ⟨0, false, Nat.zero_le _, rfl, rfl, rfl, fun _ h => H0.out h⟩
  case round =>
    obtain ⟨i, o, hi, rfl, rfl, hq, ho⟩ := hrel
    have HQ := Lib.hid hq; clear hq
    by_cases hlt : i < s.size
    · have hlt' : i < s.data.toList.length := by rw [hsl]; exact hlt
      have hx : s.data.toList[i]'hlt' = s[i]'hlt := rfl
      have HC : Hid (s.data.toList.drop i = s[i]'hlt :: s.data.toList.drop (i + 1)) := by show _ = _; rw [List.drop_eq_getElem_cons hlt', hx]
      by_cases ha : (s[i]'hlt).toNat < 128
      · have hnx : ∀ ty, (Instr.next (.pointer (some ⟨w.heap.size, 0, none⟩)) true ty).run Tryz.prog (w.iter s i) = _ := fun ty => run_next_ascii w s i ty hlt ha
        have KP1 := KP i
        by_cases h39 : (s[i]'hlt).toNat = 39
        · have hc39 : s[i]'hlt = (39 : UInt8) := UInt8.toNat_inj.1 (by rw [h39]; rfl)
          have t39 : (((s[i]'hlt).toNat : Int) == 39) = true := by rw [beq_iff_eq]; omega
          cases o with
          | true =>
            by_cases hh : (s.data.toList.drop (i + 1)).head? = some 39
            · have HQ2 : Hid (Tok.qlen s.data.toList 0 false = Tok.qlen (s.data.toList.drop (i + 1)) (i + 1) false) := by
                show _ = _
                rw [HQ.out, HC.out, hc39, Tok.qlen]
                simp [hh]
              have HO : Hid (∀ h : i + 1 < s.size, (s[i + 1]'h).toNat = 39) := by
                intro h
                rw [List.head?_drop, List.getElem?_eq_getElem (by rw [hsl]; exact h), Option.some.injEq] at hh
                have : s[i + 1]'h = 39 := hh
                rw [this]; rfl
              rw [decide_eq_true hh] at KP1
              clear hh hc39 hx HC ha h39 ho
              go_wp2_with fail
              refine (KP1 _).out.mono ?_
              rintro e w2 ⟨rfl, rfl⟩
              go_wp2_with fail
              go_roundw
              case rel => exact ⟨i + 1, false, by omega, rfl, rfl, HQ2.out, fun _ => HO.out⟩
              case measure => simp; omega
            · have HQ2 : Hid (Tok.qlen s.data.toList 0 false = i + 1) := by
                show _ = _
                rw [HQ.out, HC.out, hc39]
                exact qlen_end _ _ hh
              rw [decide_eq_false hh] at KP1
              clear hh hc39 hx HC ha h39 ho
              go_wp2_with fail
              refine (KP1 _).out.mono ?_
              rintro e w2 ⟨rfl, rfl⟩
              go_wp2_with fail
              go_ret
              exact ⟨by rw [HQ2.out]; rfl, (Below.refl _ _).alloc (Nat.le_refl _) _⟩
          | false =>
            have HQ2 : Hid (Tok.qlen s.data.toList 0 false = Tok.qlen (s.data.toList.drop (i + 1)) (i + 1) true) := by
              show _ = _
              rw [HQ.out, HC.out, hc39, Tok.qlen]
              simp
            clear hc39 hx HC ha h39 ho
            go_wp2_with fail
            go_roundw
            case rel => exact ⟨i + 1, true, by omega, rfl, rfl, HQ2.out, fun h => by cases h⟩
            case measure => simp; omega
        · have t39 : (((s[i]'hlt).toNat : Int) == 39) = false := by rw [beq_eq_false_iff_ne]; omega
          have hne : ¬ s[i]'hlt = (39 : UInt8) := fun h => h39 (by rw [h]; rfl)
          have hot : o = true := by
            cases o with
            | true => rfl
            | false => exact absurd (ho rfl hlt) h39
          subst hot
          have HQ2 : Hid (Tok.qlen s.data.toList 0 false = Tok.qlen (s.data.toList.drop (i + 1)) (i + 1) true) := by
            show _ = _
            rw [HQ.out, HC.out, Tok.qlen]
            simp [hne]
          clear hne hx HC ha h39 ho
          go_wp2_with fail
          go_roundw
          case rel => exact ⟨i + 1, true, by omega, rfl, rfl, HQ2.out, fun h => by cases h⟩
          case measure => simp; omega
      · have hnx : ∀ ty, (Instr.next (.pointer (some ⟨w.heap.size, 0, none⟩)) true ty).run Tryz.prog (w.iter s i) = _ := fun ty => run_next_any w s i ty hlt
        have hdh := decode_high s i hlt (by omega)
        have hwide := Tok.decode_wide s i hlt (by omega)
        have hot : o = true := by
          cases o with
          | true => rfl
          | false => have := ho rfl hlt; omega
        subst hot
        obtain ⟨hd1, hd2⟩ := hdh
        generalize (Utf8.decode s i).1 = n at *
        generalize (Utf8.decode s i).2 = m at *
        have him : i + m ≤ s.size := by
          obtain ⟨h1, _⟩ := hwide (m - 1) (by omega)
          omega
        have HQ2 : Hid (Tok.qlen s.data.toList 0 false = Tok.qlen (s.data.toList.drop (i + m)) (i + m) true) := by
          show _ = _
          rw [HQ.out]
          refine Tok.qlen_pass s.data.toList m i (fun j hj => ?_)
          obtain ⟨h1, h2⟩ := hwide j hj
          exact ⟨by rw [hsl]; exact h1, h2⟩
        have t39 : ((n : Int) == 39) = false := by rw [beq_eq_false_iff_ne]; omega
        clear hx HC ha ho hwide
        go_wp2_with fail
        go_roundw
        case rel => exact ⟨i + m, true, him, rfl, rfl, HQ2.out, fun h => by cases h⟩
        case measure => simp; omega
    · have hnx : ∀ ty, (Instr.next (.pointer (some ⟨w.heap.size, 0, none⟩)) true ty).run Tryz.prog (w.iter s i) = _ := fun ty => run_next_end w s i ty hlt
      have HQ2 : Hid (Tok.qlen s.data.toList 0 false = 0) := by
        show _ = _
        rw [HQ.out, List.drop_of_length_le (by omega)]; rfl
      go_wp2_with fail
      go_ret
      exact ⟨by rw [HQ2.out]; rfl, (Below.refl _ _).alloc (Nat.le_refl _) _⟩
end Go.Proofs.YtamjfbjkdicmcaaGreatDoor.ImplRead
