/-
  impl.isPrintable: whether all bytes of a text are printed.
  impl.isQuotable: whether a text can stand between single quotes.
-/
import Derived.Test.YtamjfbjkdicmcaaGreatDoorBImplTok
import Derived.Test.YtamjfbjkdicmcaaGreatDoorBReadMath
import Derived.Test.YtamjfbjkdicmcaaGreatDoorBTreeOk
import Derived.Test.YtamjfbjkdicmcaaGreatDoorBWide
namespace Go.Proofs.YtamjfbjkdicmcaaGreatDoor.ImplPrintable
open Go.RowKit
open Strs
theorem plain_low (c : UInt8) (h : Tok.plain c = true) : c.toNat < 128 := by
  unfold Tok.plain at h
  rw [Bool.and_eq_true, decide_eq_true_eq, decide_eq_true_eq] at h; omega
set_option maxHeartbeats 4000000 in
theorem printable_is (s : ByteArray) (b : Bool) (w : World) (hb : s.data.toList.all Tok.plain = b) :
    Calls Tryz.prog 79 #[.string s] w (ImplTok.Part b w) := by
  have HB := Lib.hid hb; clear hb
  have hsl := Tok.len_list s
  go_enter Tryz.func79, Tryz.ntmps79
  go_wp2_with fail
  go_loopw [] (fun wr => ∃ i : Nat, i ≤ s.size ∧ wr = w.iter s i ∧ (∀ j (hj : j < s.data.toList.length), j < i → Tok.plain (s.data.toList[j]'hj) = true)) (fun wr => s.size - wr.iterPos w.heap.size)
  case atStart => exact ⟨0, Nat.zero_le _, rfl, fun j hj h => by omega⟩
  case round =>
    obtain ⟨i, hi, rfl, hd⟩ := hrel
    have HD := Lib.hid hd; clear hd
    by_cases hlt : i < s.size
    · have hlt' : i < s.data.toList.length := by rw [hsl]; exact hlt
      have hx : s.data.toList[i]'hlt' = s[i]'hlt := rfl
      have HF : Hid (Tok.plain (s[i]'hlt) = false → s.data.toList.all Tok.plain = false) := by
        intro h
        have : s.data.toList.all Tok.plain = false := by
          rw [← Bool.not_eq_true, List.all_eq_true]
          intro h2
          have h3 := h2 _ (List.getElem_mem hlt')
          rw [hx, h] at h3; cases h3
        exact this
      by_cases ha : (s[i]'hlt).toNat < 128
      · have hnx : ∀ ty, (Instr.next (.pointer (some ⟨w.heap.size, 0, none⟩)) true ty).run Tryz.prog (w.iter s i) = _ := fun ty => run_next_ascii w s i ty hlt ha
        have HP : Hid (Tok.plain (s[i]'hlt) = (decide (32 ≤ (s[i]'hlt).toNat) && decide ((s[i]'hlt).toNat ≤ 126))) := rfl
        have HD2 : Hid (Tok.plain (s[i]'hlt) = true → ∀ j (hj : j < s.data.toList.length), j < i + 1 → Tok.plain (s.data.toList[j]'hj) = true) := by
          intro h0 j hj h
          by_cases h2 : j = i
          · subst h2; exact h0
          · exact HD.out j hj (by omega)
        generalize (s[i]'hlt) = c at *
        by_cases h1 : (c.toNat : Int) < 32
        · have HE : Hid (b = false) := HB.out.symm.trans (HF.out (by rw [HP.out, decide_eq_false (by omega : ¬ 32 ≤ c.toNat)]; rfl))
          clear HF HP HD2 hx ha
          go_wp2_with fail
          go_ret
          exact ⟨by rw [HE.out]; rfl, (Below.refl _ _).alloc (Nat.le_refl _) _⟩
        · by_cases h2 : (126 : Int) < (c.toNat : Int)
          · have HE : Hid (b = false) := HB.out.symm.trans (HF.out (by rw [HP.out, decide_eq_false (by omega : ¬ c.toNat ≤ 126), Bool.and_false]))
            clear HF HP HD2 hx ha
            go_wp2_with fail
            go_ret
            exact ⟨by rw [HE.out]; rfl, (Below.refl _ _).alloc (Nat.le_refl _) _⟩
          · have HE := Lib.hid (HD2.out (by rw [HP.out, decide_eq_true (by omega : 32 ≤ c.toNat), decide_eq_true (by omega : c.toNat ≤ 126)]; rfl))
            clear HF HP HD2 hx ha
            go_wp2_with fail
            go_roundw
            case rel => exact ⟨i + 1, by omega, rfl, HE.out⟩
            case measure => simp; omega
      · have hnx : ∀ ty, (Instr.next (.pointer (some ⟨w.heap.size, 0, none⟩)) true ty).run Tryz.prog (w.iter s i) = _ := fun ty => run_next_any w s i ty hlt
        have hdh := (decode_high s i hlt (by omega)).1
        have HE : Hid (b = false) := HB.out.symm.trans (HF.out (by
          rw [← Bool.not_eq_true]; intro h
          exact ha (plain_low _ h)))
        generalize (Utf8.decode s i).1 = n at *
        generalize (Utf8.decode s i).2 = m at *
        have h1 : ¬ (n : Int) < 32 := by omega
        have h2 : (126 : Int) < (n : Int) := by omega
        clear HF hx ha
        go_wp2_with fail
        go_ret
        exact ⟨by rw [HE.out]; rfl, (Below.refl _ _).alloc (Nat.le_refl _) _⟩
    · have hnx : ∀ ty, (Instr.next (.pointer (some ⟨w.heap.size, 0, none⟩)) true ty).run Tryz.prog (w.iter s i) = _ := fun ty => run_next_end w s i ty hlt
      have HE : Hid (b = true) := by
        show _ = _
        rw [← HB.out]
        have h1 : s.data.toList.all Tok.plain = true := by
          rw [List.all_eq_true]
          intro c hc
          obtain ⟨j, hj, rfl⟩ := List.mem_iff_getElem.1 hc
          exact HD.out j hj (by omega)
        exact h1
      go_wp2_with fail
      go_ret
      exact ⟨by rw [HE.out]; rfl, (Below.refl _ _).alloc (Nat.le_refl _) _⟩
theorem printable_any (s : ByteArray) (w : World) : Calls Tryz.prog 79 #[.string s] w (ImplTok.Part (s.data.toList.all Tok.plain) w) := printable_is s _ w rfl
end Go.Proofs.YtamjfbjkdicmcaaGreatDoor.ImplPrintable

namespace Go.Proofs.YtamjfbjkdicmcaaGreatDoor.ImplQuot
open Go.RowKit
open Strs ImplPrintable
theorem quotable_is (s : ByteArray) (b : Bool) (w : World) (hb : (s.data.toList.all Tok.plain && decide (s.size ≤ 40)) = b) :
    Calls Tryz.prog 57 #[.string s] w (ImplTok.Part b w) := by
  have KP := Lib.hid (printable_any s w)
  by_cases h : s.size ≤ 40
  · have g : (s.size : Int) ≤ 40 := by omega
    rw [decide_eq_true h, Bool.and_true] at hb
    rw [hb] at KP
    clear hb h
    go_enter Tryz.func57, Tryz.ntmps57
    go_wp2_with fail
    refine KP.out.mono ?_
    rintro e w1 ⟨rfl, hb1⟩
    have H1 := Lib.hid hb1; clear hb1
    go_wp2_with fail
    go_ret
    exact ⟨rfl, H1.out⟩
  · have g : ¬ (s.size : Int) ≤ 40 := by omega
    rw [decide_eq_false h, Bool.and_false] at hb
    subst hb
    clear h KP
    go_enter Tryz.func57, Tryz.ntmps57
    go_wp2_with fail
    go_ret
    exact ⟨rfl, Below.refl _ _⟩
theorem quotable_any (s : ByteArray) (w : World) : Calls Tryz.prog 57 #[.string s] w (ImplTok.Part (Tree.isText s) w) := quotable_is s _ w rfl
end Go.Proofs.YtamjfbjkdicmcaaGreatDoor.ImplQuot
