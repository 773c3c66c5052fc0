/-
  ImplFirst
-/
import Derived.Test.YtnlgdkfenipmfaaGreatDoorB27
import Derived.Test.YtnlgdkfenipmfaaGreatDoorB22
namespace Go.Proofs.YtnlgdkfenipmfaaGreatDoor
namespace ImplFirst
open Go.RowKit
open Strs Tree Go.Proofs.YtnlgdkfenipmfaaGreatDoor.Data Chk SpecChk
def firsts (p : Nat -> ByteArray) : Nat -> Nat -> ByteArray
  | _, 0 => ByteArray.empty
  | i, n + 1 => first (p i) (firsts p (i + 1) n)
theorem firsts_step (p : Nat -> ByteArray) {i n : Nat} (h : i < n) : firsts p i (n - i) = first (p i) (firsts p (i + 1) (n - (i + 1))) := by
  rw [show n - i = (n - (i + 1)) + 1 by omega, firsts]
set_option maxRecDepth 10000 in
set_option maxHeartbeats 2000000 in
theorem first_expr (fid : FuncId) (A B : Array Value) (he : ∀ args w', (callFunc fid args).run Tryz.prog w' = .ok (.enter fid args) w') (a : Option Addr) (n c : Nat) (p : Nat -> ByteArray) (I : Nat -> World -> Prop) (T : World -> World -> Prop) (rf : ∀ w, T w w) (tr : ∀ x y z, T x y -> T y z -> T x z) (w : World) (h0 : I 0 w) (hm : n <= maxLen)
    (K : ∀ i w', i < n -> I i w' -> ∃ x, a = some x /\ Calls Tryz.prog fid (A.push (.pointer (some (x.add (i * 5)))) ++ B) w' fun r w'' => r = .returned (.string (p i)) /\ T w' w'' /\ ((p i).data.toList = [] -> I (i + 1) w'')) :
    Calls Tryz.prog 245 #[.slice a n c, .func (.func fid) A B] w fun r w' => r = .returned (.string (firsts p 0 n)) /\ T w w' /\ ((firsts p 0 n).data.toList = [] -> I n w') := by
  unfold maxLen at hm
  have HK := zH K
  have HE := zH he
  have TR := zH tr
  clear K he tr
  generalize hR : firsts p 0 n = R at *
  have HR := zH hR
  clear hR
  go_enter Tryz.func245, Tryz.ntmps245
  go_wp2_with fail
  go_loopw [9] (fun j wr => ∃ i : Nat, i <= n /\ j = .int .i64 i /\ R = firsts p i (n - i) /\ T w wr /\ I i wr) (fun j _ => n - (intOf j).toNat)
  case atStart => exact ⟨0, Nat.zero_le _, rfl, HR.out.symm, rf w, h0⟩
  case round =>
    clear HR h0
    obtain ⟨i, hi, rfl, hf, ht, hI⟩ := hrel
    have HF := zH hf
    have HT := zH ht
    have HI := zH hI
    clear hf ht hI
    by_cases hlt : i < n
    · obtain ⟨x, rfl, hk⟩ := HK.out i wr hlt HI.out
      have HC := zH hk
      have HF2 := zH (HF.out.trans (firsts_step p hlt))
      clear hk HF HI
      go_wp2_with fail
      rw [HE.out, Oper.upon_enter]
      refine HC.out.mono ?_
      rintro e w2 ⟨rfl, ht2, hi2⟩
      have HT2 := zH (TR.out _ _ _ HT.out ht2)
      have HI2 := zH hi2
      clear ht2 hi2 HC HT
      generalize p i = z at *
      by_cases hz : z.data.toList = []
      · have hze := zaj hz
        have HF3 := zH (HF2.out.trans (if_pos hz))
        have HI3 := zH (HI2.out hz)
        clear HF2 HI2
        go_wp2_with fail
        go_roundw
        case rel => exact ⟨i + 1, by omega, by go_num, HF3.out, HT2.out, HI3.out⟩
        case measure => simp [intOf]; omega
      · have hze := zae hz
        have HF3 : Hid (R = z) := zH (HF2.out.trans (if_neg hz))
        clear HF2 HI2
        go_wp2_with fail
        go_ret
        exact ⟨by rw [HF3.out]; rfl, HT2.out, fun h => absurd (HF3.out ▸ h) hz⟩
    · have hin : i = n := by omega
      have HF3 : Hid (R = ByteArray.empty) := zH (by rw [HF.out, hin, Nat.sub_self, firsts])
      have HI3 : Hid (I n wr) := zH (hin ▸ HI.out)
      clear HF HI hin
      go_wp2_with fail
      go_ret
      exact ⟨by rw [HF3.out]; rfl, HT.out, fun _ => HI3.out⟩
set_option maxRecDepth 10000 in
set_option maxHeartbeats 2000000 in
theorem first_meth (fid : FuncId) (A B : Array Value) (he : ∀ args w', (callFunc fid args).run Tryz.prog w' = .ok (.enter fid args) w') (a : Option Addr) (n c : Nat) (p : Nat -> ByteArray) (I : Nat -> World -> Prop) (T : World -> World -> Prop) (rf : ∀ w, T w w) (tr : ∀ x y z, T x y -> T y z -> T x z) (w : World) (h0 : I 0 w) (hm : n <= maxLen)
    (K : ∀ i w', i < n -> I i w' -> ∃ x, a = some x /\ Calls Tryz.prog fid (A.push (.pointer (some (x.add (i * 5)))) ++ B) w' fun r w'' => r = .returned (.string (p i)) /\ T w' w'' /\ ((p i).data.toList = [] -> I (i + 1) w'')) :
    Calls Tryz.prog 157 #[.slice a n c, .func (.func fid) A B] w fun r w' => r = .returned (.string (firsts p 0 n)) /\ T w w' /\ ((firsts p 0 n).data.toList = [] -> I n w') := by
  unfold maxLen at hm
  have HK := zH K
  have HE := zH he
  have TR := zH tr
  clear K he tr
  generalize hR : firsts p 0 n = R at *
  have HR := zH hR
  clear hR
  go_enter Tryz.func157, Tryz.ntmps157
  go_wp2_with fail
  go_loopw [9] (fun j wr => ∃ i : Nat, i <= n /\ j = .int .i64 i /\ R = firsts p i (n - i) /\ T w wr /\ I i wr) (fun j _ => n - (intOf j).toNat)
  case atStart => exact ⟨0, Nat.zero_le _, rfl, HR.out.symm, rf w, h0⟩
  case round =>
    clear HR h0
    obtain ⟨i, hi, rfl, hf, ht, hI⟩ := hrel
    have HF := zH hf
    have HT := zH ht
    have HI := zH hI
    clear hf ht hI
    by_cases hlt : i < n
    · obtain ⟨x, rfl, hk⟩ := HK.out i wr hlt HI.out
      have HC := zH hk
      have HF2 := zH (HF.out.trans (firsts_step p hlt))
      clear hk HF HI
      go_wp2_with fail
      rw [HE.out, Oper.upon_enter]
      refine HC.out.mono ?_
      rintro e w2 ⟨rfl, ht2, hi2⟩
      have HT2 := zH (TR.out _ _ _ HT.out ht2)
      have HI2 := zH hi2
      clear ht2 hi2 HC HT
      generalize p i = z at *
      by_cases hz : z.data.toList = []
      · have hze := zaj hz
        have HF3 := zH (HF2.out.trans (if_pos hz))
        have HI3 := zH (HI2.out hz)
        clear HF2 HI2
        go_wp2_with fail
        go_roundw
        case rel => exact ⟨i + 1, by omega, by go_num, HF3.out, HT2.out, HI3.out⟩
        case measure => simp [intOf]; omega
      · have hze := zae hz
        have HF3 : Hid (R = z) := zH (HF2.out.trans (if_neg hz))
        clear HF2 HI2
        go_wp2_with fail
        go_ret
        exact ⟨by rw [HF3.out]; rfl, HT2.out, fun h => absurd (HF3.out ▸ h) hz⟩
    · have hin : i = n := by omega
      have HF3 : Hid (R = ByteArray.empty) := zH (by rw [HF.out, hin, Nat.sub_self, firsts])
      have HI3 : Hid (I n wr) := zH (hin ▸ HI.out)
      clear HF HI hin
      go_wp2_with fail
      go_ret
      exact ⟨by rw [HF3.out]; rfl, HT.out, fun _ => HI3.out⟩
set_option maxRecDepth 10000 in
set_option maxHeartbeats 2000000 in
theorem first_cls (fid : FuncId) (A B : Array Value) (he : ∀ args w', (callFunc fid args).run Tryz.prog w' = .ok (.enter fid args) w') (a : Option Addr) (n c : Nat) (p : Nat -> ByteArray) (I : Nat -> World -> Prop) (T : World -> World -> Prop) (rf : ∀ w, T w w) (tr : ∀ x y z, T x y -> T y z -> T x z) (w : World) (h0 : I 0 w) (hm : n <= maxLen)
    (K : ∀ i w', i < n -> I i w' -> ∃ x, a = some x /\ Calls Tryz.prog fid (A.push (.pointer (some (x.add (i * 4)))) ++ B) w' fun r w'' => r = .returned (.string (p i)) /\ T w' w'' /\ ((p i).data.toList = [] -> I (i + 1) w'')) :
    Calls Tryz.prog 112 #[.slice a n c, .func (.func fid) A B] w fun r w' => r = .returned (.string (firsts p 0 n)) /\ T w w' /\ ((firsts p 0 n).data.toList = [] -> I n w') := by
  unfold maxLen at hm
  have HK := zH K
  have HE := zH he
  have TR := zH tr
  clear K he tr
  generalize hR : firsts p 0 n = R at *
  have HR := zH hR
  clear hR
  go_enter Tryz.func112, Tryz.ntmps112
  go_wp2_with fail
  go_loopw [9] (fun j wr => ∃ i : Nat, i <= n /\ j = .int .i64 i /\ R = firsts p i (n - i) /\ T w wr /\ I i wr) (fun j _ => n - (intOf j).toNat)
  case atStart => exact ⟨0, Nat.zero_le _, rfl, HR.out.symm, rf w, h0⟩
  case round =>
    clear HR h0
    obtain ⟨i, hi, rfl, hf, ht, hI⟩ := hrel
    have HF := zH hf
    have HT := zH ht
    have HI := zH hI
    clear hf ht hI
    by_cases hlt : i < n
    · obtain ⟨x, rfl, hk⟩ := HK.out i wr hlt HI.out
      have HC := zH hk
      have HF2 := zH (HF.out.trans (firsts_step p hlt))
      clear hk HF HI
      go_wp2_with fail
      rw [HE.out, Oper.upon_enter]
      refine HC.out.mono ?_
      rintro e w2 ⟨rfl, ht2, hi2⟩
      have HT2 := zH (TR.out _ _ _ HT.out ht2)
      have HI2 := zH hi2
      clear ht2 hi2 HC HT
      generalize p i = z at *
      by_cases hz : z.data.toList = []
      · have hze := zaj hz
        have HF3 := zH (HF2.out.trans (if_pos hz))
        have HI3 := zH (HI2.out hz)
        clear HF2 HI2
        go_wp2_with fail
        go_roundw
        case rel => exact ⟨i + 1, by omega, by go_num, HF3.out, HT2.out, HI3.out⟩
        case measure => simp [intOf]; omega
      · have hze := zae hz
        have HF3 : Hid (R = z) := zH (HF2.out.trans (if_neg hz))
        clear HF2 HI2
        go_wp2_with fail
        go_ret
        exact ⟨by rw [HF3.out]; rfl, HT2.out, fun h => absurd (HF3.out ▸ h) hz⟩
    · have hin : i = n := by omega
      have HF3 : Hid (R = ByteArray.empty) := zH (by rw [HF.out, hin, Nat.sub_self, firsts])
      have HI3 : Hid (I n wr) := zH (hin ▸ HI.out)
      clear HF HI hin
      go_wp2_with fail
      go_ret
      exact ⟨by rw [HF3.out]; rfl, HT.out, fun _ => HI3.out⟩
end ImplFirst
end Go.Proofs.YtnlgdkfenipmfaaGreatDoor
