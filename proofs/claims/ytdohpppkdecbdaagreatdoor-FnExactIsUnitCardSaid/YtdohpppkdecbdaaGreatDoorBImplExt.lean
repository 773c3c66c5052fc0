/-
  extentAbove: the size and the depth of a tree, from those of its kids.
-/
import Derived.Test.YtdohpppkdecbdaaGreatDoorBNd
import Derived.Test.YtdohpppkdecbdaaGreatDoorBTexts
namespace Go.Proofs.YtdohpppkdecbdaaGreatDoor.ImplExt
open Go.RowKit
open Strs Tree PMap Soft PtrMap Dfs
structure Box (w : World) (q d : Int) (wr : World) : Prop where
  below : Below w.heap.size w wr
  size : w.heap.size + 2 ≤ wr.heap.size
  r0 : wr.cell? ⟨w.heap.size, 0, none⟩ = some (.int .i64 0)
  r1 : wr.cell? ⟨w.heap.size, 1, none⟩ = some (.int .i64 0)
  c0 : wr.cell? ⟨w.heap.size + 1, 0, none⟩ = some (.int .i64 q)
  c1 : wr.cell? ⟨w.heap.size + 1, 1, none⟩ = some (.int .i64 d)
  fr : ∀ o, wr.frozen? ⟨w.heap.size, o, none⟩ = false
  fc : ∀ o, wr.frozen? ⟨w.heap.size + 1, o, none⟩ = false
theorem Box.next {w wr : World} {q d : Int} (h : Box w q d wr) (q' d' : Int) (o : Obj) : Box w q' d' (((wr.setCell ⟨w.heap.size + 1, 0, none⟩ (.int .i64 q')).setCell ⟨w.heap.size + 1, 1, none⟩ (.int .i64 d')).alloc o) := by
  obtain ⟨hb, hs, r0, r1, c0, c1, fr, fc⟩ := h
  have s1 : w.heap.size + 1 < wr.heap.size := by omega
  have s0 : w.heap.size < wr.heap.size := by omega
  refine ⟨((hb.setCell (by show w.heap.size ≤ w.heap.size + 1; omega) _).setCell (by show w.heap.size ≤ w.heap.size + 1; omega) _).alloc (by simp; omega) _, by simp; omega, ?_, ?_, ?_, ?_, ?_, ?_⟩
  all_goals first | (intro o; go_simp) | go_simp
set_option maxHeartbeats 1000000 in
theorem ext_any {w0 w : World} {a : Addr} {e : E} {B : Nat} {M : Addr → Option Value} (hb : Below w0.heap.size w0 w) (hn : Nd w0 a e) (hM : Is encP (Fine w0) w B M) (hk : ∀ k e', e.kids[k]? = some e' → M (kid w0 a k) = some (ext e')) (hz : size e ≤ 4611686018427387904) :
    Calls Tryz.prog 77 #[.pointer (some a), .map (some B)] w fun r w' => r = .returned (ext e) ∧ Below w.heap.size w w' := by
  obtain ⟨b, o, vn, x, cap, rfl, -, -, -, -, c4, hm, hm2, -, -, -, -, hkid⟩ := hn.see
  have HS := Lib.hid (size_mk e)
  have HD := Lib.hid (depth_mk e)
  have KF : Hid (∀ i, i < e.kids.length → Fine w0 (kid w0 ⟨b, o, none⟩ i)) := fun i hi => (hn.kid_is hi).fine
  have HK := Lib.hid hk
  have HKI := Lib.hid hkid
  have HM := Lib.hid hM
  have HB := Lib.hid hb
  have HZ := Lib.hid hz
  unfold ext
  have hds := depth_size e
  have hdz : depth e ≤ 4611686018427387904 := by omega
  have c4' := cell_keep hb c4
  clear hk hkid hM hb hz hn c4 hds
  generalize hsz : size e = S at *
  generalize hdp : depth e = D at *
  generalize hks : e.kids = ks at *
  generalize hN : ks.length = n at *
  unfold maxLen at hm2
  have HN := Lib.hid hN
  clear hN hks hsz hdp
  have c42 : ∀ o1 o2, ((w.alloc o1).alloc o2).cell? ⟨b, o + 4, none⟩ = some (.slice x n cap) := fun _ _ => cell_keep (((Below.refl _ _).alloc (Nat.le_refl _) _).alloc (by simp) _) c4'
  go_enter Tryz.func77, Tryz.ntmps77
  go_wp2_with fail
  go_loopw [14] (fun j wr => ∃ i q d : Nat, i ≤ n ∧ j = .int .i64 i ∧ sizes (ks.take i) + 1 = q ∧ depths (ks.take i) + 1 = d ∧ Box w q d wr) (fun j _ => n - (intOf j).toNat)
  case atStart => 
    refine ⟨0, 1, 1, by omega, rfl, rfl, rfl, ?_⟩
    refine ⟨((Below.refl _ _).alloc (Nat.le_refl _) _).alloc (by simp) _, by simp, ?_, ?_, ?_, ?_, ?_, ?_⟩
    all_goals first | (intro o; go_simp) | go_simp
  case round =>
    obtain ⟨i, q, d, hi, rfl, hq, hd, hbox⟩ := hrel
    have HQ := Lib.hid (And.intro hq hd)
    have BX := Lib.hid hbox
    obtain ⟨-, -, r0, r1, c0, c1, fr, fc⟩ := hbox
    clear hq hd
    by_cases hlt : i < n
    · have hil : i < ks.length := by rw [HN.out]; exact hlt
      obtain ⟨kb, ko, rfl, hke⟩ := HKI.out i hlt
      have hbb := BX.out.below
      have s1 : w.heap.size + 1 < wr.heap.size := by have := BX.out.size; omega
      have s0 : w.heap.size < wr.heap.size := by omega
      have HBR : Hid (Below w0.heap.size w0 wr) := HB.out.trans (hbb.mono HB.out.size)
      have hlk := (HM.out.step hbb).look (law HBR.out) (KF.out i hlt) false
      rw [HK.out i ks[i] (List.getElem?_eq_getElem hil), hke] at hlk
      simp only [Option.getD_some, Bool.false_eq_true, if_false, ext, encP] at hlk
      have k4 := cell_keep hbb c4'
      have HT : Hid (sizes (ks.take (i + 1)) + 1 = q + size ks[i] ∧ depths (ks.take (i + 1)) + 1 = max d (1 + depth ks[i])) := by
        have := sizes_take ks i hil; have := depths_take ks i hil; have := HQ.out; exact ⟨by omega, by omega⟩
      have hq2 : q + size ks[i] ≤ 4611686018427387904 := by have := sizes_le ks (i + 1); have := HT.out; have := HZ.out; have := HS.out; omega
      have hd2 : depth ks[i] ≤ 4611686018427387904 := by have := depth_size ks[i]; omega
      clear hke hbb HBR
      generalize size ks[i] = z at *
      generalize depth ks[i] = y at *
      go_wp2_with fail
      have hif : (if (d : Int) < 1 + (y : Int) then 1 + (y : Int) else (d : Int)) = ((max d (1 + y) : Nat) : Int) := by split <;> omega
      have HIF := Lib.hid hif; clear hif
      go_roundw
      case rel => exact ⟨i + 1, q + z, max d (1 + y), by omega, by go_num, HT.out.1, HT.out.2, by
        first
        | (rw [HIF.out]; exact BX.out.next _ _ _)
        | (have x1 : (q : Int) + min (z : Int) (9223372036854775807 - (q : Int)) = ((q + z : Nat) : Int) := by omega
           have x2 : max (d : Int) (1 + min (y : Int) 9223372036854775806) = ((max d (1 + y) : Nat) : Int) := by omega
           rw [x1, x2]
           exact BX.out.next _ _ _)⟩
      case measure => simp [intOf]; omega
    · have hin : i = n := by omega
      have HE : Hid ((q : Int) = S ∧ (d : Int) = D) := by
        have h2 := HQ.out
        rw [hin, List.take_of_length_le (by rw [HN.out]; exact Nat.le_refl _)] at h2
        have := HS.out; have := HD.out
        exact ⟨by omega, by omega⟩
      have s1 : w.heap.size + 1 < wr.heap.size := by have := BX.out.size; omega
      have s0 : w.heap.size < wr.heap.size := by omega
      clear hin
      go_wp2_with fail
      refine bodyPost_ret (v := .agg #[.int .i64 q, .int .i64 d]) (by simp [results, Tryz.results77, go_sem, *]) rfl ?_
      refine ⟨by rw [HE.out.1, HE.out.2], ?_⟩
      have hbb := BX.out.below
      exact (hbb.setCell (Nat.le_refl _) _).setCell (Nat.le_refl _) _
end Go.Proofs.YtdohpppkdecbdaaGreatDoor.ImplExt
