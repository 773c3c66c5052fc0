/-
  spec.l9Print, by the depth of arrays.
-/
import Derived.Test.YtoaocpfehdcfgaaGreatDoorBPvSpec
namespace Go.Proofs.YtoaocpfehdcfgaaGreatDoor.SpecPv
open Go.RowKit
open Strs Tree Core Sto Pv Go.Proofs.YtoaocpfehdcfgaaGreatDoor.Data
open SpecSto (OBox obox_new eq_yes eq_no)
open SpecCore (grown_below)
set_option linter.unusedVariables false
set_option linter.unusedSimpArgs false
def arrF (s : St) : Nat → List V → List UInt8
  | 0 => fun _ => [46, 46, 46]
  | d + 1 => whole (printD s d)
theorem printD_eq (s : St) (d : Nat) (v : V) : printD s d v = printV s (arrF s d) v := by
  cases d with
  | zero => rw [printD]; rfl
  | succ d => rw [printD]; rfl
def OkS (s : St) (d : Nat) : Prop := ∀ (dI : Int) (v : V) (w : World) (sb : Nat), dI = (d : Int) → SAt w sb s → fitB s.classes.length s.objects.length 1000 v = true →
  Calls Tryz.prog 16 #[.pointer (some ⟨sb, 0, none⟩), .agg #[.int .i64 v.kind, .int .i64 v.num, .string v.text], .int .i64 dI] w fun e w' => e = .returned (.string (tx (printD s d v))) ∧ Below w.heap.size w w'
theorem own_below {w w' : World} {B : Nat} {T : TypeId} {k : Nat} {v : Value} {n : Nat} {xs : List Value} (h : w.ownsRow B T k v n xs) (hb : Below w.heap.size w w') : w'.ownsRow B T k v n xs :=
  own_frame h fun b hbb => hb.block b (own_blk h b hbb).2
theorem txs_take (f : V → List UInt8) (fs : List V) (i : Nat) (v : V) (h : fs[i]? = some v) : (txs f fs).take (i + 1) = (txs f fs).take i ++ [tx (f v)] := by
  obtain ⟨hi, rfl⟩ := List.getElem?_eq_some_iff.1 h
  have hl : i < (txs f fs).length := by rw [txs_len]; exact hi
  rw [List.take_succ_eq_append_getElem hl]
  congr 2
  simp [txs]
set_option maxRecDepth 10000 in
set_option maxHeartbeats 8000000 in
theorem simple_any {s : St} {d : Nat} (hic : infosB s.classes = true) (dI : Int) (v : V) (w : World) (sb : Nat) (h : SAt w sb s) (hf : fitB s.classes.length s.objects.length 1000 v = true) (hk6 : ¬ v.kind = 6) (hsz : v.text.size ≤ 1048576) :
    Calls Tryz.prog 16 #[.pointer (some ⟨sb, 0, none⟩), .agg #[.int .i64 v.kind, .int .i64 v.num, .string v.text], .int .i64 dI] w fun e w' => e = .returned (.string (tx (printD s d v))) ∧ Below w.heap.size w w' := by
  have hv : valB v = true := by unfold fitB at hf; rw [Bool.and_eq_true] at hf; exact hf.1
  have HX := Lib.hid (vbox_new w v 37)
  rw [printD_eq]
  generalize arrF s d = A
  rcases val_kind hv with hk | hk | hk | hk | hk | hk | hk | hk
  case inr.inr.inr.inr.inr.inr.inl => exact absurd hk hk6
  · have hR : tx (printV s A v) = ⟨#[110, 105, 108]⟩ := by unfold printV; rw [if_pos hk]; rfl
    rw [hR]
    obtain ⟨k, n, t⟩ := v
    simp only at hk HX ⊢
    subst hk
    clear h hf hv hR
    go_enter Tryz.func16, Tryz.ntmps16
    go_wp2_with fail
    go_ret
    exact ⟨rfl, HX.out.below⟩
  · by_cases h1 : v.num = 1
    · have hR : tx (printV s A v) = ⟨#[116, 114, 117, 101]⟩ := by unfold printV; rw [if_neg (by omega), if_pos hk, if_pos h1]; rfl
      rw [hR]
      obtain ⟨k, n, t⟩ := v
      simp only at hk h1 HX ⊢
      have g := (eq_yes h1).1
      clear h1
      subst hk
      clear h hf hv hR
      go_enter Tryz.func16, Tryz.ntmps16
      go_wp2_with fail
      go_ret
      exact ⟨rfl, HX.out.below⟩
    · have hR : tx (printV s A v) = ⟨#[102, 97, 108, 115, 101]⟩ := by unfold printV; rw [if_neg (by omega), if_pos hk, if_neg h1]; rfl
      rw [hR]
      obtain ⟨k, n, t⟩ := v
      simp only at hk h1 HX ⊢
      have g := (eq_no h1).1
      clear h1
      subst hk
      clear h hf hv hR
      go_enter Tryz.func16, Tryz.ntmps16
      go_wp2_with fail
      go_ret
      exact ⟨rfl, HX.out.below⟩
  · have hR : tx (printV s A v) = ⟨(Num.intText v.num).toArray⟩ := by unfold printV; rw [if_neg (by omega), if_neg (by omega), if_pos hk]; rfl
    rw [hR]
    have hb : -9223372036854775808 ≤ v.num ∧ v.num ≤ 9223372036854775807 := by
      unfold valB at hv
      rw [if_neg (by omega), if_neg (by omega), if_pos hk] at hv
      simp only [Bool.and_eq_true, decide_eq_true_eq] at hv
      omega
    have KF := fun w' => Lib.hid (SpecFmt.fmt_any v.num w' hb.1 hb.2)
    obtain ⟨k, n, t⟩ := v
    simp only at hk hb KF HX ⊢
    subst hk
    clear h hf hv hR
    generalize Num.intText n = l at *
    go_enter Tryz.func16, Tryz.ntmps16
    go_wp2_with fail
    refine (KF _).out.mono ?_
    rintro e w1 ⟨rfl, hb1⟩
    have H1 := Lib.hid (HX.out.below.trans (hb1.mono HX.out.below.size))
    clear hb1
    go_wp2_with fail
    go_ret
    exact ⟨rfl, H1.out⟩
  · have hR : tx (printV s A v) = tx (cut (Tok.fmt 4 v.text.data.toList 0)) := by unfold printV; rw [if_neg (by omega), if_neg (by omega), if_neg (by omega), if_pos hk]
    rw [hR]
    have KF := fun w' => Lib.hid (SpecFormat.fmt_any 4 v.text 0 w' hsz (by omega) (by omega))
    obtain ⟨k, n, t⟩ := v
    simp only at hk KF HX ⊢
    subst hk
    clear h hf hv hR
    generalize Tok.fmt 4 t.data.toList 0 = l at *
    have KC := fun w' => Lib.hid (cut_any ⟨l.toArray⟩ w')
    rw [show (⟨l.toArray⟩ : ByteArray).data.toList = l by simp] at KC
    go_enter Tryz.func16, Tryz.ntmps16
    go_wp2_with fail
    refine (KF _).out.mono ?_
    rintro e w1 ⟨rfl, hb1⟩
    have H1 := Lib.hid (HX.out.below.trans (hb1.mono HX.out.below.size))
    clear hb1
    go_wp2_with fail
    refine (KC _).out.mono ?_
    rintro e w2 ⟨rfl, rfl⟩
    go_wp2_with fail
    go_ret
    exact ⟨rfl, H1.out⟩
  · have hR : tx (printV s A v) = (⟨#[35]⟩ ++ v.text : ByteArray) := by
      unfold printV; rw [if_neg (by omega), if_neg (by omega), if_neg (by omega), if_neg (by omega), if_pos hk]
      apply bytes_ext
      rw [tx_list]
      simp
    rw [hR]
    obtain ⟨k, n, t⟩ := v
    simp only at hk hsz HX ⊢
    subst hk
    clear h hf hv hR
    go_enter Tryz.func16, Tryz.ntmps16
    go_wp2_with fail
    go_ret
    exact ⟨rfl, HX.out.below⟩
  · obtain ⟨hn0, hn1⟩ := fit_cls hf hk
    obtain ⟨n, hn⟩ : ∃ n : Nat, v.num = (n : Int) := ⟨v.num.toNat, by omega⟩
    obtain ⟨c, hc⟩ : ∃ c, s.classes[n]? = some c := ⟨_, List.getElem?_eq_getElem (by omega)⟩
    have hR : tx (printV s A v) = c.name := by
      unfold printV; rw [if_neg (by omega), if_neg (by omega), if_neg (by omega), if_neg (by omega), if_neg (by omega), if_pos hk]
      unfold nameOf
      rw [hn, Int.toNat_natCast, hc]
      apply bytes_ext
      rw [tx_list]
    rw [hR]
    obtain ⟨v0, v1, v2, c0, c1, c2, -, -, -, h0, -⟩ := h.below HX.out.below
    obtain ⟨ca, cc, rfl, hcm, -⟩ := id h0
    obtain ⟨cb, co, rfl, -, xf, x0, -⟩ := h0.at hc
    unfold maxLen at hcm
    obtain ⟨k, m, t⟩ := v
    simp only at hk hn HX ⊢
    subst hk hn
    have hnI : (n : Int) < (s.classes.length : Int) := by omega
    clear h h0 hf hv hc hR c1 c2
    generalize s.classes.length = N at *
    generalize c.name = nm at *
    have m0 := HX.out.a0; have m1 := HX.out.a1
    go_enter Tryz.func16, Tryz.ntmps16
    go_wp2_with fail
    go_quiet (fail)
    go_wp2_with fail
    go_ret
    exact ⟨rfl, below_drewN HX.out.below _⟩
  · have hR : tx (printV s A v) = ⟨#[97, 32, 66, 108, 111, 99, 107]⟩ := by unfold printV; rw [if_neg (by omega), if_neg (by omega), if_neg (by omega), if_neg (by omega), if_neg (by omega), if_neg (by omega), if_pos hk]; rfl
    rw [hR]
    obtain ⟨k, n, t⟩ := v
    simp only at hk HX ⊢
    subst hk
    clear h hf hv hR
    go_enter Tryz.func16, Tryz.ntmps16
    go_wp2_with fail
    go_ret
    exact ⟨rfl, HX.out.below⟩
end Go.Proofs.YtoaocpfehdcfgaaGreatDoor.SpecPv
