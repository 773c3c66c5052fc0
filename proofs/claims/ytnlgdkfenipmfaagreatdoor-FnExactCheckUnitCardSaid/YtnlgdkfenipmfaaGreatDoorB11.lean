/-
  Short names of three laws that stand everywhere. Kit At Num Mark Cuts ImplSplit SpecSplit Builtin
-/
import Derived.ProofKit
import Derived.Test.YtnlgdkfenipmfaaGreatDoorRows
import Derived.WalkSpells
import Derived.Lib.Hide
import Derived.BigQuiet
import Derived.WalkSmall
namespace Go.Proofs.YtnlgdkfenipmfaaGreatDoor
open Go.RowKit
theorem zH {p : Prop} (h : p) : Hid p := Lib.hid h
theorem zL (n : Nat) : n ≤ n := Nat.le_refl n
theorem zB (B : Nat) (w : World) : Below B w w := Below.refl B w
end Go.Proofs.YtnlgdkfenipmfaaGreatDoor
namespace Go.Proofs.YtnlgdkfenipmfaaGreatDoor
namespace Kit
open Go.RowKit
theorem app_below {w wr w' : World} {base : Nat} {e : TypeId} {o : Obj} {v : Value} {n : Nat} {xs : List Value} (hb : base <= w.heap.size) (h : Below base w wr) (hown : wr.ownsRow base e 1 v n xs) (hg : (wr.alloc o).grownBy w' v.ownBlock) : Below base w w' := by
  have h1 : base <= wr.heap.size := Nat.le_trans hb h.size
  exact (h.alloc h1 o).grown hg (by simp; omega) (fun k hk => (hown.lt k hk).1)
theorem one_cells (w : World) (v : Value) (t : TypeId) : ∀ (j : Nat) (u : Value), [v][j]? = some u -> (w.alloc (.cells #[v] t)).cell? ((⟨w.heap.size, 0, none⟩ : Addr).add j) = some u := by
  intro j u hj
  match j, hj with
  | 0, hj => simp at hj; subst hj; simp [Addr.add]
theorem one_str (s : ByteArray) : ∀ u : Value, u ∈ [Value.string s] -> u.oneCell' = true := by
  intro u hu; simp at hu; subst hu; rfl
theorem row_form {w : World} {base : Nat} {e : TypeId} {size : Nat} {v : Value} {n : Nat} {xs : List Value} (h : w.ownsRow base e size v n xs) : ∃ a c, v = .slice a n c := by
  obtain ⟨_, ⟨rfl, hn⟩ | ⟨g, cap, cur, rfl, _⟩⟩ := h
  · exact ⟨none, 0, by rw [hn]⟩
  · exact ⟨_, cap, rfl⟩
end Kit
namespace Strs
open Go.RowKit
def At (w : World) (v : Value) (xs : List ByteArray) : Prop :=
  ∃ a cap, v = .slice a xs.length cap /\ xs.length <= maxLen /\ (0 < xs.length -> ∃ b off, a = some ⟨b, off, none⟩ /\ ∀ j, j < xs.length -> w.cell? ⟨b, off + j, none⟩ = some (.string (xs.getD j ByteArray.empty)))
theorem at_own {w : World} {base : Nat} {v : Value} {xs : List ByteArray} (h : w.ownsRow base 9 1 v xs.length (xs.map Value.string)) : At w v xs := by
  have h' := h
  obtain ⟨_, ⟨rfl, hn⟩ | ⟨g, cap, cur, rfl, _, hg, hnc, hcm, _, _⟩⟩ := h
  · exact ⟨none, 0, by rw [hn], by unfold maxLen; omega, fun hp => by omega⟩
  · refine ⟨_, cap, rfl, by omega, fun hp => ⟨g, 0, rfl, fun j hj => ?_⟩⟩
    rw [Nat.zero_add, h'.cellAt j (by omega)]
    simp [hj, List.getD]
theorem cell_lt {w : World} {a : Addr} {v : Value} (h : w.cell? a = some v) : a.block < w.heap.size := by
  rcases Nat.lt_or_ge a.block w.heap.size with h1 | h1
  · exact h1
  · have h2 : w.heap[a.block]? = none := by rw [Array.getElem?_eq_none_iff]; exact h1
    simp [World.cell?, h2] at h
theorem cell_keep {w w' : World} {b o : Nat} {v : Value} (hb : Below w.heap.size w w') (h : w.cell? ⟨b, o, none⟩ = some v) : w'.cell? ⟨b, o, none⟩ = some v := by
  rw [hb.cell (p := ⟨b, o, none⟩) (cell_lt h)]; exact h
theorem own_keep {w w' : World} {base : Nat} {e : TypeId} {size : Nat} {v : Value} {n : Nat} {xs : List Value} (h : w.ownsRow base e size v n xs) (hb : Below w.heap.size w w') : w'.ownsRow base e size v n xs := by
  have hlt := h.lt
  refine ⟨h.1, ?_⟩
  rcases h.2 with hn | ⟨g, cap, cur, rfl, hbg, hgg, rest⟩
  · exact .inl hn
  · exact .inr ⟨g, cap, cur, rfl, hbg, by rw [hb.block g (hlt g rfl).2]; exact hgg, rest⟩
theorem At.keep {w w' : World} {v : Value} {xs : List ByteArray} (h : At w v xs) (hb : Below w.heap.size w w') : At w' v xs := by
  obtain ⟨a, cap, rfl, hm, hc⟩ := h
  refine ⟨a, cap, rfl, hm, fun hp => ?_⟩
  obtain ⟨b, off, rfl, hd⟩ := hc hp
  exact ⟨b, off, rfl, fun j hj => cell_keep hb (hd j hj)⟩
end Strs
namespace Num
end Num
namespace Mark
open Go.RowKit
end Mark
namespace Cuts
def cuts (s : ByteArray) (b : Int) : Nat -> List ByteArray × Nat
  | 0 => ([], 0)
  | i + 1 => if h : i < s.size then (if ((s[i]'h).toNat : Int) = b then ((cuts s b i).1 ++ [s.extract (cuts s b i).2 i], i + 1) else cuts s b i) else cuts s b i
theorem cuts_hit (s : ByteArray) (b : Int) (i : Nat) (h : i < s.size) (hb : ((s[i]'h).toNat : Int) = b) : cuts s b (i + 1) = ((cuts s b i).1 ++ [s.extract (cuts s b i).2 i], i + 1) := by
  rw [cuts, dif_pos h, if_pos hb]
theorem cuts_miss (s : ByteArray) (b : Int) (i : Nat) (h : i < s.size) (hb : ¬ ((s[i]'h).toNat : Int) = b) : cuts s b (i + 1) = cuts s b i := by
  rw [cuts, dif_pos h, if_neg hb]
theorem cuts_le (s : ByteArray) (b : Int) (i : Nat) : (cuts s b i).2 <= i /\ (cuts s b i).1.length <= i := by
  induction i with
  | zero => exact ⟨Nat.le_refl _, Nat.le_refl _⟩
  | succ i ih =>
    rw [cuts]
    split
    · split
      · simp; omega
      · omega
    · omega
def parts (s : ByteArray) (b : Int) : List ByteArray := (cuts s b s.size).1 ++ [s.extract (cuts s b s.size).2 s.size]
theorem parts_len (s : ByteArray) (b : Int) : 1 <= (parts s b).length /\ (parts s b).length <= s.size + 1 := by
  have := (cuts_le s b s.size).2
  unfold parts; simp; exact this
end Cuts
namespace ImplSplit
open Go.RowKit
theorem info9 : (Tryz.prog.info? 9).map (fun i => (i.zero, i.size, i.bytes)) = some (some (.string ByteArray.empty), 1, 16) := by kernel_rfl
def Made (w : World) (xs : List ByteArray) (e : Ending) (w' : World) : Prop :=
  ∃ v, e = .returned v /\ w'.ownsRow w.heap.size 9 1 v xs.length (xs.map Value.string) /\ Below w.heap.size w w'
set_option maxHeartbeats 1000000 in
theorem split_any (s : ByteArray) (b : Int) (w : World) (hs : s.size <= 1048576) :
    Calls Tryz.prog 196 #[.string s, .int .u8 b] w (Made w (Cuts.parts s b)) := by
  obtain ⟨i0, hi, hz0, hz1, hz2⟩ := info_parts info9
  go_enter Tryz.func196, Tryz.ntmps196
  go_wp2_with fail
  go_loopw [5, 6, 10] (fun v f j wr => ∃ i : Nat, i <= s.size /\ j = .int .i64 i /\ f = .int .i64 ((Cuts.cuts s b i).2 : Nat) /\
      wr.ownsRow w.heap.size 9 1 v (Cuts.cuts s b i).1.length ((Cuts.cuts s b i).1.map Value.string) /\ Below w.heap.size w wr)
    (fun _ _ j _ => s.size - (intOf j).toNat)
  case atStart => exact ⟨0, Nat.zero_le _, rfl, rfl, World.ownsRow_nil _ _ _ _, zB _ _⟩
  case round =>
    obtain ⟨i, hi', rfl, rfl, hown, hbw⟩ := hrel
    have hle := Cuts.cuts_le s b i
    by_cases hlt : i < s.size
    · by_cases hb : ((s[i]'hlt).toNat : Int) = b
      · have HH := zH (Cuts.cuts_hit s b i hlt hb)
        have hbb : (((s[i]'hlt).toNat : Int) == b) = true := by simpa using hb
        clear hb
        obtain ⟨hf1, hl1⟩ := hle
        generalize (Cuts.cuts s b i).2 = f at *
        generalize (Cuts.cuts s b i).1 = xs at *
        go_wp2_with (at_builtin; refine wpList_append_own _ rfl _ _ 25 rfl w.heap.size 9 i0 (.string ByteArray.empty) 1 16 Tryz.underlying25 hi hz0 hz1 hz2 rfl (by decide) _ _ _ rfl (hown.alloc _) ⟨wr.heap.size, 0, none⟩ 1 1 [.string (s.extract f i)] rfl rfl ?c1 ?c2 ?c3 ?c4 ?c5 ?_)
        case c1 => exact Kit.one_cells _ _ _
        case c2 => exact Kit.one_str _
        case c3 => unfold maxLen; omega
        case c4 => omega
        case c5 => have := hbw.size; simp; omega
        intro v' w1 hown' hgr _
        have hb1 := Kit.app_below (zL _) hbw hown hgr
        clear hgr hown
        go_wp2_with fail
        go_roundw
        case rel => exact ⟨i + 1, by omega, by go_num, by rw [HH.out]; go_num, by rw [HH.out]; simpa using hown', hb1⟩
        case measure => simp [intOf]; omega
      · have HH := zH (Cuts.cuts_miss s b i hlt hb)
        have hbb : (((s[i]'hlt).toNat : Int) == b) = false := by simpa using hb
        clear hb
        go_wp2_with fail
        go_roundw
        case rel => exact ⟨i + 1, by omega, by go_num, by rw [HH.out], by rw [HH.out]; exact hown, hbw⟩
        case measure => simp [intOf]; omega
    · have HP : Hid (Cuts.parts s b = (Cuts.cuts s b i).1 ++ [s.extract (Cuts.cuts s b i).2 s.size]) := by
        have : i = s.size := by omega
        subst this; rfl
      obtain ⟨hf1, hl1⟩ := hle
      have hf2 : (Cuts.cuts s b i).2 <= s.size := by omega
      generalize (Cuts.cuts s b i).2 = f at *
      generalize (Cuts.cuts s b i).1 = xs at *
      go_wp2_with (at_builtin; refine wpList_append_own _ rfl _ _ 25 rfl w.heap.size 9 i0 (.string ByteArray.empty) 1 16 Tryz.underlying25 hi hz0 hz1 hz2 rfl (by decide) _ _ _ rfl (hown.alloc _) ⟨wr.heap.size, 0, none⟩ 1 1 [.string (s.extract f s.size)] rfl rfl ?c1 ?c2 ?c3 ?c4 ?c5 ?_)
      case c1 => exact Kit.one_cells _ _ _
      case c2 => exact Kit.one_str _
      case c3 => unfold maxLen; omega
      case c4 => omega
      case c5 => have := hbw.size; simp; omega
      intro v' w1 hown' hgr _
      have hb1 := Kit.app_below (zL _) hbw hown hgr
      clear hgr hown
      go_wp2_with fail
      go_ret
      exact ⟨v', rfl, by rw [HP.out]; simpa using hown', hb1⟩
end ImplSplit
namespace SpecSplit
open Go.RowKit
open ImplSplit
set_option maxHeartbeats 1000000 in
theorem split_any (s : ByteArray) (b : Int) (w : World) (hs : s.size <= 1048576) :
    Calls Tryz.prog 142 #[.string s, .int .u8 b] w (Made w (Cuts.parts s b)) := by
  obtain ⟨i0, hi, hz0, hz1, hz2⟩ := info_parts info9
  go_enter Tryz.func142, Tryz.ntmps142
  go_wp2_with fail
  go_loopw [5, 6, 7] (fun v f j wr => ∃ (i : Nat) (xs : List ByteArray) (k : Nat), i <= s.size + 1 /\ (i <= s.size -> Cuts.cuts s b i = (xs, k)) /\ (i = s.size + 1 -> Cuts.parts s b = xs) /\ k <= i /\ xs.length <= i /\ j = .int .i64 i /\ f = .int .i64 k /\
      wr.ownsRow w.heap.size 9 1 v xs.length (xs.map Value.string) /\ Below w.heap.size w wr)
    (fun _ _ j _ => s.size + 1 - (intOf j).toNat)
  case atStart =>
    exact ⟨0, [], 0, by omega, fun _ => rfl, fun h => by omega, by omega, by simp, rfl, rfl, World.ownsRow_lit w #[] 0 (zL _) (Nat.zero_le _) rfl, (zB _ _).alloc (zL _) _⟩
  case round =>
    obtain ⟨i, xs, f, hi', hc, hp, hf, hl, rfl, rfl, hown, hbw⟩ := hrel
    have HC := zH hc; clear hc
    have HP := zH hp; clear hp
    by_cases hend : i = s.size + 1
    · have hgt : ¬ (i : Int) <= (s.size : Int) := by omega
      have HE := zH hend; clear hend
      go_wp2_with fail
      go_ret
      exact ⟨_, rfl, by rw [HP.out HE.out]; exact hown, hbw⟩
    · have hle : (i : Int) <= (s.size : Int) := by omega
      by_cases hlast : i = s.size
      · have he : ((i : Int) == (s.size : Int)) = true := by rw [beq_iff_eq]; omega
        have HN : Hid (Cuts.parts s b = xs ++ [s.extract f i]) := by
          have := HC.out (by omega)
          subst hlast
          show _ = _
          rw [Cuts.parts, this]
        have HL := zH hlast; clear hlast hend
        go_wp2_with (at_builtin; refine wpList_append_own _ rfl _ _ 25 rfl w.heap.size 9 i0 (.string ByteArray.empty) 1 16 Tryz.underlying25 hi hz0 hz1 hz2 rfl (by decide) _ _ _ rfl (hown.alloc _) ⟨wr.heap.size, 0, none⟩ 1 1 [.string (s.extract f i)] rfl rfl ?c1 ?c2 ?c3 ?c4 ?c5 ?_)
        case c1 => exact Kit.one_cells _ _ _
        case c2 => exact Kit.one_str _
        case c3 => unfold maxLen; omega
        case c4 => omega
        case c5 => have := hbw.size; simp; omega
        intro v' w1 hown' hgr _
        have hb1 := Kit.app_below (zL _) hbw hown hgr
        clear hgr hown
        go_wp2_with fail
        go_roundw
        case rel => exact ⟨i + 1, _, i + 1, by omega, fun h => by have := HL.out; omega, fun _ => HN.out, by omega, by simp; omega, by go_num, by go_num, by simpa using hown', hb1⟩
        case measure => simp [intOf]; have := HL.out; omega
      · have hlt : i < s.size := by omega
        have he : ((i : Int) == (s.size : Int)) = false := by rw [beq_eq_false_iff_ne]; omega
        clear hlast hend
        by_cases hb : ((s[i]'hlt).toNat : Int) = b
        · have HN : Hid (Cuts.cuts s b (i + 1) = (xs ++ [s.extract f i], i + 1)) := by
            show _ = _
            rw [Cuts.cuts_hit s b i hlt hb, HC.out (by omega)]
          have hbb : (((s[i]'hlt).toNat : Int) == b) = true := by simpa using hb
          clear hb
          go_wp2_with (at_builtin; refine wpList_append_own _ rfl _ _ 25 rfl w.heap.size 9 i0 (.string ByteArray.empty) 1 16 Tryz.underlying25 hi hz0 hz1 hz2 rfl (by decide) _ _ _ rfl (hown.alloc _) ⟨wr.heap.size, 0, none⟩ 1 1 [.string (s.extract f i)] rfl rfl ?c1 ?c2 ?c3 ?c4 ?c5 ?_)
          case c1 => exact Kit.one_cells _ _ _
          case c2 => exact Kit.one_str _
          case c3 => unfold maxLen; omega
          case c4 => omega
          case c5 => have := hbw.size; simp; omega
          intro v' w1 hown' hgr _
          have hb1 := Kit.app_below (zL _) hbw hown hgr
          clear hgr hown
          go_wp2_with fail
          go_roundw
          case rel => exact ⟨i + 1, _, i + 1, by omega, fun _ => HN.out, fun h => by omega, by omega, by simp; omega, by go_num, by go_num, by simpa using hown', hb1⟩
          case measure => simp [intOf]; omega
        · have HN : Hid (Cuts.cuts s b (i + 1) = (xs, f)) := by
            show _ = _
            rw [Cuts.cuts_miss s b i hlt hb, HC.out (by omega)]
          have hbb : (((s[i]'hlt).toNat : Int) == b) = false := by simpa using hb
          clear hb
          go_wp2_with fail
          go_roundw
          case rel => exact ⟨i + 1, _, f, by omega, fun _ => HN.out, fun h => by omega, by omega, by omega, by go_num, rfl, hown, hbw⟩
          case measure => simp [intOf]; omega
end SpecSplit
namespace Builtin
open Go.RowKit
open Strs
def names : List ByteArray := [⟨#[79, 98, 106, 101, 99, 116]⟩,
  ⟨#[69, 120, 99, 101, 112, 116, 105, 111, 110]⟩,
  ⟨#[69, 114, 114, 111, 114]⟩,
  ⟨#[77, 101, 115, 115, 97, 103, 101, 78, 111, 116, 85, 110, 100, 101, 114, 115, 116, 111, 111, 100]⟩,
  ⟨#[90, 101, 114, 111, 68, 105, 118, 105, 100, 101]⟩,
  ⟨#[73, 110, 116, 101, 103, 101, 114]⟩,
  ⟨#[66, 111, 111, 108, 101, 97, 110]⟩,
  ⟨#[78, 105, 108]⟩,
  ⟨#[83, 116, 114, 105, 110, 103]⟩,
  ⟨#[83, 121, 109, 98, 111, 108]⟩,
  ⟨#[65, 114, 114, 97, 121]⟩,
  ⟨#[66, 108, 111, 99, 107]⟩,
  ⟨#[83, 101, 109, 97, 112, 104, 111, 114, 101]⟩,
  ⟨#[80, 114, 111, 99, 101, 115, 115]⟩,
  ⟨#[84, 114, 97, 110, 115, 99, 114, 105, 112, 116]⟩,
  ⟨#[67, 108, 97, 115, 115]⟩]
set_option maxHeartbeats 1000000 in
theorem spec_any (w : World) : Calls Tryz.prog 148 #[] w fun e w' =>
    ∃ v, e = .returned v /\ w'.ownsRow w.heap.size 9 1 v names.length (names.map Value.string) /\ Below w.heap.size w w' := by
  go_enter Tryz.func148, Tryz.ntmps148
  go_wp2_with fail
  go_ret
  exact ⟨_, rfl, World.ownsRow_lit w _ 16 (zL _) (by unfold maxLen; omega) rfl, (zB _ _).alloc (zL _) _⟩
set_option maxHeartbeats 1000000 in
theorem impl_any (w : World) : Calls Tryz.prog 110 #[] w fun e w' =>
    ∃ v, e = .returned v /\ w'.ownsRow w.heap.size 9 1 v names.length (names.map Value.string) /\ Below w.heap.size w w' := by
  go_enter Tryz.func110, Tryz.ntmps110
  go_wp2_with fail
  go_ret
  exact ⟨_, rfl, World.ownsRow_lit w _ 16 (zL _) (by unfold maxLen; omega) rfl, (zB _ _).alloc (zL _) _⟩
end Builtin
end Go.Proofs.YtnlgdkfenipmfaaGreatDoor
