/-
  Slices of texts that can be read: what that means, and that it is kept where nothing that was there is written.
  laws.eqStringS, markStringS and heldStringS over slices of texts: what they answer, and that they write nothing that was there but the marked row.
  strings.ReplaceAll answers as the library's contract says, at this program's own numbers.
  What the shape of the first world says of the library's variable, at this program's own numbers.
  That the library's variable internal/bytealg.MaxLen holds some integer: of the first world by its shape, and of every world behind it in which nothing that was there is written. strings.ReplaceAll under it.
-/
import Derived.Test.YtbflpocbjdccgaaGreatDoorRows
import Derived.Test.YtbflpocbjdccgaaGreatDoorBSpecSplit
import Derived.WalkKit
import Derived.WalkSpells
import Derived.Outline
import Derived.Lib.Hide
import Derived.Deep.QuietTactic
import Derived.BigQuiet
import Derived.WalkSmall
import Derived.Deep.RegionWith
import Derived.Deep.RegionHeld3
import Derived.Shelf.Strings.Replace
import Derived.Shelf.LaysM
import Derived.Lib.SplitLaws
namespace Go.Proofs.YtbflpocbjdccgaaGreatDoor.Strs
open Go.RowKit

/-- The slice value v reads as the texts xs. -/
def At (w : World) (v : Value) (xs : List ByteArray) : Prop :=
  ∃ a cap, v = .slice a xs.length cap ∧ xs.length ≤ maxLen ∧ (0 < xs.length → ∃ b off, a = some ⟨b, off, none⟩ ∧ ∀ j, j < xs.length → w.cell? ⟨b, off + j, none⟩ = some (.string (xs.getD j ByteArray.empty)))

theorem at_own {w : World} {base : Nat} {v : Value} {xs : List ByteArray} (h : w.ownsRow base 9 1 v xs.length (xs.map Value.string)) : At w v xs := by
  have h' := h
  obtain ⟨_, ⟨rfl, hn⟩ | ⟨g, cap, cur, rfl, _, hg, hnc, hcm, _, _⟩⟩ := h
  · exact ⟨none, 0, by rw [hn], by unfold maxLen; omega, fun hp => by omega⟩
  · refine ⟨_, cap, rfl, by omega, fun hp => ⟨g, 0, rfl, fun j hj => ?_⟩⟩
    rw [Nat.zero_add, h'.cellAt j (by omega)]
    simp [hj, List.getD]

theorem cell_lt {w : World} {a : Addr} {v : Value} (h : w.cell? a = some v) : a.block < w.heap.size := by
  rcases Nat.lt_or_ge a.block w.heap.size with h1 | h1
  · exact h1
  · have h2 : w.heap[a.block]? = none := by rw [Array.getElem?_eq_none_iff]; exact h1
    simp [World.cell?, h2] at h
theorem cell_keep {w w' : World} {b o : Nat} {v : Value} (hb : Below w.heap.size w w') (h : w.cell? ⟨b, o, none⟩ = some v) : w'.cell? ⟨b, o, none⟩ = some v := by
  rw [hb.cell (p := ⟨b, o, none⟩) (cell_lt h)]; exact h

theorem own_keep {w w' : World} {base : Nat} {e : TypeId} {size : Nat} {v : Value} {n : Nat} {xs : List Value} (h : w.ownsRow base e size v n xs) (hb : Below w.heap.size w w') : w'.ownsRow base e size v n xs := by
  have hlt := h.lt
  refine ⟨h.1, ?_⟩
  rcases h.2 with hn | ⟨g, cap, cur, rfl, hbg, hgg, rest⟩
  · exact .inl hn
  · exact .inr ⟨g, cap, cur, rfl, hbg, by rw [hb.block g (hlt g rfl).2]; exact hgg, rest⟩

theorem At.keep {w w' : World} {v : Value} {xs : List ByteArray} (h : At w v xs) (hb : Below w.heap.size w w') : At w' v xs := by
  obtain ⟨a, cap, rfl, hm, hc⟩ := h
  refine ⟨a, cap, rfl, hm, fun hp => ?_⟩
  obtain ⟨b, off, rfl, hd⟩ := hc hp
  exact ⟨b, off, rfl, fun j hj => cell_keep hb (hd j hj)⟩

end Go.Proofs.YtbflpocbjdccgaaGreatDoor.Strs

namespace Go.Proofs.YtbflpocbjdccgaaGreatDoor.Strs
open Go.RowKit

set_option maxHeartbeats 400000 in
theorem eq_nil (a1 a2 : Option Addr) (c1 c2 : Nat) (w : World) :
    Calls Tryz.prog 16 #[.slice a1 0 c1, .slice a2 0 c2] w fun e w' => e = .returned (.bool true) ∧ Below w.heap.size w w' := by
  go_enter Tryz.func16, Tryz.ntmps16
  go_wp2_with fail
  refine wp_loop_rounds 1 ?_
  rw [rounds_succ]
  go_wp2_with fail
  go_ret
  exact ⟨rfl, Below.refl _ _⟩

set_option maxHeartbeats 400000 in
theorem eq_cons (b1 o1 c1 b2 o2 c2 n : Nat) (xs : List ByteArray) (w : World) (hn : xs.length = n) (hm : n ≤ maxLen)
    (h1 : ∀ j, j < n → w.cell? ⟨b1, o1 + j, none⟩ = some (.string (xs.getD j ByteArray.empty))) (h2 : ∀ j, j < n → w.cell? ⟨b2, o2 + j, none⟩ = some (.string (xs.getD j ByteArray.empty))) :
    Calls Tryz.prog 16 #[.slice (some ⟨b1, o1, none⟩) n c1, .slice (some ⟨b2, o2, none⟩) n c2] w fun e w' => e = .returned (.bool true) ∧ Below w.heap.size w w' := by
  unfold maxLen at hm
  have H1 := Lib.hid h1; clear h1
  have H2 := Lib.hid h2; clear h2
  have HN := Lib.hid hn; clear hn
  go_enter Tryz.func16, Tryz.ntmps16
  go_wp2_with fail
  go_loopw [5] (fun j wr => ∃ i : Nat, i ≤ n ∧ j = .int .i64 i ∧ Below w.heap.size w wr) (fun j _ => n - (intOf j).toNat)
  case atStart => exact ⟨0, by omega, rfl, Below.refl _ _⟩
  case round =>
    obtain ⟨i, hi, rfl, hbw⟩ := hrel
    by_cases hlt : i < n
    · have hA := H1.out i hlt
      have hB := H2.out i hlt
      have hc1 : wr.cell? ⟨b1, o1 + i, none⟩ = some (.string (xs.getD i ByteArray.empty)) := cell_keep hbw hA
      have hc2 : wr.cell? ⟨b2, o2 + i, none⟩ = some (.string (xs.getD i ByteArray.empty)) := cell_keep hbw hB
      clear hA hB
      generalize xs.getD i ByteArray.empty = s at *
      go_wp2_with fail
      go_quiet (fail)
      go_wp2_with fail
      go_roundw
      case rel => exact ⟨i + 1, by omega, by go_num, below_drewN hbw _⟩
      case measure => simp [intOf]; omega
    · go_wp2_with fail
      go_ret
      exact ⟨rfl, hbw⟩

/-- Both slices read as the same texts: eqStringS says so. -/
theorem eq_same {w : World} {v1 v2 : Value} {xs : List ByteArray} (h1 : At w v1 xs) (h2 : At w v2 xs) :
    Calls Tryz.prog 16 #[v1, v2] w fun e w' => e = .returned (.bool true) ∧ Below w.heap.size w w' := by
  obtain ⟨a1, c1, rfl, hm, hc1⟩ := h1
  obtain ⟨a2, c2, rfl, _, hc2⟩ := h2
  by_cases hp : 0 < xs.length
  · obtain ⟨b1, o1, rfl, hd1⟩ := hc1 hp
    obtain ⟨b2, o2, rfl, hd2⟩ := hc2 hp
    exact eq_cons b1 o1 c1 b2 o2 c2 xs.length xs w rfl hm hd1 hd2
  · rw [show xs.length = 0 by omega]
    exact eq_nil a1 a2 c1 c2 w

/-- The marks from k on. -/
def marks (k : Nat) : Nat → List ByteArray
  | 0 => []
  | n + 1 => marks k n ++ [Mark.mark ((k + n : Nat) : Int)]
theorem marks_len (k n : Nat) : (marks k n).length = n := by
  induction n with
  | zero => rfl
  | succ n ih => simp [marks, ih]
theorem marks_at (k n : Nat) : ∀ j, j < n → (marks k n).getD j ByteArray.empty = Mark.mark ((k + j : Nat) : Int) := by
  induction n with
  | zero => intro j h; omega
  | succ n ih =>
    intro j h
    have hl := marks_len k n
    by_cases hj : j < n
    · rw [← ih j hj, marks, List.getD, List.getD, List.getElem?_append_left (by omega)]
    · have : j = n := by omega
      subst this
      rw [marks, List.getD, List.getElem?_append_right (by omega), hl]
      simp
theorem marks_set (k i : Nat) (xs : List ByteArray) (h : i < xs.length) : (marks k i ++ xs.drop i).set i (Mark.mark ((k + i : Nat) : Int)) = marks k (i + 1) ++ xs.drop (i + 1) := by
  have hl := marks_len k i
  rw [List.set_append_right _ _ (by omega), hl, Nat.sub_self, List.drop_eq_getElem_cons h, List.set_cons_zero, marks, List.append_assoc]
  rfl

set_option maxHeartbeats 1000000 in
theorem mark_row (g cap n base k : Nat) (K : Int) (xs : List ByteArray) (w : World) (hn : xs.length = n) (hK : K = k) (hk : 0 < k) (hkn : k + n ≤ 4611686018427387904)
    (hown : w.ownsRow base 9 1 (.slice (some ⟨g, 0, none⟩) n cap) n (xs.map Value.string)) :
    Calls Tryz.prog 18 #[.slice (some ⟨g, 0, none⟩) n cap, .int .i64 K] w fun e w' =>
      e = .returned (.int .i64 ((k + n : Nat) : Int)) ∧ w'.ownsRow base 9 1 (.slice (some ⟨g, 0, none⟩) n cap) n ((marks k n).map Value.string) ∧ Below base w w' := by
  obtain ⟨hbg, hgl⟩ := hown.lt g rfl
  subst hK
  have HN := Lib.hid hn; clear hn
  go_enter Tryz.func18, Tryz.ntmps18
  go_wp2_with fail
  go_loopw [1, 5] (fun q j wr => ∃ i : Nat, i ≤ n ∧ j = .int .i64 i ∧ q = .int .i64 ((k + i : Nat) : Int) ∧ wr.ownsRow base 9 1 (.slice (some ⟨g, 0, none⟩) n cap) n ((marks k i ++ xs.drop i).map Value.string) ∧ Below base w wr) (fun _ j _ => n - (intOf j).toNat)
  case atStart => exact ⟨0, by omega, rfl, rfl, by simpa [marks] using hown, Below.refl _ _⟩
  case round =>
    obtain ⟨i, hi, rfl, rfl, ho, hbw⟩ := hrel
    by_cases hlt : i < n
    · have HO := Lib.hid ho; clear ho
      have hpos : (0 : Int) < ((k + i : Nat) : Int) := by omega
      have hsm : ((k + i : Nat) : Int) ≤ 4611686018427387904 := by omega
      generalize hq : k + i = q at *
      have HQ := Lib.hid hq; clear hq
      go_wp2_with fail
      refine (Mark.mark_any (q : Int) wr hpos (by omega)).mono ?_
      rintro e w1 ⟨rfl, hb1⟩
      have HO1 := Lib.hid (own_keep HO.out hb1)
      have hlen : (marks k i ++ xs.drop i).length = n := by have := HN.out; have := marks_len k i; simp; omega
      have hcell : ∃ v, w1.cell? ⟨g, i, none⟩ = some v := by
        rw [HO1.out.cellAt _ (by omega)]
        exact ⟨_, List.getElem?_eq_getElem (by rw [List.length_map, hlen]; exact hlt)⟩
      obtain ⟨v, hcell⟩ := hcell
      have hfr : w1.frozen? ⟨g, i, none⟩ = false := HO1.out.frozenAt _
      have HB : Hid (Below base w w1) := hbw.trans (hb1.mono (by have := hbw.size; omega))
      have HM : Hid ((marks k i ++ xs.drop i).set i (Mark.mark (q : Int)) = marks k (i + 1) ++ xs.drop (i + 1)) := by rw [← HQ.out]; exact marks_set k i xs (by rw [HN.out]; exact hlt)
      clear hlen hb1 HO hbw
      generalize Mark.mark (q : Int) = mk at *
      go_wp2_with fail
      go_roundw
      case rel =>
        have HO2 := (HO1.out.stored i (.string mk)).1
        rw [← List.map_set, HM.out] at HO2
        exact ⟨i + 1, by omega, by go_num, by rw [← Nat.add_assoc, HQ.out]; go_num, HO2, HB.out.setCell hbg _⟩
      case measure => simp [intOf]; omega
    · have hin : i = n := by omega
      subst hin
      go_wp2_with fail
      go_ret
      exact ⟨rfl, by rw [List.drop_of_length_le (by rw [HN.out]; exact Nat.le_refl _), List.append_nil] at ho; exact ho, hbw⟩

set_option maxHeartbeats 1000000 in
theorem held_row (b off cap n k : Nat) (K : Int) (w : World) (hK : K = k) (hk : 0 < k) (hkn : k + n ≤ 4611686018427387904)
    (hc : ∀ j, j < n → w.cell? ⟨b, off + j, none⟩ = some (.string (Mark.mark ((k + j : Nat) : Int)))) :
    Calls Tryz.prog 20 #[.slice (some ⟨b, off, none⟩) n cap, .int .i64 K] w fun e w' =>
      e = .returned (.int .i64 ((k + n : Nat) : Int)) ∧ Below w.heap.size w w' := by
  subst hK
  have HC := Lib.hid hc; clear hc
  go_enter Tryz.func20, Tryz.ntmps20
  go_wp2_with fail
  go_loopw [1, 5] (fun q j wr => ∃ i : Nat, i ≤ n ∧ j = .int .i64 i ∧ q = .int .i64 ((k + i : Nat) : Int) ∧ Below w.heap.size w wr) (fun _ j _ => n - (intOf j).toNat)
  case atStart => exact ⟨0, by omega, rfl, rfl, Below.refl _ _⟩
  case round =>
    obtain ⟨i, hi, rfl, rfl, hbw⟩ := hrel
    by_cases hlt : i < n
    · have hcell := cell_keep hbw (HC.out i hlt)
      have hpos : (0 : Int) < ((k + i : Nat) : Int) := by omega
      have hsm : ((k + i : Nat) : Int) ≤ 4611686018427387904 := by omega
      generalize hq : k + i = q at *
      have HQ := Lib.hid hq; clear hq
      generalize hmk : Mark.mark (q : Int) = mk at *
      have HMK := Lib.hid hmk; clear hmk
      go_wp2_with fail
      go_region_held3 (fun w' => w'.cell? ⟨b, off + i, none⟩ = some (.string mk) ∧ Below w.heap.size w w')
        (first | exact ⟨hcell, hbw.drew⟩ | exact ⟨cell_keep hb1 (show wr.drew.cell? _ = _ from hcell), hbw.drew.trans (hb1.mono hbw.size)⟩ | go_keep)
        (first | (go_at_call 45; refine (Mark.mark_any (q : Int) _ hpos (by omega)).mono ?_; rintro e w1 ⟨rfl, hb1⟩; rw [HMK.out]))
      all_goals go_wp2_with fail
      go_roundw
      case rel => exact ⟨i + 1, by omega, by go_num, by rw [← Nat.add_assoc, HQ.out]; go_num, hbw.drew.trans (hb1.mono hbw.size)⟩
      case measure => simp [intOf]; omega
    · have hin : i = n := by omega
      subst hin
      go_wp2_with fail
      go_ret
      exact ⟨rfl, hbw⟩
end Go.Proofs.YtbflpocbjdccgaaGreatDoor.Strs

namespace Go.Proofs.YtbflpocbjdccgaaGreatDoor.Shelf
open Go.Shelf
def lays155_ren : Go.Shelf.Ren := ⟨fun | 155 => 112 | 154 => 130 | 138 => 132 | 165 => 143 | 143 => 144 | 166 => 145 | 197 => 125 | 169 => 146 | 195 => 147 | 218 => 148 | 240 => 154 | 241 => 155 | 219 => 128 | 260 => 137 | 276 => 157 | 277 => 158 | 217 => 139 | 225 => 140 | 224 => 141 | 267 => 142 | 266 => 152 | 314 => 153 | n => n, fun | 9 => 9 | 3 => 3 | 4 => 4 | 72 => 128 | 0 => 0 | 76 => 132 | 105 => 115 | 21 => 21 | 5 => 5 | 70 => 126 | 20 => 20 | 37 => 87 | 75 => 131 | 127 => 142 | 164 => 143 | 46 => 125 | 119 => 135 | 139 => 138 | 138 => 137 | 146 => 140 | 51 => 139 | 80 => 134 | n => n, fun | 1 => 0 | 3 => 1 | 4 => 2 | n => n⟩
theorem lays155 : Go.Proofs.Lays.n155 Tryz.prog lays155_ren := {
  mixed := by kernel_rfl
  f138 := Tryz.func132.trans (congrArg some (by kernel_rfl))
  f143 := Tryz.func144.trans (congrArg some (by kernel_rfl))
  f154 := Tryz.func130.trans (congrArg some (by kernel_rfl))
  f155 := Tryz.func112.trans (congrArg some (by kernel_rfl))
  f165 := Tryz.func143.trans (congrArg some (by kernel_rfl))
  f166 := Tryz.func145.trans (congrArg some (by kernel_rfl))
  f169 := Tryz.func146.trans (congrArg some (by kernel_rfl))
  f195 := Tryz.func147.trans (congrArg some (by kernel_rfl))
  f197 := Tryz.func125.trans (congrArg some (by kernel_rfl))
  f217 := Tryz.func139.trans (congrArg some (by kernel_rfl))
  f218 := Tryz.func148.trans (congrArg some (by kernel_rfl))
  f219 := Tryz.func128.trans (congrArg some (by kernel_rfl))
  f224 := Tryz.func141.trans (congrArg some (by kernel_rfl))
  f225 := Tryz.func140.trans (congrArg some (by kernel_rfl))
  f240 := Tryz.func154.trans (congrArg some (by kernel_rfl))
  f241 := Tryz.func155.trans (congrArg some (by kernel_rfl))
  f260 := Tryz.func137.trans (congrArg some (by kernel_rfl))
  f266 := Tryz.func152.trans (congrArg some (by kernel_rfl))
  f267 := Tryz.func142.trans (congrArg some (by kernel_rfl))
  f276 := Tryz.func157.trans (congrArg some (by kernel_rfl))
  f277 := Tryz.func158.trans (congrArg some (by kernel_rfl))
  f314 := Tryz.func153.trans (congrArg some (by kernel_rfl))
  t0 := Tryz.underlying0
  a0 := Tryz.isAgg0
  z0 := Tryz.sizeOf0
  v0 := Tryz.zeroValue0
  t3 := Tryz.underlying3
  a3 := Tryz.isAgg3
  z3 := Tryz.sizeOf3
  v3 := Tryz.zeroValue3
  t4 := Tryz.underlying4
  a4 := Tryz.isAgg4
  z4 := Tryz.sizeOf4
  v4 := Tryz.zeroValue4
  t5 := Tryz.underlying5
  a5 := Tryz.isAgg5
  z5 := Tryz.sizeOf5
  v5 := Tryz.zeroValue5
  t9 := Tryz.underlying9
  a9 := Tryz.isAgg9
  z9 := Tryz.sizeOf9
  v9 := Tryz.zeroValue9
  t20 := Tryz.underlying20
  a20 := Tryz.isAgg20
  z20 := Tryz.sizeOf20
  v20 := Tryz.zeroValue20
  t21 := Tryz.underlying21
  a21 := Tryz.isAgg21
  z21 := Tryz.sizeOf21
  v21 := Tryz.zeroValue21
  t37 := Tryz.underlying87
  a37 := Tryz.isAgg87
  z37 := Tryz.sizeOf87
  v37 := Tryz.zeroValue87
  t46 := Tryz.underlying125
  a46 := Tryz.isAgg125
  z46 := Tryz.sizeOf125
  v46 := Tryz.zeroValue125
  t51 := Tryz.underlying139
  a51 := Tryz.isAgg139
  z51 := Tryz.sizeOf139
  v51 := Tryz.zeroValue139
  t70 := Tryz.underlying126
  a70 := Tryz.isAgg126
  z70 := Tryz.sizeOf126
  v70 := Tryz.zeroValue126
  t72 := Tryz.underlying128
  a72 := Tryz.isAgg128
  z72 := Tryz.sizeOf128
  v72 := Tryz.zeroValue128
  t75 := Tryz.underlying131
  a75 := Tryz.isAgg131
  z75 := Tryz.sizeOf131
  v75 := Tryz.zeroValue131
  t76 := Tryz.underlying132
  a76 := Tryz.isAgg132
  z76 := Tryz.sizeOf132
  v76 := Tryz.zeroValue132
  t105 := Tryz.underlying115
  a105 := Tryz.isAgg115
  z105 := Tryz.sizeOf115
  v105 := Tryz.zeroValue115
  t119 := Tryz.underlying135
  a119 := Tryz.isAgg135
  z119 := Tryz.sizeOf135
  t127 := Tryz.underlying142
  a127 := Tryz.isAgg142
  z127 := Tryz.sizeOf142
  v127 := Tryz.zeroValue142
  t138 := Tryz.underlying137
  a138 := Tryz.isAgg137
  z138 := Tryz.sizeOf137
  v138 := Tryz.zeroValue137
  t139 := Tryz.underlying138
  a139 := Tryz.isAgg138
  z139 := Tryz.sizeOf138
  v139 := Tryz.zeroValue138
  t146 := Tryz.underlying140
  a146 := Tryz.isAgg140
  z146 := Tryz.sizeOf140
  v146 := Tryz.zeroValue140
  t164 := Tryz.underlying143
  a164 := Tryz.isAgg143
  z164 := Tryz.sizeOf143
  v164 := Tryz.zeroValue143
  g1 := by kernel_rfl
  g3 := by kernel_rfl
  g4 := by kernel_rfl }
theorem Builder_Extra_155 : Builder.Extra Tryz.prog lays155_ren := {
  sizeBuilder := by kernel_rfl
  liesBuilder := by kernel_rfl
  t5 := Tryz.underlying5
  a5 := Tryz.isAgg5
  z5 := Tryz.sizeOf5
  v5 := Tryz.zeroValue5
  infoByte := by kernel_rfl
  cellsByte := by kernel_rfl
  sizeByte := by kernel_rfl
  neB5 := by decide }
open Go.RowKit Go.Lib in
theorem strings_ReplaceAll (s old new : ByteArray) (m : Int) (w : World) (hs : s.size < 4294967281) (hm : w.cell? ⟨0, 0, none⟩ = some (.int .i64 m)) (h1 : 1 ≤ old.size) (hlen : s.size + Lib.countB s old * new.size ≤ 140737488355328) :
    Calls Tryz.prog 112 #[.string s, .string old, .string new] w fun e w' =>
      e = .returned (.string ⟨(Lib.replaceAll s.data.toList old.data.toList new.data.toList).toArray⟩) ∧ Below w.heap.size w w' := Any.strings_ReplaceAll lays155 Builder_Extra_155 s old new m w hs hm h1 hlen
end Go.Proofs.YtbflpocbjdccgaaGreatDoor.Shelf

namespace Go.Proofs.YtbflpocbjdccgaaGreatDoor.Shelf
open Go.Shelf
def laysM143_ren : Go.Shelf.Ren := ⟨fun | 143 => 144 | 219 => 128 | 217 => 139 | 225 => 140 | 224 => 141 | 267 => 142 | 266 => 152 | 314 => 153 | n => n, fun | 9 => 9 | 3 => 3 | 4 => 4 | 5 => 5 | 46 => 125 | 146 => 140 | 51 => 139 | n => n, fun | 1 => 0 | n => n⟩
theorem laysM143 : Go.Proofs.LaysM.n143 Tryz.prog laysM143_ren := {
  mixed := by kernel_rfl
  f143 := Tryz.func144.trans (congrArg some (by kernel_rfl))
  f217 := Tryz.func139.trans (congrArg some (by kernel_rfl))
  f219 := Tryz.func128.trans (congrArg some (by kernel_rfl))
  f224 := Tryz.func141.trans (congrArg some (by kernel_rfl))
  f225 := Tryz.func140.trans (congrArg some (by kernel_rfl))
  f266 := Tryz.func152.trans (congrArg some (by kernel_rfl))
  f267 := Tryz.func142.trans (congrArg some (by kernel_rfl))
  f314 := Tryz.func153.trans (congrArg some (by kernel_rfl))
  t3 := Tryz.underlying3
  a3 := Tryz.isAgg3
  z3 := Tryz.sizeOf3
  v3 := Tryz.zeroValue3
  t4 := Tryz.underlying4
  a4 := Tryz.isAgg4
  z4 := Tryz.sizeOf4
  v4 := Tryz.zeroValue4
  t5 := Tryz.underlying5
  a5 := Tryz.isAgg5
  z5 := Tryz.sizeOf5
  v5 := Tryz.zeroValue5
  t9 := Tryz.underlying9
  a9 := Tryz.isAgg9
  z9 := Tryz.sizeOf9
  v9 := Tryz.zeroValue9
  t46 := Tryz.underlying125
  a46 := Tryz.isAgg125
  z46 := Tryz.sizeOf125
  v46 := Tryz.zeroValue125
  t51 := Tryz.underlying139
  a51 := Tryz.isAgg139
  z51 := Tryz.sizeOf139
  v51 := Tryz.zeroValue139
  t146 := Tryz.underlying140
  a146 := Tryz.isAgg140
  z146 := Tryz.sizeOf140
  v146 := Tryz.zeroValue140
  g1 := by kernel_rfl
  i3 := by kernel_rfl
  i4 := by kernel_rfl
  i5 := by kernel_rfl
  i9 := by kernel_rfl
  i46 := by kernel_rfl
  i51 := by kernel_rfl
  i146 := by kernel_rfl
  m1 := by kernel_rfl
  s1_3 := fun w h => Go.Proofs.cell_of_shapedOpen_int (zero := #[.int .i64 0]) (t := 3) h (of_decide_eq_true (by kernel_rfl)) (by kernel_rfl) rfl (by kernel_rfl) (by kernel_rfl) Tryz.underlying3 }
end Go.Proofs.YtbflpocbjdccgaaGreatDoor.Shelf

namespace Go.Proofs.YtbflpocbjdccgaaGreatDoor.Strs
open Go.RowKit

def Max (w : World) : Prop := ∃ m, w.cell? ⟨0, 0, none⟩ = some (.int .i64 m)
theorem max_of {w : World} (h : w.ShapedOpen Tryz.prog) : Max w := Shelf.laysM143.s1_3 w h
theorem Max.keep {w w' : World} (h : Max w) (hb : Below w.heap.size w w') : Max w' := by
  obtain ⟨m, h⟩ := h
  exact ⟨m, cell_keep hb h⟩
theorem rep_any (s old new : ByteArray) (w : World) (h : Max w) (hs : s.size ≤ 1048576) (h1 : 1 ≤ old.size) (hn : new.size ≤ 2) :
    Calls Tryz.prog 112 #[.string s, .string old, .string new] w fun e w' =>
      e = .returned (.string ⟨(Lib.replaceAll s.data.toList old.data.toList new.data.toList).toArray⟩) ∧ Below w.heap.size w w' := by
  obtain ⟨m, h⟩ := h
  have hc := Lib.countB_le old h1 s.size s (Nat.le_refl _)
  have hm : Lib.countB s old * new.size ≤ s.size * 2 := Nat.mul_le_mul hc hn
  exact Shelf.strings_ReplaceAll s old new m w (by omega) h h1 (by omega)
end Go.Proofs.YtbflpocbjdccgaaGreatDoor.Strs
