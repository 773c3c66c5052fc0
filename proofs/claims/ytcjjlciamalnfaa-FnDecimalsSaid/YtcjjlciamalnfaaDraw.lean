/-
  Draws: spec.l1New makes a cursor; l1Pick and l1PickInt pick an element of a list; l1Whole and DrawFormatInt draw an integer; DrawSplitByte draws a text and a byte. They write nothing that was there but the cursor.
-/
import Derived.Test.YtcjjlciamalnfaaCur
import Derived.OpenShut
namespace Go.Proofs.Ytcjjlciamalnfaa.Draw
open Go.RowKit
open Cur

/-- The slice's bytes, wherever they lie. -/
def Raw (w : World) (a : Option Addr) (len : Nat) : Prop :=
  0 < len → ∃ b off, a = some ⟨b, off, none⟩ ∧ ∀ j, j < len → ∃ n : Int, w.cell? ⟨b, off + j, none⟩ = some (.int .u8 n) ∧ 0 ≤ n ∧ n ≤ 255
theorem raw_of {w : World} {a : Option Addr} {len cap : Nat} {z : List Int} (h : Kit.IsRow .u8 w a len cap z) : Raw w a len := by
  intro hp
  rcases h with ⟨_, rfl, _, _⟩ | ⟨x, rfl, hl, hm, hz, hc, hw⟩
  · omega
  · obtain ⟨b, off, spot⟩ := x
    have hc0 := hc 0 (by omega)
    have hspot : spot = none := by simpa [Addr.add] using World.cell?_spot hc0
    subst hspot
    refine ⟨b, off, rfl, fun j hj => ?_⟩
    have h1 := hc j (by omega)
    have e : (⟨b, off, none⟩ : Addr).add j = ⟨b, off + j, none⟩ := by unfold Addr.add; split <;> simp_all
    rw [e] at h1
    have hjl : j < z.length := by omega
    have h2 := bounds_u8 (hw (z.getD j 0) (by simp [List.getD, hjl]))
    exact ⟨_, h1, h2.1, h2.2⟩
theorem Raw.keep {w w' : World} {a : Option Addr} {len : Nat} (h : Raw w a len) (hb : Below w.heap.size w w') : Raw w' a len := by
  intro hp
  obtain ⟨b, off, rfl, hc⟩ := h hp
  refine ⟨b, off, rfl, fun j hj => ?_⟩
  obtain ⟨n, hn, h1⟩ := hc j hj
  exact ⟨n, by rw [hb.cell (p := ⟨b, off + j, none⟩) (cell_lt hn)]; exact hn, h1⟩
theorem Raw.bytes {w w' : World} {a : Option Addr} {len : Nat} (h : Raw w a len) (hb : Below w.heap.size w w') : Bytes w' w.heap.size a len := by
  intro hp
  obtain ⟨b, off, rfl, hc⟩ := h hp
  refine ⟨b, off, rfl, ?_, fun j hj => ?_⟩
  · obtain ⟨n, hn, _⟩ := hc 0 hp
    have := cell_lt hn
    simp at this; omega
  · obtain ⟨n, hn, h1⟩ := hc j hj
    exact ⟨n, by rw [hb.cell (p := ⟨b, off + j, none⟩) (cell_lt hn)]; exact hn, h1⟩

/-- A new cursor. -/
def Made (a : Option Addr) (len cap : Nat) (w : World) (e : Ending) (w' : World) : Prop :=
  e = .returned (.pointer (some ⟨w.heap.size, 0, none⟩)) ∧ Cur w' w.heap.size a len cap ∧ Below w.heap.size w w' ∧ w.heap.size < w'.heap.size

theorem made_new (a : Option Addr) (len cap : Nat) (x : Int) (w : World) (hm : len ≤ maxLen) :
    Made a len cap w (.returned (.pointer (some ⟨w.heap.size, 0, none⟩))) (w.alloc (.cells #[.slice a len cap, .int .i64 0, .int .i64 x] 54)) := by
  refine ⟨rfl, ⟨0, x, Nat.zero_le _, hm, ?_, ?_, ?_, fun o => ?_⟩, (Below.refl _ _).alloc (Nat.le_refl _) _, by simp⟩
  · exact World.cell?_alloc_mark w _ _ (0, 0) 0
  · exact World.cell?_alloc_mark w _ _ (0, 0) 1
  · exact World.cell?_alloc_mark w _ _ (0, 0) 2
  · exact (World.frozen?_alloc_mark w _ _ 0 0 o).trans (by simp)

set_option maxHeartbeats 1000000 in
theorem new_any (a : Option Addr) (len cap : Nat) (w : World) (hl : len ≤ 1048576) (hr : Raw w a len) :
    Calls Try.prog 28 #[.slice a len cap] w (Made a len cap w) := by
  have HR := Lib.hid hr; clear hr
  go_enter Try.func28, Try.ntmps28
  go_wp2_with fail
  go_loop [3, 4] (fun h j => ∃ (i : Nat) (x : Int), i ≤ len ∧ j = .int .i64 i ∧ h = .int .i64 x) (fun _ j => len - (intOf j).toNat)
  case atStart => exact ⟨0, _, by omega, rfl, rfl⟩
  case round =>
    obtain ⟨i, x, hi, rfl, rfl⟩ := hrel
    by_cases hlt : i < len
    · by_cases h4 : (i : Int) < 4000
      · obtain ⟨b, off, rfl, hc⟩ := HR.out (by omega)
        obtain ⟨n, hn, hn0, hn1⟩ := hc i hlt
        clear hc
        go_wp2_with fail
        go_round
        case rel => exact ⟨i + 1, _, by omega, by go_num, rfl⟩
        case measure => simp [intOf]; omega
      · go_wp2_with fail
        go_ret
        exact made_new a len cap x w (by unfold maxLen; omega)
    · go_wp2_with fail
      go_ret
      exact made_new a len cap x w (by unfold maxLen; omega)

/-- One of the texts of the list at block b. -/
def PickStr (xs : List ByteArray) (g : Nat) (a : Option Addr) (len cap : Nat) (w : World) (e : Ending) (w' : World) : Prop :=
  ∃ s : ByteArray, s ∈ xs ∧ e = .returned (.string s) ∧ Cur w' g a len cap ∧ w.grownBy w' (some g)

set_option maxHeartbeats 1000000 in
theorem pick_any (g : Nat) (a : Option Addr) (len cap : Nat) (b n c : Nat) (xs : List ByteArray) (w : World) (hn : xs.length = n) (h0 : 0 < n) (h1 : n ≤ 1048576) (hne : b ≠ g) (hcells : ∀ j, j < n → w.cell? ⟨b, j, none⟩ = some (.string (xs.getD j ByteArray.empty))) (hc : Cur w g a len cap) (hb : Bytes w g a len) :
    Calls Try.prog 33 #[.pointer (some ⟨g, 0, none⟩), .slice (some ⟨b, 0, none⟩) n c] w (PickStr xs g a len cap w) := by
  have HC := Lib.hid hc; clear hc
  have HB := Lib.hid hb; clear hb
  have HS := Lib.hid hcells; clear hcells
  have HN := Lib.hid hn; clear hn
  go_enter Try.func33, Try.ntmps33
  go_wp2_with fail
  refine (below_any g a len cap n w (by omega) (by omega) HC.out HB.out).mono ?_
  rintro e w1 ⟨x, rfl, hx0, hx1, hc1, hg1⟩
  obtain ⟨j, rfl⟩ := Int.eq_ofNat_of_zero_le hx0
  have hj : j < n := by omega
  have hcell := grown_cell hg1 hne (HS.out j hj)
  have HM : Hid (xs.getD j ByteArray.empty ∈ xs) := by
    have h2 : j < xs.length := by rw [HN.out]; exact hj
    show _ ∈ _
    rw [List.getD, List.getElem?_eq_getElem h2]; exact List.getElem_mem h2
  generalize xs.getD j ByteArray.empty = s at *
  clear HS
  have HG := Lib.hid hg1
  have HC1 := Lib.hid hc1
  clear hg1 hc1
  go_wp2_with fail
  go_ret
  exact ⟨s, HM.out, rfl, HC1.out, HG.out⟩

/-- One of the numbers of the list at block b. -/
def PickInt (xs : List Int) (g : Nat) (a : Option Addr) (len cap : Nat) (w : World) (e : Ending) (w' : World) : Prop :=
  ∃ s : Int, s ∈ xs ∧ e = .returned (.int .i64 s) ∧ Cur w' g a len cap ∧ w.grownBy w' (some g)

set_option maxHeartbeats 1000000 in
theorem pickint_any (g : Nat) (a : Option Addr) (len cap : Nat) (b n c : Nat) (xs : List Int) (w : World) (hn : xs.length = n) (h0 : 0 < n) (h1 : n ≤ 1048576) (hne : b ≠ g) (hcells : ∀ j, j < n → w.cell? ⟨b, j, none⟩ = some (.int .i64 (xs.getD j 0))) (hc : Cur w g a len cap) (hb : Bytes w g a len) :
    Calls Try.prog 34 #[.pointer (some ⟨g, 0, none⟩), .slice (some ⟨b, 0, none⟩) n c] w (PickInt xs g a len cap w) := by
  have HC := Lib.hid hc; clear hc
  have HB := Lib.hid hb; clear hb
  have HS := Lib.hid hcells; clear hcells
  have HN := Lib.hid hn; clear hn
  go_enter Try.func34, Try.ntmps34
  go_wp2_with fail
  refine (below_any g a len cap n w (by omega) (by omega) HC.out HB.out).mono ?_
  rintro e w1 ⟨x, rfl, hx0, hx1, hc1, hg1⟩
  obtain ⟨j, rfl⟩ := Int.eq_ofNat_of_zero_le hx0
  have hj : j < n := by omega
  have hcell := grown_cell hg1 hne (HS.out j hj)
  have HM : Hid (xs.getD j 0 ∈ xs) := by
    have h2 : j < xs.length := by rw [HN.out]; exact hj
    show _ ∈ _
    rw [List.getD, List.getElem?_eq_getElem h2]; exact List.getElem_mem h2
  generalize xs.getD j 0 = s at *
  clear HS
  have HG := Lib.hid hg1
  have HC1 := Lib.hid hc1
  clear hg1 hc1
  go_wp2_with fail
  go_ret
  exact ⟨s, HM.out, rfl, HC1.out, HG.out⟩

theorem Cur.keepB {w w' : World} {g : Nat} {a : Option Addr} {len cap : Nat} (h : Cur w g a len cap) (hb : Below w.heap.size w w') : Cur w' g a len cap := by
  obtain ⟨i, x, hi, hm, h0, h1, h2, hf⟩ := h
  have hg : g < w.heap.size := cell_lt h0
  exact ⟨i, x, hi, hm, (hb.cell (p := ⟨g, 0, none⟩) hg).trans h0, (hb.cell (p := ⟨g, 1, none⟩) hg).trans h1, (hb.cell (p := ⟨g, 2, none⟩) hg).trans h2, fun o => (hb.frozen (p := ⟨g, o, none⟩) hg).trans (hf o)⟩
theorem Bytes.keepB {w w' : World} {g : Nat} {a : Option Addr} {len : Nat} (h : Bytes w g a len) (hb : Below w.heap.size w w') : Bytes w' g a len := by
  intro hp
  obtain ⟨b, off, rfl, hne, hc⟩ := h hp
  refine ⟨b, off, rfl, hne, fun j hj => ?_⟩
  obtain ⟨n, hn, h1⟩ := hc j hj
  exact ⟨n, (hb.cell (p := ⟨b, off + j, none⟩) (cell_lt hn)).trans hn, h1⟩
theorem Cur.lt {w : World} {g : Nat} {a : Option Addr} {len cap : Nat} (h : Cur w g a len cap) : g < w.heap.size := by
  obtain ⟨i, x, hi, hm, h0, _⟩ := h
  exact cell_lt h0
theorem alloc_below (w : World) (o : Obj) : Below w.heap.size w (w.alloc o) := (Below.refl _ _).alloc (Nat.le_refl _) o

def wholes : List Int := [0, 1, -1, 9, 10, 999999, 1000000, 999999999999, 1000000000000, -999999999999, 9223372036854775807, -9223372036854775808]
theorem wholes_bd : ∀ n ∈ wholes, -9223372036854775808 ≤ n ∧ n ≤ 9223372036854775807 := by
  intro n hn
  simp only [wholes, List.mem_cons, List.not_mem_nil, or_false] at hn
  omega
theorem wholes_at (w : World) : ∀ j, j < 12 → (w.alloc (.cells #[.int .i64 0, .int .i64 1, .int .i64 (-1), .int .i64 9, .int .i64 10, .int .i64 999999, .int .i64 1000000, .int .i64 999999999999, .int .i64 1000000000000, .int .i64 (-999999999999), .int .i64 9223372036854775807, .int .i64 (-9223372036854775808)] 3)).cell? ⟨w.heap.size, j, none⟩ = some (.int .i64 (wholes.getD j 0)) := by
  intro j hj
  rw [World.cell?_alloc_mark w _ _ (0, 0) j]
  obtain rfl | rfl | rfl | rfl | rfl | rfl | rfl | rfl | rfl | rfl | rfl | rfl : j = 0 ∨ j = 1 ∨ j = 2 ∨ j = 3 ∨ j = 4 ∨ j = 5 ∨ j = 6 ∨ j = 7 ∨ j = 8 ∨ j = 9 ∨ j = 10 ∨ j = 11 := by omega
  all_goals rfl

/-- Some integer. -/
def Whole (g : Nat) (w : World) (e : Ending) (w' : World) : Prop :=
  ∃ n : Int, e = .returned (.int .i64 n) ∧ -9223372036854775808 ≤ n ∧ n ≤ 9223372036854775807 ∧ w.grownBy w' (some g)

set_option maxHeartbeats 1000000 in
theorem whole_any (g : Nat) (a : Option Addr) (len cap : Nat) (w : World) (hc : Cur w g a len cap) (hb : Bytes w g a len) :
    Calls Try.prog 27 #[.pointer (some ⟨g, 0, none⟩)] w (Whole g w) := by
  have HC := Lib.hid hc; clear hc
  have HB := Lib.hid hb; clear hb
  go_enter Try.func27, Try.ntmps27
  go_wp2_with fail
  refine (below_any g a len cap 3 w (by omega) (by omega) HC.out HB.out).mono ?_
  rintro e w1 ⟨x, rfl, hx0, hx1, hc1, hg1⟩
  have HC1 := Lib.hid hc1
  have HG1 := Lib.hid hg1
  clear hc1 hg1
  have hcs : x = 0 ∨ x = 1 ∨ x = 2 := by omega
  have HB1 := Lib.hid (HB.out.keep HG1.out)
  have hlt := Cur.lt HC1.out
  rcases hcs with rfl | rfl | rfl
  · go_wp2_with fail
    refine (pickint_any g a len cap w1.heap.size 12 12 wholes _ rfl (by omega) (by omega) (by omega) (wholes_at w1) (Cur.keepB HC1.out (alloc_below _ _)) (Bytes.keepB HB1.out (alloc_below _ _))).mono ?_
    rintro e w2 ⟨n, hn, rfl, hc2, hg2⟩
    have hbd := wholes_bd n hn
    have HG2 : Hid (w.grownBy w2 (some g)) := grown_trans (grown_trans HG1.out (World.grownBy_alloc w1 _ _)) hg2
    clear hc2 hg2 hn
    go_wp2_with fail
    go_ret
    exact ⟨n, rfl, hbd.1, hbd.2, HG2.out⟩
  · go_wp2_with fail
    refine (below_any g a len cap 1000000 w1 (by omega) (by omega) HC1.out HB1.out).mono ?_
    rintro e w2 ⟨n, rfl, hn0, hn1, hc2, hg2⟩
    have HG2 : Hid (w.grownBy w2 (some g)) := grown_trans HG1.out hg2
    clear hc2 hg2
    go_wp2_with fail
    go_ret
    exact ⟨_, rfl, by omega, by omega, HG2.out⟩
  · go_wp2_with fail
    refine (below_any g a len cap 20 w1 (by omega) (by omega) HC1.out HB1.out).mono ?_
    rintro e w2 ⟨n, rfl, hn0, hn1, hc2, hg2⟩
    have HG2 : Hid (w.grownBy w2 (some g)) := grown_trans HG1.out hg2
    clear hc2 hg2
    go_wp2_with fail
    go_ret
    exact ⟨_, rfl, by omega, by omega, HG2.out⟩

/-- What was there before the cursor is as it was. -/
theorem cur_below {w w1 w2 : World} (h : Below w.heap.size w w1) (hg : w1.grownBy w2 (some w.heap.size)) : Below w.heap.size w w2 :=
  h.grown hg h.size (fun k hk => by rw [Option.some.injEq] at hk; omega)

def Drawn (w : World) (e : Ending) (w' : World) : Prop := ∃ n : Int, e = .returned (.int .i64 n) ∧ -9223372036854775808 ≤ n ∧ n ≤ 9223372036854775807 ∧ Below w.heap.size w w'

set_option maxHeartbeats 1000000 in
theorem int_any (a : Option Addr) (len cap : Nat) (w : World) (hl : len ≤ 1048576) (hr : Raw w a len) :
    Calls Try.prog 10 #[.slice a len cap] w (Drawn w) := by
  have HR := Lib.hid hr; clear hr
  go_enter Try.func10, Try.ntmps10
  go_wp2_with fail
  refine (new_any a len cap w hl HR.out).mono ?_
  rintro e w1 ⟨rfl, hc, hb1, hs1⟩
  have HC := Lib.hid hc; clear hc
  have HB1 := Lib.hid hb1; clear hb1
  have HY := Lib.hid (HR.out.bytes HB1.out)
  generalize hG : w.heap.size = g at *
  have HG := Lib.hid hG; clear hG
  go_wp2_with fail
  refine (whole_any g a len cap w1 HC.out HY.out).mono ?_
  rintro e w2 ⟨n, rfl, h1, h2, hg⟩
  have HG2 := Lib.hid hg; clear hg
  go_wp2_with fail
  go_ret
  exact ⟨n, rfl, h1, h2, by have := HG.out; subst this; exact cur_below HB1.out HG2.out⟩

def texts : List ByteArray := [⟨#[]⟩, ⟨#[97]⟩, ⟨#[97, 44, 98]⟩, ⟨#[44]⟩, ⟨#[97, 44, 44, 98, 44]⟩, ⟨#[97, 10, 98, 10]⟩]
theorem texts_bd : ∀ s ∈ texts, s.size ≤ 5 := by
  intro s hs
  simp only [texts, List.mem_cons, List.not_mem_nil, or_false] at hs
  rcases hs with rfl | rfl | rfl | rfl | rfl | rfl <;> decide
theorem texts_at (w : World) : ∀ j, j < 6 → (w.alloc (.cells #[.string ⟨#[]⟩, .string ⟨#[97]⟩, .string ⟨#[97, 44, 98]⟩, .string ⟨#[44]⟩, .string ⟨#[97, 44, 44, 98, 44]⟩, .string ⟨#[97, 10, 98, 10]⟩] 9)).cell? ⟨w.heap.size, j, none⟩ = some (.string (texts.getD j ByteArray.empty)) := by
  intro j hj
  rw [World.cell?_alloc_mark w _ _ (0, 0) j]
  obtain rfl | rfl | rfl | rfl | rfl | rfl : j = 0 ∨ j = 1 ∨ j = 2 ∨ j = 3 ∨ j = 4 ∨ j = 5 := by omega
  all_goals rfl
theorem bys_at (w : World) : ∀ j, j < 2 → (w.alloc (.cells #[.int .i64 44, .int .i64 10] 3)).cell? ⟨w.heap.size, j, none⟩ = some (.int .i64 (([44, 10] : List Int).getD j 0)) := by
  intro j hj
  rw [World.cell?_alloc_mark w _ _ (0, 0) j]
  obtain rfl | rfl : j = 0 ∨ j = 1 := by omega
  all_goals rfl

def DrawnText (w : World) (e : Ending) (w' : World) : Prop := ∃ (s : ByteArray) (b : Int), e = .returned (.tuple #[.string s, .int .u8 b]) ∧ s.size ≤ 5 ∧ 0 ≤ b ∧ b ≤ 255 ∧ Below w.heap.size w w'

set_option maxHeartbeats 1000000 in
theorem text_any (a : Option Addr) (len cap : Nat) (w : World) (hl : len ≤ 1048576) (hr : Raw w a len) :
    Calls Try.prog 13 #[.slice a len cap] w (DrawnText w) := by
  have HR := Lib.hid hr; clear hr
  go_enter Try.func13, Try.ntmps13
  go_wp2_with fail
  refine (new_any a len cap w hl HR.out).mono ?_
  rintro e w1 ⟨rfl, hc, hb1, hs1⟩
  have HC := Lib.hid hc; clear hc
  have HB1 := Lib.hid hb1; clear hb1
  have HY := Lib.hid (HR.out.bytes HB1.out)
  generalize hG : w.heap.size = g at *
  have HG := Lib.hid hG; clear hG
  go_wp2_with fail
  refine (pick_any g a len cap w1.heap.size 6 6 texts _ rfl (by omega) (by omega) (by omega) (texts_at w1) (Cur.keepB HC.out (alloc_below _ _)) (Bytes.keepB HY.out (alloc_below _ _))).mono ?_
  rintro e w2 ⟨s, hs, rfl, hc2, hg2⟩
  have hsz := texts_bd s hs
  have HC2 := Lib.hid hc2; clear hc2
  have HY2 := Lib.hid ((Bytes.keepB HY.out (alloc_below _ _)).keep hg2)
  have HG2 : Hid (w1.grownBy w2 (some g)) := grown_trans (World.grownBy_alloc w1 _ _) hg2
  have hlt2 := Cur.lt HC2.out
  clear hg2 hs
  go_wp2_with fail
  refine (pickint_any g a len cap w2.heap.size 2 2 [44, 10] _ rfl (by omega) (by omega) (by omega) (bys_at w2) (Cur.keepB HC2.out (alloc_below _ _)) (Bytes.keepB HY2.out (alloc_below _ _))).mono ?_
  rintro e w3 ⟨b, hb, rfl, hc3, hg3⟩
  have HG3 : Hid (w1.grownBy w3 (some g)) := grown_trans (grown_trans HG2.out (World.grownBy_alloc w2 _ _)) hg3
  have hb2 : b = 44 ∨ b = 10 := by simpa using hb
  have hb3 : 0 ≤ b := by omega
  have hb4 : b ≤ 255 := by omega
  clear hc3 hg3 hb hb2
  go_wp2_with fail
  go_ret2
  exact ⟨s, b, rfl, hsz, hb3, hb4, by have := HG.out; subst this; exact cur_below HB1.out HG3.out⟩
end Go.Proofs.Ytcjjlciamalnfaa.Draw
