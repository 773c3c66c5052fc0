/-
  Draws: spec.DrawIsSelector draws one of fifteen texts. It writes nothing that was there.
-/
import Derived.Test.YtfhjkicfnehjiaaDraw
namespace Go.Proofs.Ytfhjkicfnehjiaa.Draw
open Go.RowKit
open Cur

def sels : List ByteArray := [⟨#[97, 116, 58]⟩, ⟨#[97, 116, 58, 112, 117, 116, 58]⟩, ⟨#[115, 105, 122, 101]⟩, ⟨#[43]⟩, ⟨#[]⟩, ⟨#[97, 116, 58, 112, 117, 116]⟩, ⟨#[58]⟩, ⟨#[97, 58, 58]⟩, ⟨#[99, 108, 97, 115, 115]⟩, ⟨#[99, 108, 97, 115, 115, 58]⟩, ⟨#[49, 58]⟩, ⟨#[126, 61]⟩, ⟨#[97, 58, 98, 58, 99, 58, 100, 58]⟩, ⟨#[97, 58, 98, 58, 99, 58, 100, 58, 101, 58]⟩, ⟨#[97, 98, 99, 100, 101, 102, 103, 104, 105, 106, 107, 108, 109, 110, 111, 112, 113, 114, 115, 116, 117, 58]⟩]
theorem sels_bd : ∀ s ∈ sels, s.size ≤ 22 := by
  intro s hs
  simp only [sels, List.mem_cons, List.not_mem_nil, or_false] at hs
  rcases hs with rfl | rfl | rfl | rfl | rfl | rfl | rfl | rfl | rfl | rfl | rfl | rfl | rfl | rfl | rfl <;> decide
theorem sels_at (w : World) : ∀ j, j < 15 → (w.alloc (.cells #[.string ⟨#[97, 116, 58]⟩, .string ⟨#[97, 116, 58, 112, 117, 116, 58]⟩, .string ⟨#[115, 105, 122, 101]⟩, .string ⟨#[43]⟩, .string ⟨#[]⟩, .string ⟨#[97, 116, 58, 112, 117, 116]⟩, .string ⟨#[58]⟩, .string ⟨#[97, 58, 58]⟩, .string ⟨#[99, 108, 97, 115, 115]⟩, .string ⟨#[99, 108, 97, 115, 115, 58]⟩, .string ⟨#[49, 58]⟩, .string ⟨#[126, 61]⟩, .string ⟨#[97, 58, 98, 58, 99, 58, 100, 58]⟩, .string ⟨#[97, 58, 98, 58, 99, 58, 100, 58, 101, 58]⟩, .string ⟨#[97, 98, 99, 100, 101, 102, 103, 104, 105, 106, 107, 108, 109, 110, 111, 112, 113, 114, 115, 116, 117, 58]⟩] 9)).cell? ⟨w.heap.size, j, none⟩ = some (.string (sels.getD j ByteArray.empty)) := by
  intro j hj
  rw [World.cell?_alloc_mark w _ _ (0, 0) j]
  obtain rfl | rfl | rfl | rfl | rfl | rfl | rfl | rfl | rfl | rfl | rfl | rfl | rfl | rfl | rfl : j = 0 ∨ j = 1 ∨ j = 2 ∨ j = 3 ∨ j = 4 ∨ j = 5 ∨ j = 6 ∨ j = 7 ∨ j = 8 ∨ j = 9 ∨ j = 10 ∨ j = 11 ∨ j = 12 ∨ j = 13 ∨ j = 14 := by omega
  all_goals rfl

def DrawnSel (w : World) (e : Ending) (w' : World) : Prop := ∃ s : ByteArray, e = .returned (.string s) ∧ s.size ≤ 22 ∧ Below w.heap.size w w'

set_option maxHeartbeats 2000000 in
theorem sel_any (a : Option Addr) (len cap : Nat) (w : World) (hl : len ≤ 1048576) (hr : Raw w a len) :
    Calls Try.prog 8 #[.slice a len cap] w (DrawnSel w) := by
  have HR := Lib.hid hr; clear hr
  go_enter Try.func8, Try.ntmps8
  go_wp2_with fail
  refine (new_any a len cap w hl HR.out).mono ?_
  rintro e w1 ⟨rfl, hc, hb1, hs1⟩
  have HC := Lib.hid hc; clear hc
  have HB1 := Lib.hid hb1; clear hb1
  have HY := Lib.hid (HR.out.bytes HB1.out)
  generalize hG : w.heap.size = g at *
  have HG := Lib.hid hG; clear hG
  go_wp2_with fail
  refine (pick_any g a len cap w1.heap.size 15 15 sels _ rfl (by omega) (by omega) (by omega) (sels_at w1) (curKeep HC.out (alloc_below _ _)) (bytesKeep HY.out (alloc_below _ _))).mono ?_
  rintro e w2 ⟨s, hs, rfl, hc2, hg2⟩
  have hsz := sels_bd s hs
  have HG2 : Hid (w1.grownBy w2 (some g)) := grown_trans (World.grownBy_alloc w1 _ _) hg2
  clear hg2 hs hc2
  go_wp2_with fail
  go_ret
  exact ⟨s, rfl, hsz, by have := HG.out; subst this; exact cur_below HB1.out HG2.out⟩
end Go.Proofs.Ytfhjkicfnehjiaa.Draw
