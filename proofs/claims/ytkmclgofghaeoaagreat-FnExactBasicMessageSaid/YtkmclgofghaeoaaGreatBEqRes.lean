/-
  laws.eqResult of a result and itself.
-/
import Derived.Test.YtkmclgofghaeoaaGreatBSpecBasB
namespace Go.Proofs.YtkmclgofghaeoaaGreat.EqRes
open Go.RowKit
open Strs Sto Bas SpecBas
set_option maxHeartbeats 2000000 in
theorem eqv_same (k n : Int) (t : ByteArray) (w : World) : Calls Tryz.prog 22 #[.agg #[.int .i64 k, .int .i64 n, .string t], .agg #[.int .i64 k, .int .i64 n, .string t]] w fun e w' => e = .returned (.bool true) ∧ Below w.heap.size w w' := by
  have HB : ∀ cs ds, Hid (Below w.heap.size w ((w.alloc (.cells cs 27)).alloc (.cells ds 27))) := fun cs ds => Lib.hid (((Below.refl _ _).alloc (Nat.le_refl _) _).alloc (by simp) _)
  go_enter Tryz.func22, Tryz.ntmps22
  go_wp2_with fail
  go_ret
  exact ⟨rfl, (HB _ _).out⟩
set_option maxHeartbeats 2000000 in
theorem eqr_same (r : R) (w : World) : Calls Tryz.prog 10 #[r.val, r.val] w fun e w' => e = .returned (.bool true) ∧ Below w.heap.size w w' := by
  obtain ⟨c, k, n, t, x⟩ := r
  unfold R.val
  simp only
  have KV := fun w' => Lib.hid (eqv_same k n t w')
  obtain ⟨W, hW⟩ : ∃ W, W = ((w.alloc (.cells #[.int .i64 c, .int .i64 k, .int .i64 n, .string t, .string x] 29)).alloc (.cells #[.int .i64 c, .int .i64 k, .int .i64 n, .string t, .string x] 29)) := ⟨_, rfl⟩
  have hb : Below w.heap.size w W := by rw [hW]; exact ((Below.refl _ _).alloc (Nat.le_refl _) _).alloc (by simp) _
  have x0 : W.cell? ⟨w.heap.size, 4, none⟩ = some (.string x) := by rw [hW]; go_simp
  have x1 : W.cell? ⟨w.heap.size + 1, 4, none⟩ = some (.string x) := by rw [hW]; go_simp
  have HB := Lib.hid hb
  have X0 := Lib.hid x0
  have X1 := Lib.hid x1
  rw [hW] at HB X0 X1
  clear hb x0 x1 hW W
  go_enter Tryz.func10, Tryz.ntmps10
  go_wp2_with fail
  refine (KV _).out.mono ?_
  rintro e w1 ⟨rfl, hb1⟩
  have y0 := cell_keep hb1 X0.out
  have y1 := cell_keep hb1 X1.out
  have HB1 := Lib.hid (HB.out.trans (hb1.mono HB.out.size))
  clear hb1 HB X0 X1 KV
  go_wp2_with fail
  go_ret
  exact ⟨rfl, HB1.out⟩
end Go.Proofs.YtkmclgofghaeoaaGreat.EqRes
