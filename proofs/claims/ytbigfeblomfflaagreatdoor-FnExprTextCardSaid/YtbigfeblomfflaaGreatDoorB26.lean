/-
  WritePart
-/
import Derived.Test.YtbigfeblomfflaaGreatDoorB24
namespace Go.Proofs.YtbigfeblomfflaaGreatDoor
namespace Wri
open Go.RowKit
open Strs Tree Bld Prn
set_option linter.unusedVariables false
set_option maxRecDepth 10000 in
set_option maxHeartbeats 2000000 in
theorem part1 {w0 : World} {b : Nat} {l : List UInt8} {w : World} (h : St w0 b l w) (t : ByteArray) (n : Int) (a : Option Addr) (p c : Nat) (a' : Option Addr) (p' c' : Nat) (need : Nat) (ht : t.size <= 1048576) (X : List UInt8)
    (hX : ∀ l w, St w0 b l w -> l.length + X.length <= 140737488355328 -> Calls Tryz.prog 295 #[.agg #[.int .i64 3, .string ByteArray.empty, .int .i64 n], .pointer (some ⟨b, 0, none⟩)] w (Wrote w0 b (l ++ X) w))
    (hn : need <= 4) (hlen : l.length + X.length <= 140737488355328) :
    Calls Tryz.prog 38 #[.pointer (some ⟨b, 0, none⟩), .agg #[.int .i64 1, .string t, .int .i64 n, .slice a p c, .slice a' p' c'], .int .i64 (need : Int)] w (Wrote w0 b (l ++ X) w) := by
  have hba : Below w.heap.size w (w.alloc (.cells #[.int .i64 1, .string t, .int .i64 n, .slice a p c, .slice a' p' c'] 27)) := (zB _ _).alloc (zL _) _
  have HA := zH hba
  have HS := zH (h.below hba)
  clear h hba
  have KF := fun w => zH (Form.form_of 1 t n a p c a' p' c' w (by decide))
  rw [Form.iface1] at KF
  have KB := fun w => zH (Form.binding_leafForm (#[.int .i64 3, .string ByteArray.empty, .int .i64 n]) w)
  have KX := fun l w h hl => zH (hX l w h hl)
  clear hX
  have tg : decide ((need : Int) <= 4) = true := by rw [decide_eq_true_eq]; omega
  have hmeth := method_leafForm
  go_enter Tryz.func38, Tryz.ntmps38
  go_wp2_with fail
  refine (KF _).out.mono ?_
  rintro e w1 ⟨rfl, hb1⟩
  go_wp2_with fail
  refine (KB _).out.mono ?_
  rintro e w2 ⟨rfl, hb2⟩
  have HB := zH (hb1.trans (hb2.mono hb1.size))
  clear hb1 hb2
  go_wp2_with fail
  refine (KX _ _ (HS.out.below HB.out) hlen).out.mono ?_
  rintro e w3 ⟨rfl, hs3, hf3⟩
  go_wp2_with fail
  go_end0
  exact ⟨rfl, hs3, ((Fr.of_below HA.out).below HB.out).trans hf3⟩
set_option maxRecDepth 10000 in
set_option maxHeartbeats 2000000 in
theorem part2 {w0 : World} {b : Nat} {l : List UInt8} {w : World} (h : St w0 b l w) (t : ByteArray) (n : Int) (a : Option Addr) (p c : Nat) (a' : Option Addr) (p' c' : Nat) (need : Nat) (ht : t.size <= 1048576) (X : List UInt8)
    (hX : ∀ l w, St w0 b l w -> l.length + X.length <= 140737488355328 -> Calls Tryz.prog 295 #[.agg #[.int .i64 4, .string t, .int .i64 0], .pointer (some ⟨b, 0, none⟩)] w (Wrote w0 b (l ++ X) w))
    (hn : need <= 4) (hlen : l.length + X.length <= 140737488355328) :
    Calls Tryz.prog 38 #[.pointer (some ⟨b, 0, none⟩), .agg #[.int .i64 2, .string t, .int .i64 n, .slice a p c, .slice a' p' c'], .int .i64 (need : Int)] w (Wrote w0 b (l ++ X) w) := by
  have hba : Below w.heap.size w (w.alloc (.cells #[.int .i64 2, .string t, .int .i64 n, .slice a p c, .slice a' p' c'] 27)) := (zB _ _).alloc (zL _) _
  have HA := zH hba
  have HS := zH (h.below hba)
  clear h hba
  have KF := fun w => zH (Form.form_of 2 t n a p c a' p' c' w (by decide))
  rw [Form.iface2] at KF
  have KB := fun w => zH (Form.binding_leafForm (#[.int .i64 4, .string t, .int .i64 0]) w)
  have KX := fun l w h hl => zH (hX l w h hl)
  clear hX
  have tg : decide ((need : Int) <= 4) = true := by rw [decide_eq_true_eq]; omega
  have hmeth := method_leafForm
  go_enter Tryz.func38, Tryz.ntmps38
  go_wp2_with fail
  refine (KF _).out.mono ?_
  rintro e w1 ⟨rfl, hb1⟩
  go_wp2_with fail
  refine (KB _).out.mono ?_
  rintro e w2 ⟨rfl, hb2⟩
  have HB := zH (hb1.trans (hb2.mono hb1.size))
  clear hb1 hb2
  go_wp2_with fail
  refine (KX _ _ (HS.out.below HB.out) hlen).out.mono ?_
  rintro e w3 ⟨rfl, hs3, hf3⟩
  go_wp2_with fail
  go_end0
  exact ⟨rfl, hs3, ((Fr.of_below HA.out).below HB.out).trans hf3⟩
set_option maxRecDepth 10000 in
set_option maxHeartbeats 2000000 in
theorem part3 {w0 : World} {b : Nat} {l : List UInt8} {w : World} (h : St w0 b l w) (t : ByteArray) (n : Int) (a : Option Addr) (p c : Nat) (a' : Option Addr) (p' c' : Nat) (need : Nat) (ht : t.size <= 1048576) (X : List UInt8)
    (hX : ∀ l w, St w0 b l w -> l.length + X.length <= 140737488355328 -> Calls Tryz.prog 295 #[.agg #[.int .i64 5, .string t, .int .i64 0], .pointer (some ⟨b, 0, none⟩)] w (Wrote w0 b (l ++ X) w))
    (hn : need <= 4) (hlen : l.length + X.length <= 140737488355328) :
    Calls Tryz.prog 38 #[.pointer (some ⟨b, 0, none⟩), .agg #[.int .i64 3, .string t, .int .i64 n, .slice a p c, .slice a' p' c'], .int .i64 (need : Int)] w (Wrote w0 b (l ++ X) w) := by
  have hba : Below w.heap.size w (w.alloc (.cells #[.int .i64 3, .string t, .int .i64 n, .slice a p c, .slice a' p' c'] 27)) := (zB _ _).alloc (zL _) _
  have HA := zH hba
  have HS := zH (h.below hba)
  clear h hba
  have KF := fun w => zH (Form.form_of 3 t n a p c a' p' c' w (by decide))
  rw [Form.iface3] at KF
  have KB := fun w => zH (Form.binding_leafForm (#[.int .i64 5, .string t, .int .i64 0]) w)
  have KX := fun l w h hl => zH (hX l w h hl)
  clear hX
  have tg : decide ((need : Int) <= 4) = true := by rw [decide_eq_true_eq]; omega
  have hmeth := method_leafForm
  go_enter Tryz.func38, Tryz.ntmps38
  go_wp2_with fail
  refine (KF _).out.mono ?_
  rintro e w1 ⟨rfl, hb1⟩
  go_wp2_with fail
  refine (KB _).out.mono ?_
  rintro e w2 ⟨rfl, hb2⟩
  have HB := zH (hb1.trans (hb2.mono hb1.size))
  clear hb1 hb2
  go_wp2_with fail
  refine (KX _ _ (HS.out.below HB.out) hlen).out.mono ?_
  rintro e w3 ⟨rfl, hs3, hf3⟩
  go_wp2_with fail
  go_end0
  exact ⟨rfl, hs3, ((Fr.of_below HA.out).below HB.out).trans hf3⟩
set_option maxRecDepth 10000 in
set_option maxHeartbeats 2000000 in
theorem part4 {w0 : World} {b : Nat} {l : List UInt8} {w : World} (h : St w0 b l w) (t : ByteArray) (n : Int) (a : Option Addr) (p c : Nat) (a' : Option Addr) (p' c' : Nat) (need : Nat) (ht : t.size <= 1048576) (X : List UInt8)
    (hX : ∀ l w, St w0 b l w -> l.length + X.length <= 140737488355328 -> Calls Tryz.prog 295 #[.agg #[.int .i64 1, .string t, .int .i64 0], .pointer (some ⟨b, 0, none⟩)] w (Wrote w0 b (l ++ X) w))
    (hn : need <= 4) (hlen : l.length + X.length <= 140737488355328) :
    Calls Tryz.prog 38 #[.pointer (some ⟨b, 0, none⟩), .agg #[.int .i64 4, .string t, .int .i64 n, .slice a p c, .slice a' p' c'], .int .i64 (need : Int)] w (Wrote w0 b (l ++ X) w) := by
  have hba : Below w.heap.size w (w.alloc (.cells #[.int .i64 4, .string t, .int .i64 n, .slice a p c, .slice a' p' c'] 27)) := (zB _ _).alloc (zL _) _
  have HA := zH hba
  have HS := zH (h.below hba)
  clear h hba
  have KF := fun w => zH (Form.form_of 4 t n a p c a' p' c' w (by decide))
  rw [Form.iface4] at KF
  have KB := fun w => zH (Form.binding_leafForm (#[.int .i64 1, .string t, .int .i64 0]) w)
  have KX := fun l w h hl => zH (hX l w h hl)
  clear hX
  have tg : decide ((need : Int) <= 4) = true := by rw [decide_eq_true_eq]; omega
  have hmeth := method_leafForm
  go_enter Tryz.func38, Tryz.ntmps38
  go_wp2_with fail
  refine (KF _).out.mono ?_
  rintro e w1 ⟨rfl, hb1⟩
  go_wp2_with fail
  refine (KB _).out.mono ?_
  rintro e w2 ⟨rfl, hb2⟩
  have HB := zH (hb1.trans (hb2.mono hb1.size))
  clear hb1 hb2
  go_wp2_with fail
  refine (KX _ _ (HS.out.below HB.out) hlen).out.mono ?_
  rintro e w3 ⟨rfl, hs3, hf3⟩
  go_wp2_with fail
  go_end0
  exact ⟨rfl, hs3, ((Fr.of_below HA.out).below HB.out).trans hf3⟩
set_option maxRecDepth 10000 in
set_option maxHeartbeats 2000000 in
theorem part5 {w0 : World} {b : Nat} {l : List UInt8} {w : World} (h : St w0 b l w) (t : ByteArray) (n : Int) (a : Option Addr) (p c : Nat) (a' : Option Addr) (p' c' : Nat) (need : Nat) (ht : t.size <= 1048576) (X : List UInt8)
    (hX : ∀ l w, St w0 b l w -> l.length + X.length <= 140737488355328 -> Calls Tryz.prog 300 #[.agg #[.int .i64 5, .string t, .int .i64 n, .slice a p c, .slice a' p' c'], .pointer (some ⟨b, 0, none⟩)] w (Wrote w0 b (l ++ X) w))
    (hn : need <= 0) (hlen : l.length + X.length <= 140737488355328) :
    Calls Tryz.prog 38 #[.pointer (some ⟨b, 0, none⟩), .agg #[.int .i64 5, .string t, .int .i64 n, .slice a p c, .slice a' p' c'], .int .i64 (need : Int)] w (Wrote w0 b (l ++ X) w) := by
  have hba : Below w.heap.size w (w.alloc (.cells #[.int .i64 5, .string t, .int .i64 n, .slice a p c, .slice a' p' c'] 27)) := (zB _ _).alloc (zL _) _
  have HA := zH hba
  have HS := zH (h.below hba)
  clear h hba
  have KF := fun w => zH (Form.form_of 5 t n a p c a' p' c' w (by decide))
  rw [Form.iface5] at KF
  have KB := fun w => zH (Form.binding_assignForm (#[.int .i64 5, .string t, .int .i64 n, .slice a p c, .slice a' p' c']) w)
  have KX := fun l w h hl => zH (hX l w h hl)
  clear hX
  have tg : decide ((need : Int) <= 0) = true := by rw [decide_eq_true_eq]; omega
  have hmeth := method_assignForm
  go_enter Tryz.func38, Tryz.ntmps38
  go_wp2_with fail
  refine (KF _).out.mono ?_
  rintro e w1 ⟨rfl, hb1⟩
  go_wp2_with fail
  refine (KB _).out.mono ?_
  rintro e w2 ⟨rfl, hb2⟩
  have HB := zH (hb1.trans (hb2.mono hb1.size))
  clear hb1 hb2
  go_wp2_with fail
  refine (KX _ _ (HS.out.below HB.out) hlen).out.mono ?_
  rintro e w3 ⟨rfl, hs3, hf3⟩
  go_wp2_with fail
  go_end0
  exact ⟨rfl, hs3, ((Fr.of_below HA.out).below HB.out).trans hf3⟩
set_option maxRecDepth 10000 in
set_option maxHeartbeats 2000000 in
theorem part5p {w0 : World} {b : Nat} {l : List UInt8} {w : World} (h : St w0 b l w) (t : ByteArray) (n : Int) (a : Option Addr) (p c : Nat) (a' : Option Addr) (p' c' : Nat) (need : Nat) (ht : t.size <= 1048576) (X : List UInt8)
    (hX : ∀ l w, St w0 b l w -> l.length + X.length <= 140737488355328 -> Calls Tryz.prog 300 #[.agg #[.int .i64 5, .string t, .int .i64 n, .slice a p c, .slice a' p' c'], .pointer (some ⟨b, 0, none⟩)] w (Wrote w0 b (l ++ X) w))
    (hn : 0 < need) (hlen : l.length + (40 :: (X ++ [41])).length <= 140737488355328) :
    Calls Tryz.prog 38 #[.pointer (some ⟨b, 0, none⟩), .agg #[.int .i64 5, .string t, .int .i64 n, .slice a p c, .slice a' p' c'], .int .i64 (need : Int)] w (Wrote w0 b (l ++ (40 :: (X ++ [41]))) w) := by
  have hba : Below w.heap.size w (w.alloc (.cells #[.int .i64 5, .string t, .int .i64 n, .slice a p c, .slice a' p' c'] 27)) := (zB _ _).alloc (zL _) _
  have HA := zH hba
  have HS := zH (h.below hba)
  clear h hba
  have KF := fun w => zH (Form.form_of 5 t n a p c a' p' c' w (by decide))
  rw [Form.iface5] at KF
  have KB := fun w => zH (Form.binding_assignForm (#[.int .i64 5, .string t, .int .i64 n, .slice a p c, .slice a' p' c']) w)
  have KX := fun l w h hl => zH (hX l w h hl)
  clear hX
  have tg : decide ((need : Int) <= 0) = false := by rw [decide_eq_false_iff_not]; omega
  have hl2 : l.length + X.length + 2 <= 140737488355328 := by simp at hlen; omega
  have HL := zH hl2
  clear hl2 hlen
  have KO := fun w1 (h : St w0 b l w1) => zH (put_byte h 40 (by have := HL.out; omega))
  have KC := fun w1 (h : St w0 b (l ++ [40] ++ X) w1) => zH (put_byte h 41 (by have := HL.out; simp; omega))
  have hmeth := method_assignForm
  go_enter Tryz.func38, Tryz.ntmps38
  go_wp2_with fail
  refine (KF _).out.mono ?_
  rintro e w1 ⟨rfl, hb1⟩
  go_wp2_with fail
  refine (KB _).out.mono ?_
  rintro e w2 ⟨rfl, hb2⟩
  have HB := zH (hb1.trans (hb2.mono hb1.size))
  clear hb1 hb2
  go_wp2_with fail
  refine (KO _ (HS.out.below HB.out)).out.mono ?_
  rintro e w3 ⟨rfl, hs3, hf3⟩
  have HS3 := zH hs3
  have HF3 := zH hf3
  clear hs3 hf3
  go_wp2_with fail
  refine (KX _ _ HS3.out (by have := HL.out; simp; omega)).out.mono ?_
  rintro e w4 ⟨rfl, hs4, hf4⟩
  have HS4 := zH hs4
  have HF4 := zH hf4
  clear hs4 hf4
  go_wp2_with fail
  refine (KC _ HS4.out).out.mono ?_
  rintro e w5 ⟨rfl, hs5, hf5⟩
  go_wp2_with fail
  go_end0
  exact ⟨rfl, by simpa using hs5, (((Fr.of_below HA.out).below HB.out).trans (HF3.out.trans HF4.out)).trans hf5⟩
set_option maxRecDepth 10000 in
set_option maxHeartbeats 2000000 in
theorem part6 {w0 : World} {b : Nat} {l : List UInt8} {w : World} (h : St w0 b l w) (t : ByteArray) (n : Int) (a : Option Addr) (p c : Nat) (a' : Option Addr) (p' c' : Nat) (need : Nat) (ht : t.size <= 1048576) (X : List UInt8)
    (hX : ∀ l w, St w0 b l w -> l.length + X.length <= 140737488355328 -> Calls Tryz.prog 301 #[.agg #[.int .i64 6, .string t, .int .i64 n, .slice a p c, .slice a' p' c'], .pointer (some ⟨b, 0, none⟩)] w (Wrote w0 b (l ++ X) w))
    (hn : need <= (bindSel t)) (hlen : l.length + X.length <= 140737488355328) :
    Calls Tryz.prog 38 #[.pointer (some ⟨b, 0, none⟩), .agg #[.int .i64 6, .string t, .int .i64 n, .slice a p c, .slice a' p' c'], .int .i64 (need : Int)] w (Wrote w0 b (l ++ X) w) := by
  have hba : Below w.heap.size w (w.alloc (.cells #[.int .i64 6, .string t, .int .i64 n, .slice a p c, .slice a' p' c'] 27)) := (zB _ _).alloc (zL _) _
  have HA := zH hba
  have HS := zH (h.below hba)
  clear h hba
  have KF := fun w => zH (Form.form_of 6 t n a p c a' p' c' w (by decide))
  rw [Form.iface6] at KF
  have KB := fun w => zH (Form.binding_send t n a p c a' p' c' w ht)
  have KX := fun l w h hl => zH (hX l w h hl)
  clear hX
  generalize hB : bindSel t = B at *
  have tg : decide ((need : Int) <= (B : Int)) = true := by rw [decide_eq_true_eq]; omega
  clear hB
  have hmeth := method_sendForm
  go_enter Tryz.func38, Tryz.ntmps38
  go_wp2_with fail
  refine (KF _).out.mono ?_
  rintro e w1 ⟨rfl, hb1⟩
  go_wp2_with fail
  refine (KB _).out.mono ?_
  rintro e w2 ⟨rfl, hb2⟩
  have HB := zH (hb1.trans (hb2.mono hb1.size))
  clear hb1 hb2
  go_wp2_with fail
  refine (KX _ _ (HS.out.below HB.out) hlen).out.mono ?_
  rintro e w3 ⟨rfl, hs3, hf3⟩
  go_wp2_with fail
  go_end0
  exact ⟨rfl, hs3, ((Fr.of_below HA.out).below HB.out).trans hf3⟩
set_option maxRecDepth 10000 in
set_option maxHeartbeats 2000000 in
theorem part6p {w0 : World} {b : Nat} {l : List UInt8} {w : World} (h : St w0 b l w) (t : ByteArray) (n : Int) (a : Option Addr) (p c : Nat) (a' : Option Addr) (p' c' : Nat) (need : Nat) (ht : t.size <= 1048576) (X : List UInt8)
    (hX : ∀ l w, St w0 b l w -> l.length + X.length <= 140737488355328 -> Calls Tryz.prog 301 #[.agg #[.int .i64 6, .string t, .int .i64 n, .slice a p c, .slice a' p' c'], .pointer (some ⟨b, 0, none⟩)] w (Wrote w0 b (l ++ X) w))
    (hn : (bindSel t) < need) (hlen : l.length + (40 :: (X ++ [41])).length <= 140737488355328) :
    Calls Tryz.prog 38 #[.pointer (some ⟨b, 0, none⟩), .agg #[.int .i64 6, .string t, .int .i64 n, .slice a p c, .slice a' p' c'], .int .i64 (need : Int)] w (Wrote w0 b (l ++ (40 :: (X ++ [41]))) w) := by
  have hba : Below w.heap.size w (w.alloc (.cells #[.int .i64 6, .string t, .int .i64 n, .slice a p c, .slice a' p' c'] 27)) := (zB _ _).alloc (zL _) _
  have HA := zH hba
  have HS := zH (h.below hba)
  clear h hba
  have KF := fun w => zH (Form.form_of 6 t n a p c a' p' c' w (by decide))
  rw [Form.iface6] at KF
  have KB := fun w => zH (Form.binding_send t n a p c a' p' c' w ht)
  have KX := fun l w h hl => zH (hX l w h hl)
  clear hX
  generalize hB : bindSel t = B at *
  have tg : decide ((need : Int) <= (B : Int)) = false := by rw [decide_eq_false_iff_not]; omega
  clear hB
  have hl2 : l.length + X.length + 2 <= 140737488355328 := by simp at hlen; omega
  have HL := zH hl2
  clear hl2 hlen
  have KO := fun w1 (h : St w0 b l w1) => zH (put_byte h 40 (by have := HL.out; omega))
  have KC := fun w1 (h : St w0 b (l ++ [40] ++ X) w1) => zH (put_byte h 41 (by have := HL.out; simp; omega))
  have hmeth := method_sendForm
  go_enter Tryz.func38, Tryz.ntmps38
  go_wp2_with fail
  refine (KF _).out.mono ?_
  rintro e w1 ⟨rfl, hb1⟩
  go_wp2_with fail
  refine (KB _).out.mono ?_
  rintro e w2 ⟨rfl, hb2⟩
  have HB := zH (hb1.trans (hb2.mono hb1.size))
  clear hb1 hb2
  go_wp2_with fail
  refine (KO _ (HS.out.below HB.out)).out.mono ?_
  rintro e w3 ⟨rfl, hs3, hf3⟩
  have HS3 := zH hs3
  have HF3 := zH hf3
  clear hs3 hf3
  go_wp2_with fail
  refine (KX _ _ HS3.out (by have := HL.out; simp; omega)).out.mono ?_
  rintro e w4 ⟨rfl, hs4, hf4⟩
  have HS4 := zH hs4
  have HF4 := zH hf4
  clear hs4 hf4
  go_wp2_with fail
  refine (KC _ HS4.out).out.mono ?_
  rintro e w5 ⟨rfl, hs5, hf5⟩
  go_wp2_with fail
  go_end0
  exact ⟨rfl, by simpa using hs5, (((Fr.of_below HA.out).below HB.out).trans (HF3.out.trans HF4.out)).trans hf5⟩
set_option maxRecDepth 10000 in
set_option maxHeartbeats 2000000 in
theorem part7 {w0 : World} {b : Nat} {l : List UInt8} {w : World} (h : St w0 b l w) (t : ByteArray) (n : Int) (a : Option Addr) (p c : Nat) (a' : Option Addr) (p' c' : Nat) (need : Nat) (ht : t.size <= 1048576) (X : List UInt8)
    (hX : ∀ l w, St w0 b l w -> l.length + X.length <= 140737488355328 -> Calls Tryz.prog 303 #[.agg #[.int .i64 7, .string t, .int .i64 n, .slice a p c, .slice a' p' c'], .pointer (some ⟨b, 0, none⟩)] w (Wrote w0 b (l ++ X) w))
    (hn : need <= 0) (hlen : l.length + X.length <= 140737488355328) :
    Calls Tryz.prog 38 #[.pointer (some ⟨b, 0, none⟩), .agg #[.int .i64 7, .string t, .int .i64 n, .slice a p c, .slice a' p' c'], .int .i64 (need : Int)] w (Wrote w0 b (l ++ X) w) := by
  have hba : Below w.heap.size w (w.alloc (.cells #[.int .i64 7, .string t, .int .i64 n, .slice a p c, .slice a' p' c'] 27)) := (zB _ _).alloc (zL _) _
  have HA := zH hba
  have HS := zH (h.below hba)
  clear h hba
  have KF := fun w => zH (Form.form_of 7 t n a p c a' p' c' w (by decide))
  rw [Form.iface7] at KF
  have KB := fun w => zH (Form.binding_cascadeForm (#[.int .i64 7, .string t, .int .i64 n, .slice a p c, .slice a' p' c']) w)
  have KX := fun l w h hl => zH (hX l w h hl)
  clear hX
  have tg : decide ((need : Int) <= 0) = true := by rw [decide_eq_true_eq]; omega
  have hmeth := method_cascadeForm
  go_enter Tryz.func38, Tryz.ntmps38
  go_wp2_with fail
  refine (KF _).out.mono ?_
  rintro e w1 ⟨rfl, hb1⟩
  go_wp2_with fail
  refine (KB _).out.mono ?_
  rintro e w2 ⟨rfl, hb2⟩
  have HB := zH (hb1.trans (hb2.mono hb1.size))
  clear hb1 hb2
  go_wp2_with fail
  refine (KX _ _ (HS.out.below HB.out) hlen).out.mono ?_
  rintro e w3 ⟨rfl, hs3, hf3⟩
  go_wp2_with fail
  go_end0
  exact ⟨rfl, hs3, ((Fr.of_below HA.out).below HB.out).trans hf3⟩
set_option maxRecDepth 10000 in
set_option maxHeartbeats 2000000 in
theorem part7p {w0 : World} {b : Nat} {l : List UInt8} {w : World} (h : St w0 b l w) (t : ByteArray) (n : Int) (a : Option Addr) (p c : Nat) (a' : Option Addr) (p' c' : Nat) (need : Nat) (ht : t.size <= 1048576) (X : List UInt8)
    (hX : ∀ l w, St w0 b l w -> l.length + X.length <= 140737488355328 -> Calls Tryz.prog 303 #[.agg #[.int .i64 7, .string t, .int .i64 n, .slice a p c, .slice a' p' c'], .pointer (some ⟨b, 0, none⟩)] w (Wrote w0 b (l ++ X) w))
    (hn : 0 < need) (hlen : l.length + (40 :: (X ++ [41])).length <= 140737488355328) :
    Calls Tryz.prog 38 #[.pointer (some ⟨b, 0, none⟩), .agg #[.int .i64 7, .string t, .int .i64 n, .slice a p c, .slice a' p' c'], .int .i64 (need : Int)] w (Wrote w0 b (l ++ (40 :: (X ++ [41]))) w) := by
  have hba : Below w.heap.size w (w.alloc (.cells #[.int .i64 7, .string t, .int .i64 n, .slice a p c, .slice a' p' c'] 27)) := (zB _ _).alloc (zL _) _
  have HA := zH hba
  have HS := zH (h.below hba)
  clear h hba
  have KF := fun w => zH (Form.form_of 7 t n a p c a' p' c' w (by decide))
  rw [Form.iface7] at KF
  have KB := fun w => zH (Form.binding_cascadeForm (#[.int .i64 7, .string t, .int .i64 n, .slice a p c, .slice a' p' c']) w)
  have KX := fun l w h hl => zH (hX l w h hl)
  clear hX
  have tg : decide ((need : Int) <= 0) = false := by rw [decide_eq_false_iff_not]; omega
  have hl2 : l.length + X.length + 2 <= 140737488355328 := by simp at hlen; omega
  have HL := zH hl2
  clear hl2 hlen
  have KO := fun w1 (h : St w0 b l w1) => zH (put_byte h 40 (by have := HL.out; omega))
  have KC := fun w1 (h : St w0 b (l ++ [40] ++ X) w1) => zH (put_byte h 41 (by have := HL.out; simp; omega))
  have hmeth := method_cascadeForm
  go_enter Tryz.func38, Tryz.ntmps38
  go_wp2_with fail
  refine (KF _).out.mono ?_
  rintro e w1 ⟨rfl, hb1⟩
  go_wp2_with fail
  refine (KB _).out.mono ?_
  rintro e w2 ⟨rfl, hb2⟩
  have HB := zH (hb1.trans (hb2.mono hb1.size))
  clear hb1 hb2
  go_wp2_with fail
  refine (KO _ (HS.out.below HB.out)).out.mono ?_
  rintro e w3 ⟨rfl, hs3, hf3⟩
  have HS3 := zH hs3
  have HF3 := zH hf3
  clear hs3 hf3
  go_wp2_with fail
  refine (KX _ _ HS3.out (by have := HL.out; simp; omega)).out.mono ?_
  rintro e w4 ⟨rfl, hs4, hf4⟩
  have HS4 := zH hs4
  have HF4 := zH hf4
  clear hs4 hf4
  go_wp2_with fail
  refine (KC _ HS4.out).out.mono ?_
  rintro e w5 ⟨rfl, hs5, hf5⟩
  go_wp2_with fail
  go_end0
  exact ⟨rfl, by simpa using hs5, (((Fr.of_below HA.out).below HB.out).trans (HF3.out.trans HF4.out)).trans hf5⟩
set_option maxRecDepth 10000 in
set_option maxHeartbeats 2000000 in
theorem part8 {w0 : World} {b : Nat} {l : List UInt8} {w : World} (h : St w0 b l w) (t : ByteArray) (n : Int) (a : Option Addr) (p c : Nat) (a' : Option Addr) (p' c' : Nat) (need : Nat) (ht : t.size <= 1048576) (X : List UInt8)
    (hX : ∀ l w, St w0 b l w -> l.length + X.length <= 140737488355328 -> Calls Tryz.prog 304 #[.agg #[.int .i64 8, .string t, .int .i64 n, .slice a p c, .slice a' p' c'], .pointer (some ⟨b, 0, none⟩)] w (Wrote w0 b (l ++ X) w))
    (hn : need <= 4) (hlen : l.length + X.length <= 140737488355328) :
    Calls Tryz.prog 38 #[.pointer (some ⟨b, 0, none⟩), .agg #[.int .i64 8, .string t, .int .i64 n, .slice a p c, .slice a' p' c'], .int .i64 (need : Int)] w (Wrote w0 b (l ++ X) w) := by
  have hba : Below w.heap.size w (w.alloc (.cells #[.int .i64 8, .string t, .int .i64 n, .slice a p c, .slice a' p' c'] 27)) := (zB _ _).alloc (zL _) _
  have HA := zH hba
  have HS := zH (h.below hba)
  clear h hba
  have KF := fun w => zH (Form.form_of 8 t n a p c a' p' c' w (by decide))
  rw [Form.iface8] at KF
  have KB := fun w => zH (Form.binding_blockForm (#[.int .i64 8, .string t, .int .i64 n, .slice a p c, .slice a' p' c']) w)
  have KX := fun l w h hl => zH (hX l w h hl)
  clear hX
  have tg : decide ((need : Int) <= 4) = true := by rw [decide_eq_true_eq]; omega
  have hmeth := method_blockForm
  go_enter Tryz.func38, Tryz.ntmps38
  go_wp2_with fail
  refine (KF _).out.mono ?_
  rintro e w1 ⟨rfl, hb1⟩
  go_wp2_with fail
  refine (KB _).out.mono ?_
  rintro e w2 ⟨rfl, hb2⟩
  have HB := zH (hb1.trans (hb2.mono hb1.size))
  clear hb1 hb2
  go_wp2_with fail
  refine (KX _ _ (HS.out.below HB.out) hlen).out.mono ?_
  rintro e w3 ⟨rfl, hs3, hf3⟩
  go_wp2_with fail
  go_end0
  exact ⟨rfl, hs3, ((Fr.of_below HA.out).below HB.out).trans hf3⟩
set_option maxRecDepth 10000 in
set_option maxHeartbeats 2000000 in
theorem part9 {w0 : World} {b : Nat} {l : List UInt8} {w : World} (h : St w0 b l w) (t : ByteArray) (n : Int) (a : Option Addr) (p c : Nat) (a' : Option Addr) (p' c' : Nat) (need : Nat) (ht : t.size <= 1048576) (X : List UInt8)
    (hX : ∀ l w, St w0 b l w -> l.length + X.length <= 140737488355328 -> Calls Tryz.prog 305 #[.agg #[.int .i64 9, .string t, .int .i64 n, .slice a p c, .slice a' p' c'], .pointer (some ⟨b, 0, none⟩)] w (Wrote w0 b (l ++ X) w))
    (hn : need <= 0) (hlen : l.length + X.length <= 140737488355328) :
    Calls Tryz.prog 38 #[.pointer (some ⟨b, 0, none⟩), .agg #[.int .i64 9, .string t, .int .i64 n, .slice a p c, .slice a' p' c'], .int .i64 (need : Int)] w (Wrote w0 b (l ++ X) w) := by
  have hba : Below w.heap.size w (w.alloc (.cells #[.int .i64 9, .string t, .int .i64 n, .slice a p c, .slice a' p' c'] 27)) := (zB _ _).alloc (zL _) _
  have HA := zH hba
  have HS := zH (h.below hba)
  clear h hba
  have KF := fun w => zH (Form.form_of 9 t n a p c a' p' c' w (by decide))
  rw [Form.iface9] at KF
  have KB := fun w => zH (Form.binding_returnForm (#[.int .i64 9, .string t, .int .i64 n, .slice a p c, .slice a' p' c']) w)
  have KX := fun l w h hl => zH (hX l w h hl)
  clear hX
  have tg : decide ((need : Int) <= 0) = true := by rw [decide_eq_true_eq]; omega
  have hmeth := method_returnForm
  go_enter Tryz.func38, Tryz.ntmps38
  go_wp2_with fail
  refine (KF _).out.mono ?_
  rintro e w1 ⟨rfl, hb1⟩
  go_wp2_with fail
  refine (KB _).out.mono ?_
  rintro e w2 ⟨rfl, hb2⟩
  have HB := zH (hb1.trans (hb2.mono hb1.size))
  clear hb1 hb2
  go_wp2_with fail
  refine (KX _ _ (HS.out.below HB.out) hlen).out.mono ?_
  rintro e w3 ⟨rfl, hs3, hf3⟩
  go_wp2_with fail
  go_end0
  exact ⟨rfl, hs3, ((Fr.of_below HA.out).below HB.out).trans hf3⟩
set_option maxRecDepth 10000 in
set_option maxHeartbeats 2000000 in
theorem part9p {w0 : World} {b : Nat} {l : List UInt8} {w : World} (h : St w0 b l w) (t : ByteArray) (n : Int) (a : Option Addr) (p c : Nat) (a' : Option Addr) (p' c' : Nat) (need : Nat) (ht : t.size <= 1048576) (X : List UInt8)
    (hX : ∀ l w, St w0 b l w -> l.length + X.length <= 140737488355328 -> Calls Tryz.prog 305 #[.agg #[.int .i64 9, .string t, .int .i64 n, .slice a p c, .slice a' p' c'], .pointer (some ⟨b, 0, none⟩)] w (Wrote w0 b (l ++ X) w))
    (hn : 0 < need) (hlen : l.length + (40 :: (X ++ [41])).length <= 140737488355328) :
    Calls Tryz.prog 38 #[.pointer (some ⟨b, 0, none⟩), .agg #[.int .i64 9, .string t, .int .i64 n, .slice a p c, .slice a' p' c'], .int .i64 (need : Int)] w (Wrote w0 b (l ++ (40 :: (X ++ [41]))) w) := by
  have hba : Below w.heap.size w (w.alloc (.cells #[.int .i64 9, .string t, .int .i64 n, .slice a p c, .slice a' p' c'] 27)) := (zB _ _).alloc (zL _) _
  have HA := zH hba
  have HS := zH (h.below hba)
  clear h hba
  have KF := fun w => zH (Form.form_of 9 t n a p c a' p' c' w (by decide))
  rw [Form.iface9] at KF
  have KB := fun w => zH (Form.binding_returnForm (#[.int .i64 9, .string t, .int .i64 n, .slice a p c, .slice a' p' c']) w)
  have KX := fun l w h hl => zH (hX l w h hl)
  clear hX
  have tg : decide ((need : Int) <= 0) = false := by rw [decide_eq_false_iff_not]; omega
  have hl2 : l.length + X.length + 2 <= 140737488355328 := by simp at hlen; omega
  have HL := zH hl2
  clear hl2 hlen
  have KO := fun w1 (h : St w0 b l w1) => zH (put_byte h 40 (by have := HL.out; omega))
  have KC := fun w1 (h : St w0 b (l ++ [40] ++ X) w1) => zH (put_byte h 41 (by have := HL.out; simp; omega))
  have hmeth := method_returnForm
  go_enter Tryz.func38, Tryz.ntmps38
  go_wp2_with fail
  refine (KF _).out.mono ?_
  rintro e w1 ⟨rfl, hb1⟩
  go_wp2_with fail
  refine (KB _).out.mono ?_
  rintro e w2 ⟨rfl, hb2⟩
  have HB := zH (hb1.trans (hb2.mono hb1.size))
  clear hb1 hb2
  go_wp2_with fail
  refine (KO _ (HS.out.below HB.out)).out.mono ?_
  rintro e w3 ⟨rfl, hs3, hf3⟩
  have HS3 := zH hs3
  have HF3 := zH hf3
  clear hs3 hf3
  go_wp2_with fail
  refine (KX _ _ HS3.out (by have := HL.out; simp; omega)).out.mono ?_
  rintro e w4 ⟨rfl, hs4, hf4⟩
  have HS4 := zH hs4
  have HF4 := zH hf4
  clear hs4 hf4
  go_wp2_with fail
  refine (KC _ HS4.out).out.mono ?_
  rintro e w5 ⟨rfl, hs5, hf5⟩
  go_wp2_with fail
  go_end0
  exact ⟨rfl, by simpa using hs5, (((Fr.of_below HA.out).below HB.out).trans (HF3.out.trans HF4.out)).trans hf5⟩
end Wri
end Go.Proofs.YtbigfeblomfflaaGreatDoor
