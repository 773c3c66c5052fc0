/-
  Form
-/
import Derived.Test.YtbigfeblomfflaaGreatDoorB13
import Derived.Test.YtbigfeblomfflaaGreatDoorB9
namespace Go.Proofs.YtbigfeblomfflaaGreatDoor
namespace Form
open Go.RowKit
open Tree
theorem low {A B : Nat} {w w' : World} (h : Below B w w') (hl : A <= B) : Below A w w' := ⟨h.os, h.tape, h.output, h.size, fun k hk => h.block k (Nat.lt_of_lt_of_le hk hl)⟩
set_option maxHeartbeats 1000000 in
theorem bind_msg (s : ByteArray) (w : World) (hs : s.size <= 1048576) :
    Calls Tryz.prog 150 #[.string s] w fun e w' => e = .returned (.int .i64 (Prn.bindSel s : Nat)) /\ Below w.heap.size w w' := by
  have KO := fun w => zH (ImplSigns.is_operator s w)
  have KC := fun w => zH (ImplCount.count_any s w hs)
  generalize hr : ((Prn.bindSel s : Nat) : Int) = r
  have HR := zH hr
  clear hr
  generalize hb : Tok.has Tok.binaries s = b at *
  have HBI := zH hb
  generalize hc : Tok.countArgs s = c at *
  have HCI := zH hc
  clear hb hc
  cases b with
  | true =>
    have HE : Hid (r = 2) := zH (by rw [<- HR.out]; unfold Prn.bindSel; rw [if_pos HBI.out]; rfl)
    go_enter Tryz.func150, Tryz.ntmps150
    go_wp2_with fail
    refine (KO _).out.mono ?_
    rintro e w1 ⟨rfl, hb1⟩
    go_wp2_with fail
    go_ret
    exact ⟨by rw [HE.out]; rfl, hb1⟩
  | false =>
    by_cases h0 : c = 0
    · have t0 : (c == 0) = true := by rw [h0]; rfl
      have HE : Hid (r = 3) := zH (by rw [<- HR.out]; unfold Prn.bindSel; rw [HBI.out, HCI.out, if_neg (by decide), if_pos h0]; rfl)
      clear h0
      go_enter Tryz.func150, Tryz.ntmps150
      go_wp2_with fail
      refine (KO _).out.mono ?_
      rintro e w1 ⟨rfl, hb1⟩
      go_wp2_with fail
      refine (KC _).out.mono ?_
      rintro e w2 ⟨rfl, hb2⟩
      go_wp2_with fail
      go_ret
      exact ⟨by rw [HE.out]; rfl, hb1.trans (low hb2 hb1.size)⟩
    · have t0 : (c == 0) = false := by rw [beq_eq_false_iff_ne]; exact h0
      have HE : Hid (r = 1) := zH (by rw [<- HR.out]; unfold Prn.bindSel; rw [HBI.out, HCI.out, if_neg (by decide), if_neg h0]; rfl)
      clear h0
      go_enter Tryz.func150, Tryz.ntmps150
      go_wp2_with fail
      refine (KO _).out.mono ?_
      rintro e w1 ⟨rfl, hb1⟩
      go_wp2_with fail
      refine (KC _).out.mono ?_
      rintro e w2 ⟨rfl, hb2⟩
      go_wp2_with fail
      go_ret
      exact ⟨by rw [HE.out]; rfl, hb1.trans (low hb2 hb1.size)⟩
set_option maxHeartbeats 1000000 in
theorem need_recv (s : ByteArray) (w : World) (hs : s.size <= 1048576) :
    Calls Tryz.prog 302 #[.string s] w fun e w' => e = .returned (.int .i64 (Prn.recvNeed s : Nat)) /\ Below w.heap.size w w' := by
  have KC := fun w => zH (bind_msg s w hs)
  generalize hr : ((Prn.recvNeed s : Nat) : Int) = r
  have HR := zH hr
  clear hr
  generalize hc : Prn.bindSel s = c at *
  have HCI := zH hc
  clear hc
  by_cases h0 : c = 3
  · have HE : Hid (r = 3) := zH (by rw [<- HR.out]; unfold Prn.recvNeed; rw [HCI.out, if_pos h0]; rfl)
    subst h0
    go_enter Tryz.func302, Tryz.ntmps302
    go_wp2_with fail
    refine (KC _).out.mono ?_
    rintro e w2 ⟨rfl, hb2⟩
    go_wp2_with fail
    go_ret
    exact ⟨by rw [HE.out]; rfl, hb2⟩
  · have t0 : ((c : Int) == 3) = false := by rw [beq_eq_false_iff_ne]; omega
    have HE : Hid (r = 2) := zH (by rw [<- HR.out]; unfold Prn.recvNeed; rw [HCI.out, if_neg h0]; rfl)
    clear h0
    go_enter Tryz.func302, Tryz.ntmps302
    go_wp2_with fail
    refine (KC _).out.mono ?_
    rintro e w2 ⟨rfl, hb2⟩
    go_wp2_with fail
    go_ret
    exact ⟨by rw [HE.out]; rfl, hb2⟩
def argNeed (s : ByteArray) : Nat := if Tok.has Tok.binaries s = true then 3 else 2
set_option maxHeartbeats 1000000 in
theorem need_arg (s : ByteArray) (w : World) :
    Calls Tryz.prog 179 #[.string s] w fun e w' => e = .returned (.int .i64 (argNeed s : Nat)) /\ Below w.heap.size w w' := by
  have KO := fun w => zH (ImplSigns.is_operator s w)
  generalize hr : ((argNeed s : Nat) : Int) = r
  have HR := zH hr
  clear hr
  generalize hb : Tok.has Tok.binaries s = b at *
  have HBI := zH hb
  clear hb
  cases b with
  | true =>
    have HE : Hid (r = 3) := zH (by rw [<- HR.out]; unfold argNeed; rw [if_pos HBI.out]; rfl)
    go_enter Tryz.func179, Tryz.ntmps179
    go_wp2_with fail
    refine (KO _).out.mono ?_
    rintro e w1 ⟨rfl, hb1⟩
    go_wp2_with fail
    go_ret
    exact ⟨by rw [HE.out]; rfl, hb1⟩
  | false =>
    have HE : Hid (r = 2) := zH (by rw [<- HR.out]; unfold argNeed; rw [HBI.out, if_neg (by decide)]; rfl)
    go_enter Tryz.func179, Tryz.ntmps179
    go_wp2_with fail
    refine (KO _).out.mono ?_
    rintro e w1 ⟨rfl, hb1⟩
    go_wp2_with fail
    go_ret
    exact ⟨by rw [HE.out]; rfl, hb1⟩
def iface (k : Int) (t : ByteArray) (n : Int) (vn vk : Value) : Value :=
  if k = 1 then .iface 189 (.agg #[.int .i64 3, .string ByteArray.empty, .int .i64 n])
  else if k = 2 then .iface 189 (.agg #[.int .i64 4, .string t, .int .i64 0])
  else if k = 3 then .iface 189 (.agg #[.int .i64 5, .string t, .int .i64 0])
  else if k = 5 then .iface 190 (.agg #[.int .i64 k, .string t, .int .i64 n, vn, vk])
  else if k = 6 then .iface 191 (.agg #[.int .i64 k, .string t, .int .i64 n, vn, vk])
  else if k = 7 then .iface 192 (.agg #[.int .i64 k, .string t, .int .i64 n, vn, vk])
  else if k = 8 then .iface 193 (.agg #[.int .i64 k, .string t, .int .i64 n, vn, vk])
  else if k = 9 then .iface 194 (.agg #[.int .i64 k, .string t, .int .i64 n, vn, vk])
  else .iface 189 (.agg #[.int .i64 1, .string t, .int .i64 0])
set_option maxHeartbeats 4000000 in
theorem form_of (k : Int) (t : ByteArray) (n : Int) (a : Option Addr) (l c : Nat) (a' : Option Addr) (l' c' : Nat) (w : World) (hk : 1 <= k /\ k <= 9) :
    Calls Tryz.prog 87 #[.agg #[.int .i64 k, .string t, .int .i64 n, .slice a l c, .slice a' l' c']] w fun e w' => e = .returned (iface k t n (.slice a l c) (.slice a' l' c')) /\ Below w.heap.size w w' := by
  have hb : Below w.heap.size w (w.alloc (.cells #[.int .i64 k, .string t, .int .i64 n, .slice a l c, .slice a' l' c'] 27)) := (zB _ _).alloc (zL _) _
  have HB := zH hb
  clear hb
  have hcase : k = 1 \/ k = 2 \/ k = 3 \/ k = 4 \/ k = 5 \/ k = 6 \/ k = 7 \/ k = 8 \/ k = 9 := by omega
  clear hk
  rcases hcase with rfl | rfl | rfl | rfl | rfl | rfl | rfl | rfl | rfl
  all_goals
    go_enter Tryz.func87, Tryz.ntmps87
    go_wp2_with fail
    go_ret
    exact ⟨rfl, HB.out⟩
theorem iface1 (t : ByteArray) (n : Int) (vn vk : Value) : iface 1 t n vn vk = .iface 189 (.agg #[.int .i64 3, .string ByteArray.empty, .int .i64 n]) := rfl
theorem iface2 (t : ByteArray) (n : Int) (vn vk : Value) : iface 2 t n vn vk = .iface 189 (.agg #[.int .i64 4, .string t, .int .i64 0]) := rfl
theorem iface3 (t : ByteArray) (n : Int) (vn vk : Value) : iface 3 t n vn vk = .iface 189 (.agg #[.int .i64 5, .string t, .int .i64 0]) := rfl
theorem iface4 (t : ByteArray) (n : Int) (vn vk : Value) : iface 4 t n vn vk = .iface 189 (.agg #[.int .i64 1, .string t, .int .i64 0]) := rfl
theorem iface5 (t : ByteArray) (n : Int) (vn vk : Value) : iface 5 t n vn vk = .iface 190 (.agg #[.int .i64 5, .string t, .int .i64 n, vn, vk]) := rfl
theorem iface6 (t : ByteArray) (n : Int) (vn vk : Value) : iface 6 t n vn vk = .iface 191 (.agg #[.int .i64 6, .string t, .int .i64 n, vn, vk]) := rfl
theorem iface7 (t : ByteArray) (n : Int) (vn vk : Value) : iface 7 t n vn vk = .iface 192 (.agg #[.int .i64 7, .string t, .int .i64 n, vn, vk]) := rfl
theorem iface8 (t : ByteArray) (n : Int) (vn vk : Value) : iface 8 t n vn vk = .iface 193 (.agg #[.int .i64 8, .string t, .int .i64 n, vn, vk]) := rfl
theorem iface9 (t : ByteArray) (n : Int) (vn vk : Value) : iface 9 t n vn vk = .iface 194 (.agg #[.int .i64 9, .string t, .int .i64 n, vn, vk]) := rfl
theorem is_l_a (v : Value) (w : World) : (Instr.typeAssert (.iface 189 v) 133 190 true).run Tryz.prog w = .ok (.tuple #[.agg #[.int .i64 0, .string ⟨#[]⟩, .int .i64 0, .slice none 0 0, .slice none 0 0], .bool false]) w := by kernel_rfl
theorem is_l_c (v : Value) (w : World) : (Instr.typeAssert (.iface 189 v) 133 192 true).run Tryz.prog w = .ok (.tuple #[.agg #[.int .i64 0, .string ⟨#[]⟩, .int .i64 0, .slice none 0 0, .slice none 0 0], .bool false]) w := by kernel_rfl
theorem is_l_r (v : Value) (w : World) : (Instr.typeAssert (.iface 189 v) 133 194 true).run Tryz.prog w = .ok (.tuple #[.agg #[.int .i64 0, .string ⟨#[]⟩, .int .i64 0, .slice none 0 0, .slice none 0 0], .bool false]) w := by kernel_rfl
theorem is_l_s (v : Value) (w : World) : (Instr.typeAssert (.iface 189 v) 133 191 true).run Tryz.prog w = .ok (.tuple #[.agg #[.int .i64 0, .string ⟨#[]⟩, .int .i64 0, .slice none 0 0, .slice none 0 0], .bool false]) w := by kernel_rfl
theorem is_a_a (v : Value) (w : World) : (Instr.typeAssert (.iface 190 v) 133 190 true).run Tryz.prog w = .ok (.tuple #[v, .bool true]) w := by kernel_rfl
theorem is_a_c (v : Value) (w : World) : (Instr.typeAssert (.iface 190 v) 133 192 true).run Tryz.prog w = .ok (.tuple #[.agg #[.int .i64 0, .string ⟨#[]⟩, .int .i64 0, .slice none 0 0, .slice none 0 0], .bool false]) w := by kernel_rfl
theorem is_a_r (v : Value) (w : World) : (Instr.typeAssert (.iface 190 v) 133 194 true).run Tryz.prog w = .ok (.tuple #[.agg #[.int .i64 0, .string ⟨#[]⟩, .int .i64 0, .slice none 0 0, .slice none 0 0], .bool false]) w := by kernel_rfl
theorem is_a_s (v : Value) (w : World) : (Instr.typeAssert (.iface 190 v) 133 191 true).run Tryz.prog w = .ok (.tuple #[.agg #[.int .i64 0, .string ⟨#[]⟩, .int .i64 0, .slice none 0 0, .slice none 0 0], .bool false]) w := by kernel_rfl
theorem is_s_a (v : Value) (w : World) : (Instr.typeAssert (.iface 191 v) 133 190 true).run Tryz.prog w = .ok (.tuple #[.agg #[.int .i64 0, .string ⟨#[]⟩, .int .i64 0, .slice none 0 0, .slice none 0 0], .bool false]) w := by kernel_rfl
theorem is_s_c (v : Value) (w : World) : (Instr.typeAssert (.iface 191 v) 133 192 true).run Tryz.prog w = .ok (.tuple #[.agg #[.int .i64 0, .string ⟨#[]⟩, .int .i64 0, .slice none 0 0, .slice none 0 0], .bool false]) w := by kernel_rfl
theorem is_s_r (v : Value) (w : World) : (Instr.typeAssert (.iface 191 v) 133 194 true).run Tryz.prog w = .ok (.tuple #[.agg #[.int .i64 0, .string ⟨#[]⟩, .int .i64 0, .slice none 0 0, .slice none 0 0], .bool false]) w := by kernel_rfl
theorem is_s_s (v : Value) (w : World) : (Instr.typeAssert (.iface 191 v) 133 191 true).run Tryz.prog w = .ok (.tuple #[v, .bool true]) w := by kernel_rfl
theorem is_c_a (v : Value) (w : World) : (Instr.typeAssert (.iface 192 v) 133 190 true).run Tryz.prog w = .ok (.tuple #[.agg #[.int .i64 0, .string ⟨#[]⟩, .int .i64 0, .slice none 0 0, .slice none 0 0], .bool false]) w := by kernel_rfl
theorem is_c_c (v : Value) (w : World) : (Instr.typeAssert (.iface 192 v) 133 192 true).run Tryz.prog w = .ok (.tuple #[v, .bool true]) w := by kernel_rfl
theorem is_c_r (v : Value) (w : World) : (Instr.typeAssert (.iface 192 v) 133 194 true).run Tryz.prog w = .ok (.tuple #[.agg #[.int .i64 0, .string ⟨#[]⟩, .int .i64 0, .slice none 0 0, .slice none 0 0], .bool false]) w := by kernel_rfl
theorem is_c_s (v : Value) (w : World) : (Instr.typeAssert (.iface 192 v) 133 191 true).run Tryz.prog w = .ok (.tuple #[.agg #[.int .i64 0, .string ⟨#[]⟩, .int .i64 0, .slice none 0 0, .slice none 0 0], .bool false]) w := by kernel_rfl
theorem is_b_a (v : Value) (w : World) : (Instr.typeAssert (.iface 193 v) 133 190 true).run Tryz.prog w = .ok (.tuple #[.agg #[.int .i64 0, .string ⟨#[]⟩, .int .i64 0, .slice none 0 0, .slice none 0 0], .bool false]) w := by kernel_rfl
theorem is_b_c (v : Value) (w : World) : (Instr.typeAssert (.iface 193 v) 133 192 true).run Tryz.prog w = .ok (.tuple #[.agg #[.int .i64 0, .string ⟨#[]⟩, .int .i64 0, .slice none 0 0, .slice none 0 0], .bool false]) w := by kernel_rfl
theorem is_b_r (v : Value) (w : World) : (Instr.typeAssert (.iface 193 v) 133 194 true).run Tryz.prog w = .ok (.tuple #[.agg #[.int .i64 0, .string ⟨#[]⟩, .int .i64 0, .slice none 0 0, .slice none 0 0], .bool false]) w := by kernel_rfl
theorem is_b_s (v : Value) (w : World) : (Instr.typeAssert (.iface 193 v) 133 191 true).run Tryz.prog w = .ok (.tuple #[.agg #[.int .i64 0, .string ⟨#[]⟩, .int .i64 0, .slice none 0 0, .slice none 0 0], .bool false]) w := by kernel_rfl
theorem is_r_a (v : Value) (w : World) : (Instr.typeAssert (.iface 194 v) 133 190 true).run Tryz.prog w = .ok (.tuple #[.agg #[.int .i64 0, .string ⟨#[]⟩, .int .i64 0, .slice none 0 0, .slice none 0 0], .bool false]) w := by kernel_rfl
theorem is_r_c (v : Value) (w : World) : (Instr.typeAssert (.iface 194 v) 133 192 true).run Tryz.prog w = .ok (.tuple #[.agg #[.int .i64 0, .string ⟨#[]⟩, .int .i64 0, .slice none 0 0, .slice none 0 0], .bool false]) w := by kernel_rfl
theorem is_r_r (v : Value) (w : World) : (Instr.typeAssert (.iface 194 v) 133 194 true).run Tryz.prog w = .ok (.tuple #[v, .bool true]) w := by kernel_rfl
theorem is_r_s (v : Value) (w : World) : (Instr.typeAssert (.iface 194 v) 133 191 true).run Tryz.prog w = .ok (.tuple #[.agg #[.int .i64 0, .string ⟨#[]⟩, .int .i64 0, .slice none 0 0, .slice none 0 0], .bool false]) w := by kernel_rfl
set_option maxHeartbeats 4000000 in
set_option maxRecDepth 10000 in
theorem binding_send (t : ByteArray) (n : Int) (a : Option Addr) (l c : Nat) (a' : Option Addr) (l' c' : Nat) (w : World) (hs : t.size <= 1048576) :
    Calls Tryz.prog 88 #[.iface 191 (.agg #[.int .i64 6, .string t, .int .i64 n, .slice a l c, .slice a' l' c'])] w fun e w' => e = .returned (.int .i64 (Prn.bindSel t : Nat)) /\ Below w.heap.size w w' := by
  have KM := fun w => zH (bind_msg t w hs)
  generalize Prn.bindSel t = bs at *
  have q0 := is_s_a
  have q1 := is_s_c
  have q2 := is_s_r
  have q3 := is_s_s
  go_enter Tryz.func88, Tryz.ntmps88
  go_wp2_with fail
  refine (KM _).out.mono ?_
  rintro e w2 ⟨rfl, hb2⟩
  go_wp2_with fail
  go_ret
  exact ⟨rfl, ((zB _ _).alloc (zL _) _).trans (low hb2 (by simp))⟩
set_option maxHeartbeats 4000000 in
set_option maxRecDepth 10000 in
theorem binding_leafForm (x : Array Value) (w : World) : Calls Tryz.prog 88 #[.iface 189 (.agg x)] w fun e w' => e = .returned (.int .i64 4) /\ Below w.heap.size w w' := by
  have q0 := is_l_a
  have q1 := is_l_c
  have q2 := is_l_r
  have q3 := is_l_s
  go_enter Tryz.func88, Tryz.ntmps88
  go_wp2_with fail
  go_ret
  exact ⟨rfl, zB _ _⟩
set_option maxHeartbeats 4000000 in
set_option maxRecDepth 10000 in
theorem binding_blockForm (x : Array Value) (w : World) : Calls Tryz.prog 88 #[.iface 193 (.agg x)] w fun e w' => e = .returned (.int .i64 4) /\ Below w.heap.size w w' := by
  have q0 := is_b_a
  have q1 := is_b_c
  have q2 := is_b_r
  have q3 := is_b_s
  go_enter Tryz.func88, Tryz.ntmps88
  go_wp2_with fail
  go_ret
  exact ⟨rfl, zB _ _⟩
set_option maxHeartbeats 4000000 in
set_option maxRecDepth 10000 in
theorem binding_assignForm (x : Array Value) (w : World) : Calls Tryz.prog 88 #[.iface 190 (.agg x)] w fun e w' => e = .returned (.int .i64 0) /\ Below w.heap.size w w' := by
  have q0 := is_a_a
  have q1 := is_a_c
  have q2 := is_a_r
  have q3 := is_a_s
  go_enter Tryz.func88, Tryz.ntmps88
  go_wp2_with fail
  go_ret
  exact ⟨rfl, zB _ _⟩
set_option maxHeartbeats 4000000 in
set_option maxRecDepth 10000 in
theorem binding_cascadeForm (x : Array Value) (w : World) : Calls Tryz.prog 88 #[.iface 192 (.agg x)] w fun e w' => e = .returned (.int .i64 0) /\ Below w.heap.size w w' := by
  have q0 := is_c_a
  have q1 := is_c_c
  have q2 := is_c_r
  have q3 := is_c_s
  go_enter Tryz.func88, Tryz.ntmps88
  go_wp2_with fail
  go_ret
  exact ⟨rfl, zB _ _⟩
set_option maxHeartbeats 4000000 in
set_option maxRecDepth 10000 in
theorem binding_returnForm (x : Array Value) (w : World) : Calls Tryz.prog 88 #[.iface 194 (.agg x)] w fun e w' => e = .returned (.int .i64 0) /\ Below w.heap.size w w' := by
  have q0 := is_r_a
  have q1 := is_r_c
  have q2 := is_r_r
  have q3 := is_r_s
  go_enter Tryz.func88, Tryz.ntmps88
  go_wp2_with fail
  go_ret
  exact ⟨rfl, zB _ _⟩
end Form
end Go.Proofs.YtbigfeblomfflaaGreatDoor
