/-
  SpecChk SpecDecl SpecDecl2
-/
import Derived.Test.YtnlgdkfenipmfaaGreatDoorB20
namespace Go.Proofs.YtnlgdkfenipmfaaGreatDoor
namespace SpecChk
open Go.RowKit
open Strs Tree Go.Proofs.YtnlgdkfenipmfaaGreatDoor.Data Chk
set_option maxHeartbeats 1000000 in
theorem index_any (v : Value) (xs : List ByteArray) (s : ByteArray) (w : World) (h : At w v xs) :
    Calls Tryz.prog 147 #[v, .string s] w fun e w' => e = .returned (.int .i64 (index xs s)) /\ w = w' := by
  obtain ⟨a, cap, rfl, hm, hc⟩ := h
  unfold maxLen at hm
  have HC := zH hc; clear hc
  generalize hn : xs.length = n at *
  have HN := zH hn; clear hn
  go_enter Tryz.func147, Tryz.ntmps147
  go_wp2_with fail
  go_loop [5] (fun j => ∃ i : Nat, i <= n /\ j = .int .i64 i /\ s ∉ xs.take i) (fun j => n - (intOf j).toNat)
  case atStart => exact ⟨0, by omega, rfl, by simp⟩
  case round =>
    obtain ⟨i, hi, rfl, hno⟩ := hrel
    have HNO := zH hno; clear hno
    by_cases hlt : i < n
    · obtain ⟨b, off, rfl, hcell⟩ := HC.out (by omega)
      have hil : i < xs.length := by rw [HN.out]; exact hlt
      have hci := hcell i hlt
      have HX : Hid (xs.getD i ByteArray.empty = xs[i]) := by show _ = _; simp [List.getD, hil]
      rw [HX.out] at hci
      clear hcell
      by_cases he : xs[i] = s
      · have HR : Hid (index xs s = i) := zH (index_at hil he HNO.out)
        have he2 : (xs[i].toList == s.toList) = true := by rw [he]; simp
        clear HX he
        generalize xs[i] = x at *
        go_wp2_with fail
        go_ret
        exact ⟨by rw [HR.out]; rfl, rfl⟩
      · have hf : (xs[i].toList == s.toList) = false := ba_ne he
        have HF : Hid (s ∉ xs.take (i + 1)) := zH (by
          rw [List.take_succ_eq_append_getElem hil, List.mem_append, List.mem_singleton]
          rintro (h | h)
          · exact HNO.out h
          · exact he h.symm)
        clear he HX
        generalize xs[i] = x at *
        go_wp2_with fail
        go_round
        case rel => exact ⟨i + 1, by omega, by go_num, HF.out⟩
        case measure => simp [intOf]; omega
    · have HR : Hid (index xs s = -1) := zH (index_no (by
        have := HNO.out
        rwa [List.take_of_length_le (by rw [HN.out]; omega)] at this))
      go_wp2_with fail
      go_ret
      exact ⟨by rw [HR.out]; rfl, rfl⟩
def Un (w : World) (U : Nat) (cs : List C) : Prop := ∃ v, w.cell? ⟨U, 0, none⟩ = some v /\ ClsAt 0 w v cs
theorem Un.below {w w' : World} {U : Nat} {cs : List C} (h : Un w U cs) (hb : Below w.heap.size w w') : Un w' U cs := by
  obtain ⟨v, h1, h2⟩ := h
  exact ⟨v, cell_keep hb h1, h2.below hb⟩
theorem cls_built {cs : List C} {n : ByteArray} (h : 0 <= index Builtin.names n) : cls cs n = index Builtin.names n := if_pos h
theorem cls_own {cs : List C} {n : ByteArray} (h : ¬ 0 <= index Builtin.names n) : cls cs n = if 0 <= index (cnames cs) n then 16 + index (cnames cs) n else -1 := if_neg h
theorem cnames_len (cs : List C) : (cnames cs).length = cs.length := List.length_map ..
set_option maxRecDepth 10000 in
set_option maxHeartbeats 2000000 in
theorem class_any (U : Nat) (cs : List C) (n : ByteArray) (w : World) (h : Un w U cs) (hN : cs.length <= 1048576) :
    Calls Tryz.prog 104 #[.pointer (some ⟨U, 0, none⟩), .string n] w fun e w' => e = .returned (.int .i64 (cls cs n)) /\ Below w.heap.size w w' := by
  obtain ⟨v, hu, a, cap, rfl, ⟨hlc, hm⟩, hc⟩ := h
  unfold maxLen at hm
  have hN16 : Builtin.names.length = 16 := rfl
  have hix := index_lt Builtin.names n
  rw [hN16] at hix
  have KI := fun (v : Value) (w' : World) (h : At w' v Builtin.names) => zH (index_any v Builtin.names n w' h)
  have HB := fun (h : 0 <= index Builtin.names n) => zH (cls_built (cs := cs) h)
  have HO := fun (h : ¬ 0 <= index Builtin.names n) => zH (cls_own (cs := cs) h)
  have HBB := zH HB
  have HOO := zH HO
  clear HB HO hN16
  have HC := zH hc; clear hc
  generalize index Builtin.names n = q at *
  obtain ⟨hq1, hq2⟩ := hix
  generalize hR : cls cs n = R at *
  clear hR
  generalize hn : cs.length = N at *
  have HN := zH hn; clear hn
  have HU := zH hu; clear hu
  go_enter Tryz.func104, Tryz.ntmps104
  go_wp2_with fail
  refine (Builtin.spec_any _).mono ?_
  rintro e w1 ⟨v1, rfl, ho, hb1⟩
  have HA := zH (at_own ho)
  have HB1 := zH hb1
  clear ho hb1
  go_wp2_with fail
  refine (KI _ _ HA.out).out.mono ?_
  rintro e w2 ⟨rfl, rfl⟩
  clear HA KI
  have hcu : w1.cell? ⟨U, 0, none⟩ = some (.slice a N cap) := cell_keep HB1.out HU.out
  by_cases hq : 0 <= q
  · have HR : Hid (R = q) := (HBB.out hq)
    have hqn : decide (q < 0) = false := by simpa using hq
    clear HBB HOO
    go_wp2_with fail
    refine wp_loop_rounds 1 ?_
    rw [rounds_succ]
    by_cases h0 : 0 < N
    all_goals
      go_wp2_with fail
      go_ret
      exact ⟨by rw [HR.out]; rfl, HB1.out⟩
  · have HR : Hid (R = if 0 <= index (cnames cs) n then 16 + index (cnames cs) n else -1) := (HOO.out (by omega))
    obtain rfl : q = -1 := by omega
    clear HBB HOO
    have HOO := True.intro
    go_wp2_with fail
    go_loop [5, 6] (fun k j => ∃ i : Nat, i <= N /\ j = .int .i64 i /\ ((k = .int .i64 (-1) /\ n ∉ (cnames cs).take i) \/ ∃ q : Nat, k = .int .i64 (16 + q : Int) /\ R = (16 + q : Int) /\ q < N)) (fun _ j => N - (intOf j).toNat)
    case atStart => exact ⟨0, Nat.zero_le _, rfl, .inl ⟨rfl, by simp⟩⟩
    case round =>
      obtain ⟨i, hi, rfl, ⟨rfl, hno⟩ | ⟨q, rfl, hq1, hq2⟩⟩ := hrel
      · have HNO := zH hno
        clear hno
        by_cases hlt : i < N
        · obtain ⟨b, o, ha, hcl⟩ := HC.out (by omega)
          subst ha
          obtain ⟨x, hx⟩ : ∃ x, cs[i]? = some x := ⟨_, List.getElem?_eq_getElem (by rw [HN.out]; exact hlt)⟩
          obtain ⟨vf, vm, c0, -⟩ := hcl i x hx
          replace c0 := cell_keep HB1.out c0
          have HX : Hid ((cnames cs)[i]? = some x.name) := zH (by unfold cnames; rw [List.getElem?_map, hx]; rfl)
          clear hcl hx
          by_cases he : x.name = n
          · have HQ : Hid (R = 16 + (i : Int)) := zH (by
              obtain ⟨hj, hx⟩ := List.getElem?_eq_some_iff.1 HX.out
              have h1 := index_at (xs := cnames cs) hj (hx.trans he) HNO.out
              rw [HR.out, h1, if_pos (by omega)])
            have hb := ba_same he
            clear HX he HNO HR HC HOO
            generalize x.name = xn at *
            go_wp2_with fail
            go_round
            case rel => exact ⟨i + 1, by omega, by go_num, .inr ⟨i, rfl, HQ.out, hlt⟩⟩
            case measure => simp [intOf]; omega
          · have HF : Hid (n ∉ (cnames cs).take (i + 1)) := zH (by
              obtain ⟨hj, hx⟩ := List.getElem?_eq_some_iff.1 HX.out
              rw [List.take_succ_eq_append_getElem hj, List.mem_append, List.mem_singleton, hx]
              rintro (h | h)
              · exact HNO.out h
              · exact he h.symm)
            have hb := ba_ne he
            clear HX he HNO HC HOO
            generalize x.name = xn at *
            go_wp2_with fail
            go_round
            case rel => exact ⟨i + 1, by omega, by go_num, .inl ⟨rfl, HF.out⟩⟩
            case measure => simp [intOf]; omega
        · have HQ : Hid (R = -1) := zH (by
            have h1 := HNO.out
            rw [List.take_of_length_le (by rw [cnames_len, HN.out]; omega)] at h1
            rw [HR.out, index_no h1]; rfl)
          clear HNO HR HC HOO
          go_wp2_with fail
          go_ret
          exact ⟨by rw [HQ.out]; rfl, HB1.out⟩
      · have HQ := zH hq1
        clear hq1 HR HC HOO
        have h16 : decide ((16 : Int) + q < 0) = false := by rw [decide_eq_false_iff_not]; omega
        by_cases hlt : i < N
        all_goals
          go_wp2_with fail
          go_ret
          exact ⟨by rw [HQ.out]; rfl, HB1.out⟩
end SpecChk
namespace SpecChk
open Go.RowKit
open Strs Tree Go.Proofs.YtnlgdkfenipmfaaGreatDoor.Data Chk
theorem texts_at {lo : Nat} {w : World} {v : Value} {xs : List ByteArray} (h : Texts lo w xs v) : At w v xs := by
  obtain ⟨a, c, rfl, ⟨h1, h2⟩, -, hc⟩ := h
  refine ⟨a, c, rfl, by omega, fun hp => ?_⟩
  obtain ⟨b, o, rfl, -, hcell⟩ := hc hp
  refine ⟨b, o, rfl, fun j hj => ?_⟩
  rw [hcell j hj]
  simp [List.getD, hj]
theorem lit_at (w : World) (xs : List ByteArray) (n : Nat) (hn : xs.length = n) (hm : n <= 100) : At (w.alloc (.cells (xs.map Value.string).toArray 9)) (.slice (some ⟨w.heap.size, 0, none⟩) n n) xs := by
  subst hn
  have h := World.ownsRow_lit (base := w.heap.size) (e := 9) (size := 1) w (xs.map Value.string).toArray xs.length (zL _) (by unfold maxLen; omega) (by simp)
  exact at_own (by simpa using h)
def TextsB (S : Nat) (w : World) (xs : List ByteArray) (v : Value) : Prop :=
  Texts 0 w xs v /\ Formed v xs.length /\ ∀ b o n c, v = .slice (some ⟨b, o, none⟩) n c -> 0 < n -> b ≠ S
theorem TextsB.but {S : Nat} {w w' : World} {xs : List ByteArray} {v : Value} (h : TextsB S w xs v) (hb : But S w w') : TextsB S w' xs v := by
  obtain ⟨⟨a, c, rfl, h1, h2, hc⟩, h3, h4⟩ := h
  refine ⟨⟨a, c, rfl, h1, h2, fun hp => ?_⟩, h3, h4⟩
  obtain ⟨b, o, rfl, hl, hcell⟩ := hc hp
  exact ⟨b, o, rfl, hl, fun j hj => hb.cell (h4 b o _ _ rfl hp) (hcell j hj)⟩
theorem za3 {S : Nat} {w : World} {xs : List ByteArray} {v : Value} (h : Texts 0 w xs v) (hf : Formed v xs.length) (hS : w.heap.size <= S) : TextsB S w xs v := by
  refine ⟨h, hf, fun b o n c e hn hb => ?_⟩
  obtain ⟨a, c', rfl, h1, h2, hc⟩ := h
  cases e
  obtain ⟨b', o', e', hl, hcell⟩ := hc hn
  cases e'
  have := cell_lt (hcell 0 hn)
  simp only at this
  omega
structure ScAt (w : World) (S U : Nat) (v1 v2 v3 : Value) (vars fixed fields : List ByteArray) (own : Bool) : Prop where
  c0 : w.cell? ⟨S, 0, none⟩ = some (.pointer (some ⟨U, 0, none⟩))
  c1 : w.cell? ⟨S, 1, none⟩ = some v1
  c2 : w.cell? ⟨S, 2, none⟩ = some v2
  c3 : w.cell? ⟨S, 3, none⟩ = some v3
  c4 : w.cell? ⟨S, 4, none⟩ = some (.bool own)
  fz : ∀ o, w.frozen? ⟨S, o, none⟩ = false
  t1 : TextsB S w vars v1
  t2 : TextsB S w fixed v2
  t3 : TextsB S w fields v3
theorem ScAt.below {w w' : World} {S U : Nat} {v1 v2 v3 : Value} {vars fixed fields : List ByteArray} {own : Bool} (h : ScAt w S U v1 v2 v3 vars fixed fields own) (hb : Below w.heap.size w w') : ScAt w' S U v1 v2 v3 vars fixed fields own :=
  ⟨cell_keep hb h.c0, cell_keep hb h.c1, cell_keep hb h.c2, cell_keep hb h.c3, cell_keep hb h.c4, fun o => (hb.frozen (p := ⟨S, o, none⟩) (show S < _ from cell_lt (a := ⟨S, 0, none⟩) h.c0)).trans (h.fz o), h.t1.but (zau hb), h.t2.but (zau hb), h.t3.but (zau hb)⟩
theorem use_lt (cs : List C) (vars fixed fields : List ByteArray) (n : ByteArray) :
    (use cs vars fixed fields n < 2) ↔ ¬ (Tok.has vars n = true \/ Tok.has fixed n = true \/ Tok.has fields n = true \/ 0 <= cls cs n \/ Tok.has four n = true) := by
  unfold use glob
  cases Tok.has vars n <;> cases Tok.has fields n <;> cases Tok.has fixed n <;> cases Tok.has four n <;> by_cases hc : 0 <= cls cs n <;> simp [hc] <;> split <;> omega
theorem five_split (n : ByteArray) : Tok.has five n = (Tok.has four n || decide (n = tSuper)) := by
  rw [Bool.eq_iff_iff, Bool.or_eq_true, has_iff, has_iff, decide_eq_true_iff]
  unfold five four tSuper
  simp only [List.mem_cons, List.not_mem_nil, or_false]
  constructor
  · rintro (h | h | h | h | h) <;> simp [h]
  · rintro ((h | h | h | h) | h) <;> simp [h]
theorem use_pos (cs : List C) (vars fixed fields : List ByteArray) (n : ByteArray) :
    (use cs vars fixed fields n ≠ 0) ↔ (Tok.has vars n = true \/ Tok.has fixed n = true \/ Tok.has fields n = true \/ 0 <= cls cs n \/ Tok.has five n = true) := by
  rw [five_split]
  unfold use glob
  generalize cls cs n = q
  generalize Tok.has vars n = x1
  generalize Tok.has fields n = x2
  generalize Tok.has fixed n = x3
  generalize Tok.has four n = x4
  by_cases hs : n = tSuper <;> cases x1 <;> cases x2 <;> cases x3 <;> cases x4 <;> by_cases hc : 0 <= q <;> simp [hc, hs]
theorem add2 (A B n : ByteArray) (hA : A.size <= 100) (hB : B.size <= 100) (h : n.size <= 1048576) :
    (∀ W : World, (Op.stringOp .add A n).run Tryz.prog W = .ok (.string (A ++ n)) W) /\ ∀ W : World, (Op.stringOp .add (A ++ n) B).run Tryz.prog W = .ok (.string (A ++ n ++ B)) W := by
  refine ⟨fun W => run_string_add_sum W _ _ (by omega), fun W => run_string_add_sum W _ _ ?_⟩
  rw [ByteArray.size_append]
  omega
set_option maxRecDepth 10000 in
set_option maxHeartbeats 2000000 in
theorem name_any {w : World} {S U : Nat} {v1 v2 v3 : Value} {vars fixed fields : List ByteArray} {own : Bool} {cs : List C} (n : ByteArray) (h : ScAt w S U v1 v2 v3 vars fixed fields own) (hu : Un w U cs) (hN : cs.length <= 1048576) (hn : n.size <= 1048576) :
    Calls Tryz.prog 149 #[.pointer (some ⟨S, 0, none⟩), .string n] w fun e w' => e = .returned (.string (if use cs vars fixed fields n < 2 then unknown n else ByteArray.empty)) /\ Below w.heap.size w w' := by
  have HL := use_lt cs vars fixed fields n
  generalize use cs vars fixed fields n = q at *
  obtain ⟨c0, c1, c2, c3, -, -, ⟨t1, -⟩, ⟨t2, -⟩, ⟨t3, -⟩⟩ := h
  have K1 : Hid (Calls Tryz.prog 44 #[v1, .string n] w fun e w' => e = .returned (.bool (Tok.has vars n)) /\ w = w') := zH (SpecTok.has_any v1 vars n w (texts_at t1))
  have K2 : Hid (Calls Tryz.prog 44 #[v2, .string n] w fun e w' => e = .returned (.bool (Tok.has fixed n)) /\ w = w') := zH (SpecTok.has_any v2 fixed n w (texts_at t2))
  have K3 : Hid (Calls Tryz.prog 44 #[v3, .string n] w fun e w' => e = .returned (.bool (Tok.has fields n)) /\ w = w') := zH (SpecTok.has_any v3 fields n w (texts_at t3))
  have K4 := zH (class_any U cs n w hu hN)
  have K5 : ∀ w' : World, Hid (Calls Tryz.prog 44 #[.slice (some ⟨w'.heap.size, 0, none⟩) 4 4, .string n] (w'.alloc (.cells (four.map Value.string).toArray 9)) fun e w2 => e = .returned (.bool (Tok.has four n)) /\ w'.alloc (.cells (four.map Value.string).toArray 9) = w2) := fun w' => zH (SpecTok.has_any _ four n _ (lit_at w' four 4 rfl (by omega)))
  clear t1 t2 t3 hu hN
  generalize Tok.has vars n = x1 at *
  generalize Tok.has fixed n = x2 at *
  generalize Tok.has fields n = x3 at *
  generalize Tok.has four n = x4 at *
  generalize cls cs n = y at *
  have HV : Hid (unknown n = ⟨#[110, 97, 109, 101, 32]⟩ ++ n ++ ⟨#[32, 105, 115, 32, 117, 110, 107, 110, 111, 119, 110]⟩) := zH rfl
  obtain ⟨hadd, hadd2⟩ := add2 ⟨#[110, 97, 109, 101, 32]⟩ ⟨#[32, 105, 115, 32, 117, 110, 107, 110, 111, 119, 110]⟩ n (by decide) (by decide) hn
  have HQ : Hid (¬ (q < 2) \/ (x1 = false /\ x2 = false /\ x3 = false /\ ¬ 0 <= y /\ x4 = false)) := zH (by
    by_cases h : q < 2
    · right
      have := HL.1 h
      cases x1 <;> cases x2 <;> cases x3 <;> cases x4 <;> simp_all
    · exact .inl h)
  have HY : Hid ((x1 = true \/ x2 = true \/ x3 = true \/ 0 <= y \/ x4 = true) -> ¬ q < 2) := zH (fun h hq => HL.1 hq h)
  have HN : Hid (x1 = false /\ x2 = false /\ x3 = false /\ ¬ 0 <= y /\ x4 = false -> q < 2) := zH (fun ⟨h1, h2, h3, h4, h5⟩ => HL.2 (by simp [h1, h2, h3, h4, h5]))
  clear HL HQ
  generalize unknown n = R at *
  cases x1 with
  | true =>
    have hq : ¬ q < 2 := HY.out (by simp)
    rw [if_neg hq]
    have HR := True.intro
    clear HY HN HV hq hadd hadd2 K2 K3 K4 K5
    go_enter Tryz.func149, Tryz.ntmps149
    go_wp2_with fail
    refine K1.out.mono ?_
    rintro e w1 ⟨rfl, rfl⟩
    go_wp2_with fail
    go_ret
    exact ⟨rfl, zB _ _⟩
  | false =>
  cases x2 with
  | true =>
    have hq : ¬ q < 2 := HY.out (by simp)
    rw [if_neg hq]
    have HR := True.intro
    clear HY HN HV hq hadd hadd2 K3 K4 K5
    go_enter Tryz.func149, Tryz.ntmps149
    go_wp2_with fail
    refine K1.out.mono ?_
    rintro e w1 ⟨rfl, rfl⟩
    go_wp2_with fail
    refine K2.out.mono ?_
    rintro e w2 ⟨rfl, rfl⟩
    go_wp2_with fail
    go_ret
    exact ⟨rfl, zB _ _⟩
  | false =>
  cases x3 with
  | true =>
    have hq : ¬ q < 2 := HY.out (by simp)
    rw [if_neg hq]
    have HR := True.intro
    clear HY HN HV hq hadd hadd2 K4 K5
    go_enter Tryz.func149, Tryz.ntmps149
    go_wp2_with fail
    refine K1.out.mono ?_
    rintro e w1 ⟨rfl, rfl⟩
    go_wp2_with fail
    refine K2.out.mono ?_
    rintro e w2 ⟨rfl, rfl⟩
    go_wp2_with fail
    refine K3.out.mono ?_
    rintro e w3 ⟨rfl, rfl⟩
    go_wp2_with fail
    go_ret
    exact ⟨rfl, zB _ _⟩
  | false =>
  by_cases hy : 0 <= y
  · skip
    have hq : ¬ q < 2 := HY.out (by simp [hy])
    rw [if_neg hq]
    have HR := True.intro
    clear HY HN HV hq hadd hadd2 K5
    go_enter Tryz.func149, Tryz.ntmps149
    go_wp2_with fail
    refine K1.out.mono ?_
    rintro e w1 ⟨rfl, rfl⟩
    go_wp2_with fail
    refine K2.out.mono ?_
    rintro e w2 ⟨rfl, rfl⟩
    go_wp2_with fail
    refine K3.out.mono ?_
    rintro e w3 ⟨rfl, rfl⟩
    go_wp2_with fail
    refine K4.out.mono ?_
    rintro e w4 ⟨rfl, hb4⟩
    have HB4 := zH hb4
    clear hb4
    have hy2 : decide (y ≥ 0) = true := by simpa using hy
    go_wp2_with fail
    go_ret
    exact ⟨rfl, HB4.out⟩
  · skip
    cases x4 with
    | true =>
      have hq : ¬ q < 2 := HY.out (by simp)
      rw [if_neg hq]
      clear HY HN hq HV hadd hadd2
      go_enter Tryz.func149, Tryz.ntmps149
      go_wp2_with fail
      refine K1.out.mono ?_
      rintro e w1 ⟨rfl, rfl⟩
      go_wp2_with fail
      refine K2.out.mono ?_
      rintro e w2 ⟨rfl, rfl⟩
      go_wp2_with fail
      refine K3.out.mono ?_
      rintro e w3 ⟨rfl, rfl⟩
      go_wp2_with fail
      refine K4.out.mono ?_
      rintro e w4 ⟨rfl, hb4⟩
      have HB4 := zH hb4
      clear hb4
      have hy2 : decide (y ≥ 0) = false := by simpa using hy
      go_wp2_with fail
      refine (K5 w4).out.mono ?_
      rintro e w5 ⟨rfl, rfl⟩
      clear K5
      go_wp2_with fail
      go_ret
      exact ⟨rfl, HB4.out.alloc HB4.out.size _⟩
    | false =>
      have hq : q < 2 := HN.out (by simp [hy])
      rw [if_pos hq]
      clear HY HN hq
      go_enter Tryz.func149, Tryz.ntmps149
      go_wp2_with fail
      refine K1.out.mono ?_
      rintro e w1 ⟨rfl, rfl⟩
      go_wp2_with fail
      refine K2.out.mono ?_
      rintro e w2 ⟨rfl, rfl⟩
      go_wp2_with fail
      refine K3.out.mono ?_
      rintro e w3 ⟨rfl, rfl⟩
      go_wp2_with fail
      refine K4.out.mono ?_
      rintro e w4 ⟨rfl, hb4⟩
      have HB4 := zH hb4
      clear hb4
      have hy2 : decide (y ≥ 0) = false := by simpa using hy
      go_wp2_with fail
      refine (K5 w4).out.mono ?_
      rintro e w5 ⟨rfl, rfl⟩
      clear K5
      go_wp2_with fail
      go_ret
      exact ⟨by rw [HV.out]; rfl, HB4.out.alloc HB4.out.size _⟩
theorem has_snoc (xs : List ByteArray) (n m : ByteArray) : Tok.has (xs ++ [n]) m = (Tok.has xs m || decide (m = n)) := by
  rw [Bool.eq_iff_iff, Bool.or_eq_true, has_iff, has_iff, decide_eq_true_iff]
  simp
theorem use_var (cs : List C) (vars fixed fields : List ByteArray) (n : ByteArray) : use cs (vars ++ [n]) fixed fields = put (use cs vars fixed fields) n 3 := by
  funext m
  unfold use put
  rw [has_snoc]
  by_cases h : m = n
  · simp [h]
  · simp [h]
theorem use_fixed (cs : List C) (vars fixed fields : List ByteArray) (n : ByteArray) (h0 : use cs vars fixed fields n = 0) : use cs vars (fixed ++ [n]) fields = put (use cs vars fixed fields) n 2 := by
  funext m
  unfold put
  by_cases h : m = n
  · subst h
    unfold use at h0 ⊢
    rw [has_snoc]
    cases h1 : Tok.has vars m <;> cases h2 : Tok.has fields m <;> simp [h1, h2] at h0 ⊢
  · rw [if_neg h]
    unfold use
    rw [has_snoc]
    simp [h]
theorem inUse_ne (n : ByteArray) : (inUse n).data.toList ≠ [] := by
  unfold inUse
  rw [ByteArray.data_append, ByteArray.data_append, Array.toList_append, Array.toList_append]
  simp
end SpecChk
namespace SpecChk
open Go.RowKit
open Strs Tree Go.Proofs.YtnlgdkfenipmfaaGreatDoor.Data Chk
def Declared (w : World) (S U : Nat) (v3 : Value) (fields : List ByteArray) (own : Bool) (cs : List C) (L : Nat) (r : ByteArray × Sc) (e : Ending) (w' : World) : Prop :=
  e = .returned (.string r.1) /\ But S w w' /\ (r.1.data.toList = [] -> ∃ v1 v2 vars fixed, ScAt w' S U v1 v2 v3 vars fixed fields own /\ use cs vars fixed fields = r.2 /\ vars.length + fixed.length <= L)
theorem declare_no {σ : Sc} {params : Int} {i : Nat} {n : ByteArray} {ns : List ByteArray} (h : σ n ≠ 0) : declare σ params i (n :: ns) = (inUse n, σ) := by rw [declare, if_pos h]
theorem declare_yes {σ : Sc} {params : Int} {i : Nat} {n : ByteArray} {ns : List ByteArray} (h : σ n = 0) : declare σ params i (n :: ns) = declare (put σ n (if (i : Int) < params then 2 else 3)) params (i + 1) ns := by rw [declare, if_neg (by simp [h])]
theorem one_texts (w : World) (n : ByteArray) (h : n.size <= maxLen) : Texts 0 (w.alloc (.cells #[.string n] 9)) [n] (.slice (some ⟨w.heap.size, 0, none⟩) 1 1) := by
  refine ⟨_, 1, rfl, ⟨zL _, by unfold maxLen; omega⟩, fun x hx => ?_, fun _ => ⟨_, 0, rfl, Nat.zero_le _, fun j hj => ?_⟩⟩
  · simp at hx; subst hx; exact h
  · have : j = 0 := by simpa using hj
    subst this
    rw [Nat.zero_add, World.cell?_alloc_mark w _ _ (0, 0) 0]
    rfl
theorem own_textsB {S : Nat} {w : World} {v : Value} {xs : List ByteArray} {base : Nat} (hB : S < base) (h : w.ownsRow base 9 1 v xs.length (xs.map Value.string)) (hs : ∀ x, x ∈ xs -> x.size <= maxLen) : TextsB S w xs v := by
  have hf := own_formed h
  refine ⟨?_, hf, ?_⟩
  · have hr : Row base w 9 1 v (strs xs) := strs_row h hs
    have ho := (row_iff.2 hr).mono (base' := 0) (by omega)
    exact zav (t := 9) (xs := xs) (zaz.1 ho.holds (.row 9 1 v (strs xs)) (by simp))
  · rintro b o n c rfl hn hb
    have := (h.lt b rfl).1
    omega
theorem ScAt.set1 {w : World} {S U : Nat} {v1 v2 v3 v' : Value} {vars fixed fields xs : List ByteArray} {own : Bool} (h : ScAt w S U v1 v2 v3 vars fixed fields own) (ht : TextsB S w xs v') : ScAt (w.setCell ⟨S, 1, none⟩ v') S U v' v2 v3 xs fixed fields own := by
  obtain ⟨c0, c1, c2, c3, c4, fz, t1, t2, t3⟩ := h
  have hb := but_set w S 1 v'
  refine ⟨?_, ?_, ?_, ?_, ?_, fun o => ?_, ht.but hb, t2.but hb, t3.but hb⟩ <;> go_simp
theorem ScAt.set2 {w : World} {S U : Nat} {v1 v2 v3 v' : Value} {vars fixed fields xs : List ByteArray} {own : Bool} (h : ScAt w S U v1 v2 v3 vars fixed fields own) (ht : TextsB S w xs v') : ScAt (w.setCell ⟨S, 2, none⟩ v') S U v1 v' v3 vars xs fields own := by
  obtain ⟨c0, c1, c2, c3, c4, fz, t1, t2, t3⟩ := h
  have hb := but_set w S 2 v'
  refine ⟨?_, ?_, ?_, ?_, ?_, fun o => ?_, t1.but hb, ht.but hb, t3.but hb⟩ <;> go_simp
set_option maxRecDepth 10000 in
set_option maxHeartbeats 8000000 in
theorem declare_any {w0 w : World} {S U : Nat} {v1 v2 v3 vn : Value} {vars fixed fields names : List ByteArray} {own : Bool} {cs : List C} (params : Int) (h : ScAt w S U v1 v2 v3 vars fixed fields own) (hw : Below w0.heap.size w0 w) (hS : w0.heap.size <= S)
    (hu : Un w0 U cs) (hN : cs.length <= 1048576) (hn : Texts 0 w0 names vn) (hs : ∀ x, x ∈ names -> x.size <= 1048576) (hl : vars.length + fixed.length + names.length <= 4000000) :
    Calls Tryz.prog 150 #[.pointer (some ⟨S, 0, none⟩), vn, .int .i64 params] w (Declared w S U v3 fields own cs (vars.length + fixed.length + names.length) (declare (use cs vars fixed fields) params 0 names)) := by
  obtain ⟨na, nc, rfl, ⟨hnc, hnm⟩, -, hcell⟩ := id hn
  unfold maxLen at hnm
  have HCELL : Hid (0 < names.length -> ∃ b off, na = some ⟨b, off, none⟩ /\ ∀ j x, names[j]? = some x -> w0.cell? ⟨b, off + j, none⟩ = some (.string x)) := zH (fun hp => by
    obtain ⟨b, off, ha, -, hd⟩ := hcell hp
    refine ⟨b, off, ha, fun j x hx => ?_⟩
    obtain ⟨h1, rfl⟩ := List.getElem?_eq_some_iff.1 hx
    exact hd j h1)
  have HU := zH hu
  have HW := zH hw
  have HSZ := zH hs
  clear hcell hu hn hw hs
  have HSC := zH h
  clear h
  generalize hD : declare (use cs vars fixed fields) params 0 names = D at *
  have HD := zH hD
  clear hD
  generalize hL : vars.length + fixed.length + names.length = L at *
  have HL := zH hL
  clear hL
  generalize hNN : names.length = N at *
  have HNN := zH hNN
  clear hNN
  have hSlt : S < w.heap.size := cell_lt HSC.out.c0
  go_enter Tryz.func150, Tryz.ntmps150
  go_wp2_with fail
  go_loopw [7] (fun j wr => ∃ (i : Nat) (v1 v2 : Value) (vars fixed : List ByteArray), i <= N /\ j = .int .i64 i /\ ScAt wr S U v1 v2 v3 vars fixed fields own /\ But S w wr /\ D = declare (use cs vars fixed fields) params i (names.drop i) /\ vars.length + fixed.length + (N - i) <= L) (fun j _ => N - (intOf j).toNat)
  case atStart => exact ⟨0, v1, v2, vars, fixed, Nat.zero_le _, rfl, HSC.out, But.refl _ _, HD.out.symm, by have := HL.out; omega⟩
  case round =>
    clear HSC HD HL
    obtain ⟨i, v1, v2, vars, fixed, hi, rfl, hsc, hbut, hd, hlen⟩ := hrel
    have HBUT := zH hbut
    have HD := zH hd
    have HLEN := zH hlen
    clear hbut hd hlen
    by_cases hlt : i < N
    case neg =>
      have HEND : Hid (Declared w S U v3 fields own cs L D (.returned (.string ⟨#[]⟩)) wr) := zH (by
        have e : D = (ByteArray.empty, use cs vars fixed fields) := by
          rw [HD.out, List.drop_of_length_le (by rw [HNN.out]; omega)]
          rfl
        rw [e]
        exact ⟨rfl, HBUT.out, fun _ => ⟨v1, v2, vars, fixed, hsc, rfl, by have := HLEN.out; omega⟩⟩)
      clear HD HLEN hsc
      go_wp2_with fail
      go_ret
      exact HEND.out
    have hbw : Below w0.heap.size w0 wr := HW.out.trans (HBUT.out.below hS HW.out.size)
    obtain ⟨b, o, ha, hcell⟩ := HCELL.out (by omega)
    subst ha
    obtain ⟨n, hnx⟩ : ∃ n, names[i]? = some n := ⟨_, List.getElem?_eq_getElem (by rw [HNN.out]; exact hlt)⟩
    have hnn : names.drop i = n :: names.drop (i + 1) := by
      obtain ⟨h1, h2⟩ := List.getElem?_eq_some_iff.1 hnx
      rw [List.drop_eq_getElem_cons h1, h2]
    have hns : n.size <= 1048576 := HSZ.out n (List.mem_of_getElem? hnx)
    have hcn : wr.cell? ⟨b, o + i, none⟩ = some (.string n) := cell_keep hbw (hcell i n hnx)
    clear hcell hnx
    have hSr : S < wr.heap.size := Nat.lt_of_lt_of_le hSlt HBUT.out.size
    obtain ⟨c0, c1, c2, c3, c4, fz, t1, t2, t3⟩ := id hsc
    have K1 : Hid (Calls Tryz.prog 44 #[v1, .string n] wr fun e w' => e = .returned (.bool (Tok.has vars n)) /\ wr = w') := zH (SpecTok.has_any v1 vars n wr (texts_at t1.1))
    have K2 : Hid (Calls Tryz.prog 44 #[v2, .string n] wr fun e w' => e = .returned (.bool (Tok.has fixed n)) /\ wr = w') := zH (SpecTok.has_any v2 fixed n wr (texts_at t2.1))
    have K3 : Hid (Calls Tryz.prog 44 #[v3, .string n] wr fun e w' => e = .returned (.bool (Tok.has fields n)) /\ wr = w') := zH (SpecTok.has_any v3 fields n wr (texts_at t3.1))
    have K4 := zH (class_any U cs n wr (HU.out.below hbw) hN)
    have K5 : ∀ w' : World, Hid (Calls Tryz.prog 44 #[.slice (some ⟨w'.heap.size, 0, none⟩) 5 5, .string n] (w'.alloc (.cells (five.map Value.string).toArray 9)) fun e w2 => e = .returned (.bool (Tok.has five n)) /\ w'.alloc (.cells (five.map Value.string).toArray 9) = w2) := fun w' => zH (SpecTok.has_any _ five n _ (lit_at w' five 5 rfl (by omega)))
    have HT1 := zH t1
    have HT2 := zH t2
    have HT3 := zH t3
    have HSC := zH hsc
    have HBW := zH hbw
    have HUP := use_pos cs vars fixed fields n
    have HBAD : Hid ((Tok.has vars n = true \/ Tok.has fixed n = true \/ Tok.has fields n = true \/ 0 <= cls cs n \/ Tok.has five n = true) -> ∀ w', Below wr.heap.size wr w' -> Declared w S U v3 fields own cs L D (.returned (.string (inUse n))) w') := zH (fun h w' hb => by
      rw [HD.out, hnn, declare_no (HUP.2 h)]
      exact ⟨rfl, HBUT.out.trans (zau hb), fun e => absurd e (inUse_ne n)⟩)
    have HOK : Hid ((¬ (Tok.has vars n = true \/ Tok.has fixed n = true \/ Tok.has fields n = true \/ 0 <= cls cs n \/ Tok.has five n = true)) -> use cs vars fixed fields n = 0 /\ D = declare (put (use cs vars fixed fields) n (if (i : Int) < params then 2 else 3)) params (i + 1) (names.drop (i + 1))) := zH (fun h => by
      have h0 : use cs vars fixed fields n = 0 := by
        by_cases h1 : use cs vars fixed fields n = 0
        · exact h1
        · exact absurd (HUP.1 h1) h
      exact ⟨h0, by rw [HD.out, hnn, declare_yes h0]⟩)
    clear t1 t2 t3 hsc hbw hnn HUP HD
    have HV : Hid (inUse n = ⟨#[110, 97, 109, 101, 32]⟩ ++ n ++ ⟨#[32, 105, 115, 32, 105, 110, 32, 117, 115, 101]⟩) := zH rfl
    obtain ⟨hadd, hadd2⟩ := add2 ⟨#[110, 97, 109, 101, 32]⟩ ⟨#[32, 105, 115, 32, 105, 110, 32, 117, 115, 101]⟩ n (by decide) (by decide) hns
    rw [HV.out] at HBAD
    clear HV
    generalize Tok.has vars n = x1 at *
    generalize Tok.has fixed n = x2 at *
    generalize Tok.has fields n = x3 at *
    generalize Tok.has five n = x4 at *
    generalize cls cs n = y at *
    cases x1 with
    | true =>
      have HB := zH (HBAD.out (by simp))
      clear HOK HBAD HT1 HT2 HT3 HSC HBW K2 K3 K4 K5
      go_wp2_with fail
      refine K1.out.mono ?_
      rintro e w1 ⟨rfl, rfl⟩
      go_wp2_with fail
      go_ret
      exact HB.out _ (zB _ _)
    | false =>
    cases x2 with
    | true =>
      have HB := zH (HBAD.out (by simp))
      clear HOK HBAD HT1 HT2 HT3 HSC HBW K3 K4 K5
      go_wp2_with fail
      refine K1.out.mono ?_
      rintro e w1 ⟨rfl, rfl⟩
      go_wp2_with fail
      refine K2.out.mono ?_
      rintro e w2 ⟨rfl, rfl⟩
      go_wp2_with fail
      go_ret
      exact HB.out _ (zB _ _)
    | false =>
    cases x3 with
    | true =>
      have HB := zH (HBAD.out (by simp))
      clear HOK HBAD HT1 HT2 HT3 HSC HBW K4 K5
      go_wp2_with fail
      refine K1.out.mono ?_
      rintro e w1 ⟨rfl, rfl⟩
      go_wp2_with fail
      refine K2.out.mono ?_
      rintro e w2 ⟨rfl, rfl⟩
      go_wp2_with fail
      refine K3.out.mono ?_
      rintro e w3 ⟨rfl, rfl⟩
      go_wp2_with fail
      go_ret
      exact HB.out _ (zB _ _)
    | false =>
    by_cases hy : 0 <= y
    case pos =>
      have HB := zH (HBAD.out (by simp [hy]))
      clear HOK HBAD HT1 HT2 HT3 HSC HBW K5
      go_wp2_with fail
      refine K1.out.mono ?_
      rintro e w1 ⟨rfl, rfl⟩
      go_wp2_with fail
      refine K2.out.mono ?_
      rintro e w2 ⟨rfl, rfl⟩
      go_wp2_with fail
      refine K3.out.mono ?_
      rintro e w3 ⟨rfl, rfl⟩
      go_wp2_with fail
      refine K4.out.mono ?_
      rintro e w4 ⟨rfl, hb4⟩
      have HB4 := zH hb4
      clear hb4
      have hy2 : decide (y ≥ 0) = true := by simpa using hy
      go_wp2_with fail
      go_ret
      exact HB.out _ HB4.out
    cases x4 with
    | true =>
      have HB := zH (HBAD.out (by simp))
      clear HOK HBAD HT1 HT2 HT3 HSC HBW
      go_wp2_with fail
      refine K1.out.mono ?_
      rintro e w1 ⟨rfl, rfl⟩
      go_wp2_with fail
      refine K2.out.mono ?_
      rintro e w2 ⟨rfl, rfl⟩
      go_wp2_with fail
      refine K3.out.mono ?_
      rintro e w3 ⟨rfl, rfl⟩
      go_wp2_with fail
      refine K4.out.mono ?_
      rintro e w4 ⟨rfl, hb4⟩
      have HB4 := zH hb4
      clear hb4
      have hy2 : decide (y ≥ 0) = false := by simpa using hy
      go_wp2_with fail
      refine (K5 w4).out.mono ?_
      rintro e w5 ⟨rfl, rfl⟩
      clear K5
      go_wp2_with fail
      go_ret
      exact HB.out _ (HB4.out.alloc HB4.out.size _)
    | false =>
    have HO := zH (HOK.out (by simp [hy]))
    clear HOK HBAD
    go_wp2_with fail
    refine K1.out.mono ?_
    rintro e w1 ⟨rfl, rfl⟩
    go_wp2_with fail
    refine K2.out.mono ?_
    rintro e w2 ⟨rfl, rfl⟩
    go_wp2_with fail
    refine K3.out.mono ?_
    rintro e w3 ⟨rfl, rfl⟩
    go_wp2_with fail
    refine K4.out.mono ?_
    rintro e w4 ⟨rfl, hb4⟩
    have HB4 := zH hb4
    clear hb4
    have hy2 : decide (y ≥ 0) = false := by simpa using hy
    go_wp2_with fail
    refine (K5 w4).out.mono ?_
    rintro e w5 ⟨rfl, rfl⟩
    clear K5 hadd hadd2
    have HB5 : Hid (Below wr.heap.size wr (w4.alloc (.cells (five.map Value.string).toArray 9))) := zH (HB4.out.alloc HB4.out.size _)
    have HSC5 := zH (HSC.out.below HB5.out)
    clear HB4 HT1 HT2 HT3 HSC
    generalize w4.alloc (.cells (five.map Value.string).toArray 9) = w5 at *
    by_cases hpar : (i : Int) < params
    case pos =>
      have hD : D = declare (use cs vars (fixed ++ [n]) fields) params (i + 1) (names.drop (i + 1)) := by
        have h := HO.out.2
        rw [if_pos hpar] at h
        rw [h, use_fixed _ _ _ _ _ HO.out.1]
      have HD := zH hD
      clear hD HO
      obtain ⟨c0, c1, c2, c3, c4, fz, t1, t2, t3⟩ := id HSC5.out
      obtain ⟨⟨xa, xc, rfl, hx1, hxs, -⟩, hf, -⟩ := id t2
      have HX := zH t2.1
      have HF := zH hf
      have HXS := zH hxs
      have cc := c2
      have fc := fz 2
      clear hx1 hxs hf c0 c1 c2 c3 c4 fz t1 t2 t3
      have hS5 : S < w5.heap.size := Nat.lt_of_lt_of_le hSr HB5.out.size
      have hlit := own_lit0 w5 9 1
      have HLIT := zH hlit
      have HBL : Hid (Below w5.heap.size w5 (w5.alloc (.cells #[] 9))) := zH ((zB _ _).alloc (zL _) _)
      clear hlit
      go_wp2_with (at_builtin; go_must (refine zan rfl _ _ rfl w5.heap.size _ [] rfl HLIT.out (.slice xa fixed.length xc) fixed 0 rfl (HX.out.below HBL.out) HF.out (by have := HLEN.out; simp; omega) HBL.out.size ?_))
      intro va wa hown hlow
      have HOW := zH hown
      have HBA := zH (HBL.out.trans hlow)
      have HN1 : Hid (Texts 0 (wa.alloc (.cells #[.string n] 9)) [n] (.slice (some ⟨wa.heap.size, 0, none⟩) 1 1)) := zH (one_texts wa n (by unfold maxLen; omega))
      have HBA1 : Hid (Below w5.heap.size w5 (wa.alloc (.cells #[.string n] 9))) := zH (HBA.out.alloc HBA.out.size _)
      have HOW1 : Hid ((wa.alloc (.cells #[.string n] 9)).ownsRow w5.heap.size 9 1 va fixed.length (fixed.map Value.string)) := zH (own_keep (by simpa using HOW.out) ((zB _ _).alloc (zL _) _))
      clear hown hlow HOW HLIT HBL
      go_wp2_with (at_builtin; go_must (refine zan rfl _ _ rfl w5.heap.size _ fixed rfl HOW1.out (.slice (some ⟨wa.heap.size, 0, none⟩) 1 1) [n] 0 rfl HN1.out (.inr ⟨_, _, _, rfl⟩) (by have := HLEN.out; simp; omega) HBA1.out.size ?_))
      intro vb wb hown hlow
      obtain ⟨ra, rc, rfl⟩ := Kit.row_form hown
      have HBB := zH (HBA1.out.trans hlow)
      have HTB : Hid (TextsB S wb (fixed ++ [n]) (.slice ra (fixed.length + 1) rc)) := zH (own_textsB (Nat.lt_of_lt_of_le hSr HB5.out.size) (by simpa using hown) (fun x hx => by
        rcases List.mem_append.1 hx with h1 | h1
        · exact HXS.out x h1
        · simp at h1; subst h1; unfold maxLen; omega))
      have hcb := cell_keep HBB.out cc
      have hfb : wb.frozen? ⟨S, 2, none⟩ = false := (HSC5.out.below HBB.out).fz 2
      clear hown hlow HBA HBA1 HOW1 HN1 cc fc
      go_wp2_with fail
      go_roundw
      case rel => exact ⟨i + 1, _, _, _, _, by omega, by go_num, (HSC5.out.below HBB.out).set2 HTB.out, (HBUT.out.trans (zau (HB5.out.trans (HBB.out.mono HB5.out.size)))).trans (but_set _ _ _ _), HD.out, by have := HLEN.out; rw [List.length_append]; simp; omega⟩
      case measure => simp [intOf]; omega
    case neg =>
      have hD : D = declare (use cs (vars ++ [n]) fixed fields) params (i + 1) (names.drop (i + 1)) := by
        have h := HO.out.2
        rw [if_neg hpar] at h
        rw [h, use_var]
      have HD := zH hD
      clear hD HO
      obtain ⟨c0, c1, c2, c3, c4, fz, t1, t2, t3⟩ := id HSC5.out
      obtain ⟨⟨xa, xc, rfl, hx1, hxs, -⟩, hf, -⟩ := id t1
      have HX := zH t1.1
      have HF := zH hf
      have HXS := zH hxs
      have cc := c1
      have fc := fz 1
      clear hx1 hxs hf c0 c1 c2 c3 c4 fz t1 t2 t3
      have hS5 : S < w5.heap.size := Nat.lt_of_lt_of_le hSr HB5.out.size
      have hlit := own_lit0 w5 9 1
      have HLIT := zH hlit
      have HBL : Hid (Below w5.heap.size w5 (w5.alloc (.cells #[] 9))) := zH ((zB _ _).alloc (zL _) _)
      clear hlit
      go_wp2_with (at_builtin; go_must (refine zan rfl _ _ rfl w5.heap.size _ [] rfl HLIT.out (.slice xa vars.length xc) vars 0 rfl (HX.out.below HBL.out) HF.out (by have := HLEN.out; simp; omega) HBL.out.size ?_))
      intro va wa hown hlow
      have HOW := zH hown
      have HBA := zH (HBL.out.trans hlow)
      have HN1 : Hid (Texts 0 (wa.alloc (.cells #[.string n] 9)) [n] (.slice (some ⟨wa.heap.size, 0, none⟩) 1 1)) := zH (one_texts wa n (by unfold maxLen; omega))
      have HBA1 : Hid (Below w5.heap.size w5 (wa.alloc (.cells #[.string n] 9))) := zH (HBA.out.alloc HBA.out.size _)
      have HOW1 : Hid ((wa.alloc (.cells #[.string n] 9)).ownsRow w5.heap.size 9 1 va vars.length (vars.map Value.string)) := zH (own_keep (by simpa using HOW.out) ((zB _ _).alloc (zL _) _))
      clear hown hlow HOW HLIT HBL
      go_wp2_with (at_builtin; go_must (refine zan rfl _ _ rfl w5.heap.size _ vars rfl HOW1.out (.slice (some ⟨wa.heap.size, 0, none⟩) 1 1) [n] 0 rfl HN1.out (.inr ⟨_, _, _, rfl⟩) (by have := HLEN.out; simp; omega) HBA1.out.size ?_))
      intro vb wb hown hlow
      obtain ⟨ra, rc, rfl⟩ := Kit.row_form hown
      have HBB := zH (HBA1.out.trans hlow)
      have HTB : Hid (TextsB S wb (vars ++ [n]) (.slice ra (vars.length + 1) rc)) := zH (own_textsB (Nat.lt_of_lt_of_le hSr HB5.out.size) (by simpa using hown) (fun x hx => by
        rcases List.mem_append.1 hx with h1 | h1
        · exact HXS.out x h1
        · simp at h1; subst h1; unfold maxLen; omega))
      have hcb := cell_keep HBB.out cc
      have hfb : wb.frozen? ⟨S, 1, none⟩ = false := (HSC5.out.below HBB.out).fz 1
      clear hown hlow HBA HBA1 HOW1 HN1 cc fc
      go_wp2_with fail
      go_roundw
      case rel => exact ⟨i + 1, _, _, _, _, by omega, by go_num, (HSC5.out.below HBB.out).set1 HTB.out, (HBUT.out.trans (zau (HB5.out.trans (HBB.out.mono HB5.out.size)))).trans (but_set _ _ _ _), HD.out, by have := HLEN.out; rw [List.length_append]; simp; omega⟩
      case measure => simp [intOf]; omega
end SpecChk
end Go.Proofs.YtnlgdkfenipmfaaGreatDoor
