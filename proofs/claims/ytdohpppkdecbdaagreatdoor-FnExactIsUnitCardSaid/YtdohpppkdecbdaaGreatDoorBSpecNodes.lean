/-
  spec.l3Messages: what it answers, given what l3Right answers of the trees below.
  spec.l3Node put together: what it answers of every node.
-/
import Derived.Test.YtdohpppkdecbdaaGreatDoorBSpecNode7
namespace Go.Proofs.YtdohpppkdecbdaaGreatDoor.SpecRight
open Go.RowKit
open Strs Tree Texts TreeBox SpecNode
def Ok (e : E) : Prop := ∀ (lo : Nat) (w : World) (vn vk : Value) (st : Bool), weight e ≤ 1048576 → NodeAt lo w e vn vk →
  Calls Tryz.prog 26 #[.agg #[.int .i64 e.kind, .string e.text, .int .i64 e.num, vn, vk], .bool st] w fun r w' => r = .returned (.bool (right e st)) ∧ Below w.heap.size w w'
theorem msgs_nil (a : Option Addr) (c : Nat) (w : World) :
    Calls Tryz.prog 61 #[.slice a 0 c] w fun r w' => r = .returned (.bool true) ∧ Below w.heap.size w w' := by
  go_enter Tryz.func61, Tryz.ntmps61
  go_wp2_with fail
  refine wp_loop_rounds 1 ?_
  rw [rounds_succ]
  go_wp2_with fail
  go_ret
  exact ⟨rfl, Below.refl _ _⟩
set_option maxHeartbeats 4000000 in
theorem msgs_cons (lo b off cap N0 : Nat) (ms : List E) (w : World) (ih : ∀ m, m ∈ ms → ∀ g, g ∈ m.kids → Ok g) (hw : weights ms ≤ 1048576) (hn : ms.length = N0) (hm : N0 ≤ maxLen) (hr : Row lo w b ms off) :
    Calls Tryz.prog 61 #[.slice (some ⟨b, off, none⟩) N0 cap] w fun r w' => r = .returned (.bool (msgs ms)) ∧ Below w.heap.size w w' := by
  unfold maxLen at hm
  rw [msgs_all]
  generalize hD : ms.all msg = D
  have HD := Lib.hid hD; clear hD
  have HN := Lib.hid hn; clear hn
  have HR := Lib.hid hr; clear hr
  have IH := Lib.hid ih; clear ih
  have HW := Lib.hid hw; clear hw
  go_enter Tryz.func61, Tryz.ntmps61
  go_wp2_with fail
  go_loopw [3] (fun j wr => ∃ i : Nat, i ≤ N0 ∧ j = .int .i64 i ∧ Below w.heap.size w wr ∧ Hid (∀ j (h : j < ms.length), j < i → msg ms[j] = true)) (fun j _ => N0 - (intOf j).toNat)
  case atStart => exact ⟨0, by omega, rfl, Below.refl _ _, fun j _ h => by omega⟩
  case round =>
    obtain ⟨i, hi, rfl, hbw, HI⟩ := hrel
    by_cases hlt : i < N0
    · have hil : i < ms.length := by rw [HN.out]; exact hlt
      obtain ⟨xn, xk, d0, d1, d2, d3, d4, hnode⟩ := (row_iff ms off).1 HR.out i hil
      have c0 := cell_keep hbw d0
      have c1 := cell_keep hbw d1
      have c2 := cell_keep hbw d2
      have c3 := cell_keep hbw d3
      have c4 := cell_keep hbw d4
      have hwm := weight_kid ms i hil
      have HNO : Hid (msg ms[i] = false → D = false) := by
        intro h
        rw [← HD.out, List.all_eq_false]
        exact ⟨_, List.getElem_mem hil, by rw [h]; simp⟩
      have HYES : Hid (msg ms[i] = true → ∀ j (h : j < ms.length), j < i + 1 → msg ms[j] = true) := by
        intro h j hj hji
        by_cases e : j = i
        · subst e; exact h
        · exact HI.out j hj (by omega)
      have IK := Lib.hid (IH.out _ (List.getElem_mem hil))
      have hwt : weight ms[i] ≤ 1048576 := by have := HW.out; omega
      clear d0 d1 d2 d3 d4 hwm
      generalize ms[i] = m at *
      obtain ⟨-, -, -, hns, hks⟩ := node_iff.1 hnode
      obtain ⟨k, t, n, ns, ks⟩ := m
      simp only [E.kind, E.text, E.num, E.names, E.kids] at *
      rw [weight] at hwt
      obtain ⟨x3, p3, rfl, hm3, -⟩ := hns
      obtain ⟨x4, p4, rfl, hm4, hrow⟩ := hks
      have ht : t.size ≤ 1048576 := by omega
      have KF := fun w1 => Lib.hid (SpecSel.count_any t w1 ht)
      obtain ⟨hc1, hc2⟩ := count_range t
      have HMS : Hid (msg (.mk k t n ns ks) = (decide (k = 6) && decide (n = 0) && decide (ns.length = 0) && decide (0 ≤ Tok.countArgs t) && decide ((ks.length : Int) = Tok.countArgs t) && rights false ks)) := rfl
      rw [HMS.out] at HNO HYES
      clear HMS hnode
      have HWT : Hid (weights ks ≤ 1048576) := by show _ ≤ _; omega
      clear hwt
      generalize Tok.countArgs t = c at *
      have HB := Lib.hid hbw; clear hbw
      have HROW := Lib.hid hrow; clear hrow
      have HL : Hid (∃ L, ns.length = L) := ⟨_, rfl⟩
      generalize ns.length = L at *
      obtain ⟨N, hN⟩ : ∃ N, ks.length = N := ⟨_, rfl⟩
      rw [hN] at HNO HYES HROW hm4 c4
      have HNK := Lib.hid hN; clear hN
      have A0 : Below wr.heap.size wr (wr.alloc (Obj.cells #[Value.int IntKind.i64 k, Value.string t, Value.int IntKind.i64 n, .slice x3 L p3, .slice x4 N p4] 44)) := (Below.refl _ _).alloc (Nat.le_refl _) _
      have G0 := Lib.hid (cells_new wr k t n (.slice x3 L p3) (.slice x4 N p4) 44)
      have HB0 := Lib.hid (HB.out.trans (A0.mono HB.out.size))
      clear A0
      by_cases ek : k = 6
      case neg =>
        have hD : D = false := HNO.out (by rw [decide_eq_false ek]; rfl)
        subst hD
        have hb := ne_of ek
        clear ek
        go_wp2_with fail
        generalize hwg : wr.alloc (Obj.cells #[Value.int IntKind.i64 k, Value.string t, Value.int IntKind.i64 n, .slice x3 L p3, .slice x4 N p4] 44) = wg at *
        clear hwg
        generalize wr.heap.size = g at *
        obtain ⟨-, g0, g1, g2, g3, g4⟩ := G0.out
        go_quiet (fail)
        go_wp2_with fail
        go_ret
        exact ⟨rfl, below_drewN HB0.out _⟩
      subst ek
      by_cases en : n = 0
      case neg =>
        have hD : D = false := HNO.out (by rw [decide_eq_false en]; simp)
        subst hD
        have hb := ne_of en
        clear en
        go_wp2_with fail
        generalize hwg : wr.alloc (Obj.cells #[Value.int IntKind.i64 6, Value.string t, Value.int IntKind.i64 n, .slice x3 L p3, .slice x4 N p4] 44) = wg at *
        clear hwg
        generalize wr.heap.size = g at *
        obtain ⟨-, g0, g1, g2, g3, g4⟩ := G0.out
        go_quiet (fail)
        go_wp2_with fail
        go_ret
        exact ⟨rfl, below_drewN HB0.out _⟩
      subst en
      by_cases el : L = 0
      case neg =>
        have hD : D = false := HNO.out (by rw [decide_eq_false el]; simp)
        subst hD
        have hb : decide (0 < L) = true := decide_eq_true (by omega)
        clear el
        go_wp2_with fail
        generalize hwg : wr.alloc (Obj.cells #[Value.int IntKind.i64 6, Value.string t, Value.int IntKind.i64 0, .slice x3 L p3, .slice x4 N p4] 44) = wg at *
        clear hwg
        generalize wr.heap.size = g at *
        obtain ⟨-, g0, g1, g2, g3, g4⟩ := G0.out
        go_quiet (fail)
        go_wp2_with fail
        go_ret
        exact ⟨rfl, below_drewN HB0.out _⟩
      subst el
      by_cases ec : 0 ≤ c
      case neg =>
        have hD : D = false := HNO.out (by rw [decide_eq_false ec]; simp)
        subst hD
        have hb : decide (c < 0) = true := decide_eq_true (by omega)
        clear ec
        go_wp2_with fail
        generalize hwg : wr.alloc (Obj.cells #[Value.int IntKind.i64 6, Value.string t, Value.int IntKind.i64 0, .slice x3 0 p3, .slice x4 N p4] 44) = wg at *
        clear hwg
        generalize wr.heap.size = g at *
        obtain ⟨-, g0, g1, g2, g3, g4⟩ := G0.out
        first
          | go_region_with (go_at_call 49; refine (KF _).out.mono ?_; rintro e w1 ⟨rfl, hb1⟩)
          | fail
        all_goals
          go_wp2_with fail
          go_ret
          exact ⟨rfl, HB0.out.drew.trans (hb1.mono HB0.out.size)⟩
      have hb : decide (c < 0) = false := decide_eq_false (by omega)
      by_cases ek : (N : Int) = c
      case neg =>
        have hD : D = false := HNO.out (by rw [decide_eq_false ek]; simp)
        subst hD
        have hbn := ne_of ek
        clear ek
        go_wp2_with fail
        generalize hwg : wr.alloc (Obj.cells #[Value.int IntKind.i64 6, Value.string t, Value.int IntKind.i64 0, .slice x3 0 p3, .slice x4 N p4] 44) = wg at *
        clear hwg
        generalize wr.heap.size = g at *
        obtain ⟨-, g0, g1, g2, g3, g4⟩ := G0.out
        go_region_held3 (fun w' => w'.cell? ⟨g, 0, none⟩ = some (.int .i64 6) ∧ w'.cell? ⟨g, 1, none⟩ = some (.string t) ∧ w'.cell? ⟨g, 2, none⟩ = some (.int .i64 0) ∧ w'.cell? ⟨g, 3, none⟩ = some (.slice x3 0 p3) ∧ w'.cell? ⟨g, 4, none⟩ = some (.slice x4 N p4))
          (first | exact ⟨cell_keep hb2 (cell_keep hb1 (show wg.drew.cell? _ = _ from g0)), cell_keep hb2 (cell_keep hb1 (show wg.drew.cell? _ = _ from g1)), cell_keep hb2 (cell_keep hb1 (show wg.drew.cell? _ = _ from g2)), cell_keep hb2 (cell_keep hb1 (show wg.drew.cell? _ = _ from g3)), cell_keep hb2 (cell_keep hb1 (show wg.drew.cell? _ = _ from g4))⟩ | exact ⟨cell_keep hb1 (show wg.drew.cell? _ = _ from g0), cell_keep hb1 (show wg.drew.cell? _ = _ from g1), cell_keep hb1 (show wg.drew.cell? _ = _ from g2), cell_keep hb1 (show wg.drew.cell? _ = _ from g3), cell_keep hb1 (show wg.drew.cell? _ = _ from g4)⟩ | exact ⟨g0, g1, g2, g3, g4⟩ | go_keep)
          (first | (go_at_call 49; refine (KF w1).out.mono ?_; rintro e w2 ⟨rfl, hb2⟩) | (go_at_call 49; refine (KF wg.drew).out.mono ?_; rintro e w1 ⟨rfl, hb1⟩))
        go_wp2_with fail
        go_ret
        exact ⟨rfl, (HB0.out.drew.trans (hb1.mono HB0.out.size)).trans (hb2.mono (Nat.le_trans HB0.out.size hb1.size))⟩
      rw [decide_eq_true rfl, decide_eq_true rfl, decide_eq_true rfl, decide_eq_true ec, decide_eq_true ek] at HNO HYES
      simp only [Bool.true_and] at HNO HYES
      subst ek
      go_wp2_with fail
      generalize hwg : wr.alloc (Obj.cells #[Value.int IntKind.i64 6, Value.string t, Value.int IntKind.i64 0, .slice x3 0 p3, .slice x4 N p4] 44) = wg at *
      clear hwg
      generalize wr.heap.size = g at *
      obtain ⟨-, g0, g1, g2, g3, g4⟩ := G0.out
      go_region_held3 (fun w' => w'.cell? ⟨g, 0, none⟩ = some (.int .i64 6) ∧ w'.cell? ⟨g, 1, none⟩ = some (.string t) ∧ w'.cell? ⟨g, 2, none⟩ = some (.int .i64 0) ∧ w'.cell? ⟨g, 3, none⟩ = some (.slice x3 0 p3) ∧ w'.cell? ⟨g, 4, none⟩ = some (.slice x4 N p4))
        (first | exact ⟨cell_keep hb2 (cell_keep hb1 (show wg.drew.cell? _ = _ from g0)), cell_keep hb2 (cell_keep hb1 (show wg.drew.cell? _ = _ from g1)), cell_keep hb2 (cell_keep hb1 (show wg.drew.cell? _ = _ from g2)), cell_keep hb2 (cell_keep hb1 (show wg.drew.cell? _ = _ from g3)), cell_keep hb2 (cell_keep hb1 (show wg.drew.cell? _ = _ from g4))⟩ | exact ⟨cell_keep hb1 (show wg.drew.cell? _ = _ from g0), cell_keep hb1 (show wg.drew.cell? _ = _ from g1), cell_keep hb1 (show wg.drew.cell? _ = _ from g2), cell_keep hb1 (show wg.drew.cell? _ = _ from g3), cell_keep hb1 (show wg.drew.cell? _ = _ from g4)⟩ | exact ⟨g0, g1, g2, g3, g4⟩ | go_keep)
        (first | (go_at_call 49; refine (KF w1).out.mono ?_; rintro e w2 ⟨rfl, hb2⟩) | (go_at_call 49; refine (KF wg.drew).out.mono ?_; rintro e w1 ⟨rfl, hb1⟩))
      have B1 := HB0.out.drew.trans (hb1.mono HB0.out.size)
      have B2 := Lib.hid (B1.trans (hb2.mono B1.size))
      have G2 := Lib.hid (((G0.out.step (w' := wg.drew) ((Below.refl _ _).drew)).step hb1).step hb2)
      clear hb1 hb2 B1 g0 g1 g2 g3 g4 G0 HB0
      have y4 := G2.out.a4
      go_wp2_with fail
      clear y4
      go_loopw [5] (fun j wr2 => ∃ q : Nat, q ≤ N ∧ j = .int .i64 q ∧ Below w2.heap.size w2 wr2 ∧ Hid (∀ j (h : j < ks.length), j < q → right ks[j] false = true)) (fun j _ => N - (intOf j).toNat)
      case atStart => exact ⟨0, by omega, rfl, Below.refl _ _, fun j _ h => by omega⟩
      case round =>
        rename_i wr2
        obtain ⟨q, hq, rfl, hbw2, HQ⟩ := hrel
        have y4 := (G2.out.step hbw2).a4
        have HB3 := Lib.hid (B2.out.trans (hbw2.mono B2.out.size))
        have HBW2 := Lib.hid hbw2; clear hbw2
        by_cases hlq : q < N
        · have hqk : q < ks.length := by rw [HNK.out]; exact hlq
          obtain ⟨b4, o4, rfl, _, hrw⟩ := HROW.out (by omega)
          obtain ⟨un, uk, e0, e1, e2, e3, e4, hu⟩ := (row_iff ks o4).1 hrw q hqk
          replace e0 := cell_keep HB3.out e0
          replace e1 := cell_keep HB3.out e1
          replace e2 := cell_keep HB3.out e2
          replace e3 := cell_keep HB3.out e3
          replace e4 := cell_keep HB3.out e4
          have hwk : weight ks[q] ≤ 1048576 := by have := weight_kid ks q hqk; have := HWT.out; omega
          have KI := Lib.hid (IK.out _ (List.getElem_mem hqk) lo _ un uk false hwk (hu.below HB3.out))
          clear hu hrw hwk
          generalize hkq : ks[q] = kq at *
          have HKQ := Lib.hid hkq; clear hkq
          by_cases hrt : right kq false = true
          · rw [hrt] at KI
            have HRT := Lib.hid hrt; clear hrt
            go_wp2_with fail
            refine KI.out.mono ?_
            rintro r w4 ⟨rfl, hb4⟩
            have HB4 := Lib.hid (HBW2.out.trans (hb4.mono HBW2.out.size))
            clear e0 e1 e2 e3 e4 y4 hb4 HB3 HBW2
            go_wp2_with fail
            go_roundw
            case rel =>
              refine ⟨q + 1, by omega, by go_num, HB4.out, fun j hj hjq => ?_⟩
              by_cases e : j = q
              · subst e; rw [HKQ.out]; exact HRT.out
              · exact HQ.out j hj (by omega)
            case measure => simp [intOf]; omega
          · rw [Bool.not_eq_true] at hrt
            rw [hrt] at KI
            have hD : D = false := HNO.out (by
              rw [rights_false, List.all_eq_false]
              exact ⟨ks[q], List.getElem_mem hqk, by rw [HKQ.out, hrt]; simp⟩)
            subst hD
            clear hrt
            go_wp2_with fail
            refine KI.out.mono ?_
            rintro r w4 ⟨rfl, hb4⟩
            have HB4 := Lib.hid (HB3.out.trans (hb4.mono HB3.out.size))
            clear e0 e1 e2 e3 e4 y4 hb4 HB3 HBW2
            go_wp2_with fail
            go_ret
            exact ⟨rfl, HB4.out⟩
        · have HY := Lib.hid (HYES.out (by
            rw [rights_false, List.all_eq_true]
            intro x hx
            obtain ⟨j, hj, rfl⟩ := List.getElem_of_mem hx
            exact HQ.out j hj (by have := HNK.out; omega)))
          go_wp2_with fail
          go_roundw
          case rel => exact ⟨i + 1, by omega, by go_num, HB3.out, HY.out⟩
          case measure => simp [intOf]; omega
    · have hD : D = true := by
        rw [← HD.out, List.all_eq_true]
        intro x hx
        obtain ⟨j, hj, rfl⟩ := List.getElem_of_mem hx
        exact HI.out j hj (by have := HN.out; omega)
      subst hD
      go_wp2_with fail
      go_ret
      exact ⟨rfl, hbw⟩
end Go.Proofs.YtdohpppkdecbdaaGreatDoor.SpecRight

namespace Go.Proofs.YtdohpppkdecbdaaGreatDoor.SpecRight
open Go.RowKit
open Strs Tree Texts TreeBox SpecNode
theorem msgs_any (lo : Nat) (ms : List E) (v : Value) (w : World) (ih : ∀ m, m ∈ ms → ∀ g, g ∈ m.kids → Ok g) (hw : weights ms ≤ 1048576) (h : KidsAt lo w ms v) :
    Calls Tryz.prog 61 #[v] w fun r w' => r = .returned (.bool (msgs ms)) ∧ Below w.heap.size w w' := by
  obtain ⟨a, cap, rfl, hm, hc⟩ := h
  by_cases hp : 0 < ms.length
  · obtain ⟨b, off, rfl, _, hr⟩ := hc hp
    exact msgs_cons lo b off cap _ ms w ih hw rfl (Nat.le_trans hm.1 hm.2) hr
  · have : ms = [] := List.eq_nil_of_length_eq_zero (by omega)
    subst this
    exact msgs_nil a cap w
theorem lens_mem {xs : List ByteArray} {x : ByteArray} (h : x ∈ xs) : x.size ≤ lens xs := by
  obtain ⟨j, hj, rfl⟩ := List.getElem_of_mem h
  exact len_kid xs j hj
theorem node_any (lo : Nat) (k : Int) (t : ByteArray) (n : Int) (ns : List ByteArray) (ks : List E) (w : World) (vn vk : Value) (ih : ∀ m, m ∈ ks → ∀ g, g ∈ m.kids → Ok g)
    (hw : weight (.mk k t n ns ks) ≤ 1048576) (hnode : NodeAt lo w (.mk k t n ns ks) vn vk) :
    Calls Tryz.prog 45 #[.agg #[.int .i64 k, .string t, .int .i64 n, vn, vk]] w fun r w' => r = .returned (.bool (node k t n ns ks.length (tailOk ks))) ∧ Below w.heap.size w w' := by
  rw [weight] at hw
  obtain ⟨-, -, -, hns, hks⟩ := node_iff.1 hnode
  simp only [E.names, E.kids] at hns hks
  obtain ⟨a1, cap1, rfl, hm1, hc1⟩ := id hks
  have ht : t.size ≤ 1048576 := by omega
  by_cases h8 : k = 8
  · subst h8
    have e : node 8 t n ns ks.length (tailOk ks) = (ns.all Tok.isName && (decide (t.size = 0) && decide (0 ≤ n ∧ n ≤ (ns.length : Int)))) := by simp [node]
    rw [e]
    exact kind8 lo t n ns vn a1 _ cap1 w hns (fun x hx => by have := lens_mem hx; omega)
  obtain ⟨a3, cap3, rfl, hm3, -⟩ := hns
  by_cases hM : 0 < ns.length
  · have e : node k t n ns ks.length (tailOk ks) = false := if_pos (.inl ⟨h8, hM⟩)
    rw [e]
    exact bad1 k n t _ a3 a1 cap3 _ cap1 w h8 hM
  have hM0 : ns.length = 0 := by omega
  rw [hM0]
  by_cases h1 : k = 1
  · subst h1
    have e : node 1 t n ns ks.length (tailOk ks) = (decide (t.size = 0) && (decide (0 ≤ n ∧ n ≤ 999999999) && decide (ks.length = 0))) := by simp [node, hM0]
    rw [e]
    exact kind1 t n a3 a1 cap3 _ cap1 w
  by_cases hn : n = 0
  case neg =>
    have e : node k t n ns ks.length (tailOk ks) = false := if_pos (.inr ⟨h1, h8, hn⟩)
    rw [e]
    exact bad2 k n t a3 a1 cap3 _ cap1 w (ne_of h8) (ne_of h1) (ne_of hn)
  subst hn
  have e0 : ∀ len ms, node k t 0 ns len ms = (if k = 2 then isText t && decide (len = 0) else if k = 3 then Tok.sel t && decide (len = 0) else if k = 4 then Tok.isName t && decide (len = 0) else if k = 5 then Tok.isName t && decide (len = 1)
      else if k = 6 then decide ((len : Int) = Tok.countArgs t + 1) && decide (0 < len) else if k = 7 then decide (t.size = 0) && (decide (3 ≤ len) && ms) else if k = 9 then decide (t.size = 0) && decide (len = 1) else false) := by
    intro len ms
    unfold node
    rw [if_neg (by omega), if_neg h1, if_neg h8]
  rw [e0]
  by_cases h2 : k = 2
  · subst h2; exact kind2 t a3 a1 cap3 _ cap1 w ht
  rw [if_neg h2]
  by_cases h3 : k = 3
  · subst h3; exact kind3 t a3 a1 cap3 _ cap1 w ht
  rw [if_neg h3]
  by_cases h4 : k = 4
  · subst h4; exact kind4 t a3 a1 cap3 _ cap1 w ht
  rw [if_neg h4]
  by_cases h5 : k = 5
  · subst h5; exact kind5 t a3 a1 cap3 _ cap1 w ht
  rw [if_neg h5]
  by_cases h6 : k = 6
  · subst h6; exact kind6 t a3 a1 cap3 _ cap1 w ht
  rw [if_neg h6]
  by_cases h7 : k = 7
  · subst h7
    rw [if_pos rfl]
    refine kind7 t (tailOk ks) a3 a1 cap3 _ cap1 w hm1 (fun h => ?_) (fun h bl off w' ha hb => ?_)
    · obtain ⟨b, off, e, _⟩ := hc1 (by omega); exact ⟨b, off, e⟩
    · obtain ⟨b, off', e, hlo, hr⟩ := hc1 (by omega)
      rw [ha] at e
      obtain ⟨rfl, rfl⟩ : bl = b ∧ off = off' := by injection e with e; injection e with e1 e2 e3; exact ⟨e1, e2⟩
      cases ks with
      | nil => simp at h
      | cons x xs =>
        rw [weights] at hw
        rw [Row] at hr
        have hrow := hr.2
        have hk : KidsAt lo w xs (.slice (some ⟨bl, off + 5, none⟩) ((x :: xs).length - 1) (cap1 - 1)) :=
          ⟨some ⟨bl, off + 5, none⟩, cap1 - 1, by rw [List.length_cons, Nat.add_sub_cancel], ⟨by have := hm1.1; rw [List.length_cons] at this; omega, by have := hm1.2; omega⟩, fun _ => ⟨bl, off + 5, rfl, hlo, hrow⟩⟩
        exact msgs_any lo xs _ w' (fun m hmem => ih m (by simp [hmem])) (by omega) (hk.below hb)
  rw [if_neg h7]
  by_cases h9 : k = 9
  · subst h9; exact kind9 t a3 a1 cap3 _ cap1 w
  rw [if_neg h9]
  exact other k t a3 a1 cap3 _ cap1 w h1 h2 h3 h4 h5 h6 h7 h8 h9
end Go.Proofs.YtdohpppkdecbdaaGreatDoor.SpecRight
