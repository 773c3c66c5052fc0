/-
  spec.Tokens: the tokens of a source, in a row of its own. It writes nothing that was there. The source has at most 1048576 bytes.
-/
import Derived.Test.YtamjfbjkdicmcaaGreatDoorBSpecNext
import Derived.Test.YtamjfbjkdicmcaaGreatDoorBTokStep
namespace Go.Proofs.YtamjfbjkdicmcaaGreatDoor.SpecTokens
open Go.RowKit
open Strs SpecTok SpecName SpecRead2 SpecSel SpecStarts SpecSymbol SpecQuoted SpecNext
theorem infoT : (Tryz.prog.info? 31).map (fun i => (i.zero, i.size, i.bytes)) = some (some (.agg #[.int .i64 0, .string ByteArray.empty, .int .i64 0]), 3, 32) := by kernel_rfl
def cells (t : Tok.T) : _root_.List Value := [.int .i64 t.kind, .string t.text, .int .i64 t.num]
def row (ts : _root_.List Tok.T) : _root_.List Value := ts.flatMap cells
theorem row_snoc (ts : _root_.List Tok.T) (t : Tok.T) : row (ts ++ [t]) = row ts ++ cells t := by simp [row]
def Read (r : Option (_root_.List Tok.T)) (w : World) (e : Ending) (w' : World) : Prop :=
  match r with
  | none => e = .returned (.tuple #[.slice none 0 0, .bool false]) ∧ Below w.heap.size w w'
  | some ts => ∃ v, e = .returned (.tuple #[v, .bool true]) ∧ w'.ownsRow w.heap.size 31 3 v ts.length (row ts) ∧ Below w.heap.size w w'
theorem three_cells (w : World) (a b c : Value) (t : TypeId) : ∀ (j : Nat) (u : Value), [a, b, c][j]? = some u → (w.alloc (.cells #[a, b, c] t)).cell? ((⟨w.heap.size, 0, none⟩ : Addr).add j) = some u := by
  intro j u hj
  match j, hj with
  | 0, hj => simp at hj; subst hj; simp [Addr.add]
  | 1, hj => simp at hj; subst hj; simp [Addr.add]
  | 2, hj => simp at hj; subst hj; simp [Addr.add]
theorem three_cells2 (w : World) (o : Obj) (a b c : Value) (t : TypeId) : ∀ (j : Nat) (u : Value), [a, b, c][j]? = some u → ((w.alloc o).alloc (.cells #[a, b, c] t)).cell? ((⟨w.heap.size + 1, 0, none⟩ : Addr).add j) = some u := by
  have h := three_cells (w.alloc o) a b c t
  have e : (w.alloc o).heap.size = w.heap.size + 1 := by simp
  rw [e] at h
  exact h
theorem three_one (k : Int) (t : ByteArray) (n : Int) : ∀ u : Value, u ∈ [Value.int .i64 k, .string t, .int .i64 n] → u.oneCell' = true := by
  intro u hu; simp at hu; rcases hu with rfl | rfl | rfl <;> rfl
theorem app_below3 {w wr w' : World} {base : Nat} {e : TypeId} {o : Obj} {v : Value} {n : Nat} {xs : _root_.List Value} (hb : base ≤ w.heap.size) (h : Below base w wr) (hown : wr.ownsRow base e 3 v n xs) (hg : (wr.alloc o).grownBy w' v.ownBlock) : Below base w w' := by
  have h1 : base ≤ wr.heap.size := Nat.le_trans hb h.size
  exact (h.alloc h1 o).grown hg (by simp; omega) (fun k hk => (hown.lt k hk).1)
set_option maxRecDepth 10000 in
set_option maxHeartbeats 4000000 in
theorem tokens_big (s : ByteArray) (w : World) (hs : s.size ≤ 1048576) (h4 : 4000 < s.size) :
    Calls Tryz.prog 7 #[.string s] w (Read (Tok.tokens s) w) := by
  have HV := Lib.hid (Tok.tokens_long s h4)
  have hp : (0 : Int) < (s.size : Int) := by omega
  have h4i : (4000 : Int) < (s.size : Int) := by omega
  go_enter Tryz.func7, Tryz.ntmps7
  go_wp2_with fail
  refine wp_loop_rounds 1 ?_
  rw [rounds_succ]
  go_wp2_with fail
  go_ret2
  rw [HV.out]
  exact ⟨rfl, (Below.refl _ _).alloc (Nat.le_refl _) _⟩
theorem byteN (c : UInt8) (n : Nat) (h : (c.toNat : Int) = (n : Nat)) : c = UInt8.ofNat n := by
  have : c.toNat = n := by omega
  rw [← this, UInt8.ofNat_toNat]
set_option maxRecDepth 10000 in
set_option maxHeartbeats 8000000 in
theorem tokens_small (s : ByteArray) (w : World) (h4 : ¬ 4000 < s.size) :
    Calls Tryz.prog 7 #[.string s] w (Read (Tok.tokens s) w) := by
  obtain ⟨i0, hi, hz0, hz1, hz2⟩ := info_parts infoT
  have HV := Lib.hid (Tok.tokens_short s h4)
  have h4i : ¬ (4000 : Int) < (s.size : Int) := by omega
  have HLEN : Hid (s.data.toList.length = s.size) := len_list s
  go_enter Tryz.func7, Tryz.ntmps7
  go_wp2_with fail
  go_loopw [4, 5] (fun v j wr => ∃ (f p : Nat) (acc : _root_.List Tok.T), p ≤ s.size ∧ s.size < f + p ∧ acc.length ≤ 800 ∧ j = .int .i64 p ∧ Tok.tokens s = Tok.toks s f p acc ∧
      wr.ownsRow w.heap.size 31 3 v acc.length (row acc) ∧ Below w.heap.size w wr) (fun _ j _ => s.size - (intOf j).toNat)
  case atStart =>
    exact ⟨s.size + 1, 0, [], by omega, by omega, by simp, rfl, HV.out, World.ownsRow_lit w #[] 0 (Nat.le_refl _) (Nat.zero_le _) rfl, (Below.refl _ _).alloc (Nat.le_refl _) _⟩
  case round =>
    obtain ⟨f, p, acc, hpl, hfp, hacc, rfl, hgo, hown, hbw⟩ := hrel
    have HGO := Lib.hid hgo; clear hgo
    obtain ⟨f, rfl⟩ : ∃ g, f = g + 1 := ⟨f - 1, by omega⟩
    obtain ⟨ra, rc, rfl⟩ := Kit.row_form hown
    have HO := Lib.hid hown; clear hown
    have hbs := hbw.size
    by_cases hlt : p < s.size
    · have hlt' : p < s.data.toList.length := by rw [HLEN.out]; exact hlt
      have hx : s.data.toList[p]'hlt' = s[p]'hlt := rfl
      by_cases e32 : ((s[p]'hlt).toNat : Int) = 32
      · have t32 : (((s[p]'hlt).toNat : Int) == 32) = true := by simpa using e32
        have HG2 : Hid (Tok.tokens s = Tok.toks s f (p + 1) acc) := HGO.out.trans (Tok.toks_skip s f p acc hlt' (by rw [hx]; exact .inl (byteN _ 32 e32)))
        clear hx e32
        go_wp2_with fail
        go_roundw
        case rel => exact ⟨f, p + 1, acc, by omega, by omega, hacc, by go_num, HG2.out, HO.out, hbw⟩
        case measure => simp [intOf]; omega
      · have t32 : (((s[p]'hlt).toNat : Int) == 32) = false := by simpa using e32
        by_cases e10 : ((s[p]'hlt).toNat : Int) = 10
        · have t10 : (((s[p]'hlt).toNat : Int) == 10) = true := by simpa using e10
          have HG2 : Hid (Tok.tokens s = Tok.toks s f (p + 1) acc) := HGO.out.trans (Tok.toks_skip s f p acc hlt' (by rw [hx]; exact .inr (.inl (byteN _ 10 e10))))
          clear hx e10
          go_wp2_with fail
          go_roundw
          case rel => exact ⟨f, p + 1, acc, by omega, by omega, hacc, by go_num, HG2.out, HO.out, hbw⟩
          case measure => simp [intOf]; omega
        · have t10 : (((s[p]'hlt).toNat : Int) == 10) = false := by simpa using e10
          by_cases e9 : ((s[p]'hlt).toNat : Int) = 9
          · have t9 : (((s[p]'hlt).toNat : Int) == 9) = true := by simpa using e9
            have HG2 : Hid (Tok.tokens s = Tok.toks s f (p + 1) acc) := HGO.out.trans (Tok.toks_skip s f p acc hlt' (by rw [hx]; exact .inr (.inr (byteN _ 9 e9))))
            clear hx e9
            go_wp2_with fail
            go_roundw
            case rel => exact ⟨f, p + 1, acc, by omega, by omega, hacc, by go_num, HG2.out, HO.out, hbw⟩
            case measure => simp [intOf]; omega
          · have t9 : (((s[p]'hlt).toNat : Int) == 9) = false := by simpa using e9
            have hws : ¬ (s.data.toList[p]'hlt' = 32 ∨ s.data.toList[p]'hlt' = 10 ∨ s.data.toList[p]'hlt' = 9) := by
              rw [hx]; intro h; rcases h with h | h | h
              · exact e32 (by rw [h]; rfl)
              · exact e10 (by rw [h]; rfl)
              · exact e9 (by rw [h]; rfl)
            clear e32 e10 e9
            by_cases e34 : ((s[p]'hlt).toNat : Int) = 34
            · have t34 : (((s[p]'hlt).toNat : Int) == 34) = true := by simpa using e34
              have hc34 : s.data.toList[p]'hlt' = 34 := by rw [hx]; exact byteN _ 34 e34
              have HNO := Lib.hid (Tok.toks_open s f p acc hlt' hc34)
              have HCO := fun q => Lib.hid (Tok.toks_comment s f p q acc hlt' hc34)
              clear hc34 hx e34 hws
              obtain ⟨wo, rfl⟩ : ∃ wo : World, wo = wr := ⟨_, rfl⟩
              go_wp2_with fail
              go_loop [5] (fun j => ∃ i : Nat, p + 1 ≤ i ∧ i ≤ s.size ∧ j = .int .i64 i ∧ Tok.qend s.data.toList (p + 1) = Tok.qend s.data.toList i) (fun j => s.size - (intOf j).toNat)
              case atStart => exact ⟨p + 1, Nat.le_refl _, by omega, by go_num, rfl⟩
              case round =>
                obtain ⟨i, hpi, hil, rfl, hq⟩ := hrel
                have HQ := Lib.hid hq; clear hq
                by_cases hli : i < s.size
                · have hli' : i < s.data.toList.length := by rw [HLEN.out]; exact hli
                  have hxi : s.data.toList[i]'hli' = s[i]'hli := rfl
                  by_cases e : ((s[i]'hli).toNat : Int) = 34
                  · have ti : (((s[i]'hli).toNat : Int) != 34) = false := by simpa using e
                    have hie : ((i : Int) == (s.size : Int)) = false := by rw [beq_eq_false_iff_ne]; omega
                    have HQ2 : Hid (Tok.qend s.data.toList (p + 1) = i) := HQ.out.trans (Tok.qend_stop _ i (fun _ => by rw [hxi]; exact byteN _ 34 e))
                    have HG2 : Hid (Tok.tokens s = Tok.toks s f (i + 1) acc) := HGO.out.trans ((HCO i).out HQ2.out hli')
                    clear hxi e
                    go_wp2_with fail
                    go_roundw
                    case rel => exact ⟨f, i + 1, acc, by omega, by omega, hacc, by go_num, HG2.out, HO.out, hbw⟩
                    case measure => simp [intOf]; omega
                  · have ti : (((s[i]'hli).toNat : Int) != 34) = true := by simpa using e
                    have HQ2 : Hid (Tok.qend s.data.toList (p + 1) = Tok.qend s.data.toList (i + 1)) := HQ.out.trans (Tok.qend_go _ i hli' (by rw [hxi]; intro h; exact e (by rw [h]; rfl)))
                    clear hxi e
                    go_wp2_with fail
                    go_round
                    case rel => exact ⟨i + 1, by omega, by omega, by go_num, HQ2.out⟩
                    case measure => simp [intOf]; omega
                · have hie : ((i : Int) == (s.size : Int)) = true := by rw [beq_iff_eq]; omega
                  have HQ2 : Hid (Tok.qend s.data.toList (p + 1) = i) := HQ.out.trans (Tok.qend_stop _ i (fun h => by rw [HLEN.out] at h; omega))
                  have HN : Hid (Tok.tokens s = none) := HGO.out.trans (HNO.out (by rw [HQ2.out, HLEN.out]; exact hli))
                  go_wp2_with fail
                  go_ret2
                  rw [HN.out]
                  exact ⟨rfl, hbw⟩
            · have t34 : (((s[p]'hlt).toNat : Int) == 34) = false := by simpa using e34
              have h34 : ¬ s.data.toList[p]'hlt' = 34 := by rw [hx]; intro h; exact e34 (by rw [h]; rfl)
              have KN := Lib.hid (next_any s p p wr rfl hlt (by omega))
              have H1 := Lib.hid (Tok.toks_none s f p acc hlt' hws h34)
              have H2 := fun t e => Lib.hid (Tok.toks_full s f p acc hlt' hws h34 t e)
              have H3 := fun t e => Lib.hid (Tok.toks_more s f p acc hlt' hws h34 t e)
              have HS := fun t e => Lib.hid (Tok.next_step s p hlt' t e)
              rw [hx] at H1
              simp only [hx] at H2 H3 HS
              clear hws h34 hx e34
              generalize Tok.next s p (s[p]'hlt) = r at *
              match r with
              | none =>
                have HN : Hid (Tok.tokens s = none) := HGO.out.trans (H1.out rfl)
                clear H1 H2 H3 HS
                go_wp2_with fail
                refine KN.out.mono ?_
                rintro e' w5 ⟨rfl, hb5⟩
                have HB5 : Hid (Below w.heap.size w w5) := hbw.trans (hb5.mono hbs)
                have hs5 : w.heap.size ≤ w5.heap.size := HB5.out.size
                clear hb5 hbw HO
                simp only [tv]
                go_wp2_with fail
                go_ret2
                rw [HN.out]
                exact ⟨rfl, HB5.out.alloc hs5 _⟩
              | some (t, e) =>
                obtain ⟨hpe, hes, hk⟩ := (HS t e).out rfl
                have hkf : (t.kind == 0) = false := by rw [beq_eq_false_iff_ne]; exact hk
                by_cases h8 : (800 : Int) ≤ (acc.length : Int)
                · have HN : Hid (Tok.tokens s = none) := HGO.out.trans ((H2 t e).out rfl (by omega))
                  clear H1 H2 H3 HS hk
                  go_wp2_with fail
                  refine KN.out.mono ?_
                  rintro e' w5 ⟨rfl, hb5⟩
                  have HB5 : Hid (Below w.heap.size w w5) := hbw.trans (hb5.mono hbs)
                  have hs5 : w.heap.size ≤ w5.heap.size := HB5.out.size
                  clear hb5 hbw HO
                  simp only [tv]
                  go_wp2_with fail
                  go_ret2
                  rw [HN.out]
                  exact ⟨rfl, HB5.out.alloc hs5 _⟩
                · have HG2 : Hid (Tok.tokens s = Tok.toks s f e (acc ++ [t])) := HGO.out.trans ((H3 t e).out rfl (by omega))
                  clear H1 H2 H3 HS hk
                  go_wp2_with fail
                  refine KN.out.mono ?_
                  rintro e' w5 ⟨rfl, hb5⟩
                  have HB5 : Hid (Below w.heap.size w w5) := hbw.trans (hb5.mono hbs)
                  have hs5 : w.heap.size ≤ w5.heap.size := HB5.out.size
                  have HO5 := Lib.hid (own_keep HO.out hb5)
                  clear hb5 hbw HO
                  simp only [tv]
                  set_option maxRecDepth 10000 in
                  go_wp2_with (at_builtin; go_must (refine wpList_append_own _ rfl _ _ 24 rfl w.heap.size 31 i0 (.agg #[.int .i64 0, .string ByteArray.empty, .int .i64 0]) 3 32 Tryz.underlying24 hi hz0 hz1 hz2 rfl (by decide) _ _ _ rfl ((HO5.out.alloc _).alloc _) ⟨w5.heap.size + 1, 0, none⟩ 1 1 [.int .i64 t.kind, .string t.text, .int .i64 t.num] rfl rfl ?c1 ?c2 ?c3 ?c4 ?c5 ?_))
                  case c1 => exact three_cells2 w5 _ _ _ _ _
                  case c2 => exact three_one _ _ _
                  case c3 => unfold maxLen; omega
                  case c4 => omega
                  case c5 => simp; omega
                  intro v' w1 hown' hgr _
                  have HOWN := Lib.hid hown'
                  have HGR := Lib.hid hgr
                  clear hown' hgr
                  go_wp2_with fail
                  go_roundw
                  case rel =>
                    refine ⟨f, e, acc ++ [t], hes, by omega, by simp; omega, rfl, HG2.out, ?_, ?_⟩
                    · rw [row_snoc]
                      simpa [cells] using HOWN.out
                    · exact app_below3 (Nat.le_refl _) (HB5.out.alloc hs5 _) (HO5.out.alloc _) HGR.out
                  case measure => simp [intOf]; omega
    · have HE : Hid (Tok.tokens s = some acc) := HGO.out.trans (Tok.toks_end s f p acc (by rw [HLEN.out]; exact hlt))
      go_wp2_with fail
      go_ret2
      rw [HE.out]
      exact ⟨_, rfl, HO.out, hbw⟩
end Go.Proofs.YtamjfbjkdicmcaaGreatDoor.SpecTokens
