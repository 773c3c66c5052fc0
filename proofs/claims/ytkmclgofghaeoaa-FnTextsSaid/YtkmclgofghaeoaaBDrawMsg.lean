/-
  spec.DrawBasicMessage draws a right value, a selector and values.
-/
import Derived.Test.YtkmclgofghaeoaaBAppendTexts
import Derived.Test.YtkmclgofghaeoaaBDrawVal2
import Derived.Test.YtkmclgofghaeoaaBSpecSel
import Derived.Maps.AppendAt
import Derived.Deep.Cut
namespace Go.Proofs.Ytkmclgofghaeoaa.DrawVal
open Go.RowKit
open Strs Sto Bas SpecBas Cur Draw
set_option linter.unusedVariables false
def sels : List ByteArray := [⟨#[43]⟩, ⟨#[45]⟩, ⟨#[42]⟩, ⟨#[47, 47]⟩, ⟨#[92, 92]⟩, ⟨#[60]⟩, ⟨#[62]⟩, ⟨#[60, 61]⟩, ⟨#[62, 61]⟩, ⟨#[109, 97, 120, 58]⟩, ⟨#[109, 105, 110, 58]⟩, ⟨#[110, 101, 103, 97, 116, 101, 100]⟩, ⟨#[97, 98, 115]⟩, ⟨#[110, 111, 116]⟩, ⟨#[38]⟩, ⟨#[115, 105, 122, 101]⟩, ⟨#[44]⟩, ⟨#[97, 116, 58]⟩, ⟨#[97, 115, 83, 121, 109, 98, 111, 108]⟩, ⟨#[97, 115, 73, 110, 116, 101, 103, 101, 114]⟩, ⟨#[97, 115, 83, 116, 114, 105, 110, 103]⟩, ⟨#[61]⟩, ⟨#[61, 61]⟩, ⟨#[126, 61]⟩, ⟨#[126, 126]⟩, ⟨#[105, 115, 78, 105, 108]⟩, ⟨#[110, 111, 116, 78, 105, 108]⟩, ⟨#[121, 111, 117, 114, 115, 101, 108, 102]⟩, ⟨#[115, 112, 101, 99, 105, 101, 115]⟩, ⟨#[112, 114, 105, 110, 116, 83, 116, 114, 105, 110, 103]⟩, ⟨#[105, 115, 75, 105, 110, 100, 79, 102, 58]⟩, ⟨#[99, 111, 112, 121]⟩, ⟨#[98, 101, 99, 111, 109, 101, 58]⟩, ⟨#[97, 116, 58, 112, 117, 116, 58]⟩, ⟨#[110, 101, 119]⟩, ⟨#[110, 101, 119, 58]⟩, ⟨#[110, 97, 109, 101]⟩, ⟨#[115, 117, 112, 101, 114, 99, 108, 97, 115, 115]⟩, ⟨#[115, 104, 111, 119, 58]⟩, ⟨#[109, 101, 115, 115, 97, 103, 101, 84, 101, 120, 116]⟩, ⟨#[109, 101, 115, 115, 97, 103, 101, 84, 101, 120, 116, 58]⟩, ⟨#[109, 105, 115, 115, 105, 110, 103]⟩, ⟨#[102, 111, 111, 58, 98, 97, 114, 58]⟩]
theorem sels_le : ∀ s ∈ sels, s.size ≤ 20 := by decide +kernel
set_option maxHeartbeats 2000000 in
theorem sel_any {g : Nat} {a : Option Addr} {len cap : Nat} {w : World} (hc : Cur w g a len cap) (hb : Bytes w g a len) :
    Calls Try.prog 12 #[.pointer (some ⟨g, 0, none⟩)] w fun e w' => ∃ s : ByteArray, s.size ≤ 20 ∧ e = .returned (.string s) ∧ Cur w' g a len cap ∧ Bytes w' g a len ∧ w.grownBy w' (some g) := by
  have K := Lib.hid (pick_lit hc hb sels #[.string ⟨#[43]⟩, .string ⟨#[45]⟩, .string ⟨#[42]⟩, .string ⟨#[47, 47]⟩, .string ⟨#[92, 92]⟩, .string ⟨#[60]⟩, .string ⟨#[62]⟩, .string ⟨#[60, 61]⟩, .string ⟨#[62, 61]⟩, .string ⟨#[109, 97, 120, 58]⟩, .string ⟨#[109, 105, 110, 58]⟩, .string ⟨#[110, 101, 103, 97, 116, 101, 100]⟩, .string ⟨#[97, 98, 115]⟩, .string ⟨#[110, 111, 116]⟩, .string ⟨#[38]⟩, .string ⟨#[115, 105, 122, 101]⟩, .string ⟨#[44]⟩, .string ⟨#[97, 116, 58]⟩, .string ⟨#[97, 115, 83, 121, 109, 98, 111, 108]⟩, .string ⟨#[97, 115, 73, 110, 116, 101, 103, 101, 114]⟩, .string ⟨#[97, 115, 83, 116, 114, 105, 110, 103]⟩, .string ⟨#[61]⟩, .string ⟨#[61, 61]⟩, .string ⟨#[126, 61]⟩, .string ⟨#[126, 126]⟩, .string ⟨#[105, 115, 78, 105, 108]⟩, .string ⟨#[110, 111, 116, 78, 105, 108]⟩, .string ⟨#[121, 111, 117, 114, 115, 101, 108, 102]⟩, .string ⟨#[115, 112, 101, 99, 105, 101, 115]⟩, .string ⟨#[112, 114, 105, 110, 116, 83, 116, 114, 105, 110, 103]⟩, .string ⟨#[105, 115, 75, 105, 110, 100, 79, 102, 58]⟩, .string ⟨#[99, 111, 112, 121]⟩, .string ⟨#[98, 101, 99, 111, 109, 101, 58]⟩, .string ⟨#[97, 116, 58, 112, 117, 116, 58]⟩, .string ⟨#[110, 101, 119]⟩, .string ⟨#[110, 101, 119, 58]⟩, .string ⟨#[110, 97, 109, 101]⟩, .string ⟨#[115, 117, 112, 101, 114, 99, 108, 97, 115, 115]⟩, .string ⟨#[115, 104, 111, 119, 58]⟩, .string ⟨#[109, 101, 115, 115, 97, 103, 101, 84, 101, 120, 116]⟩, .string ⟨#[109, 101, 115, 115, 97, 103, 101, 84, 101, 120, 116, 58]⟩, .string ⟨#[109, 105, 115, 115, 105, 110, 103]⟩, .string ⟨#[102, 111, 111, 58, 98, 97, 114, 58]⟩] 43 rfl rfl (by decide) (by decide))
  clear hc hb
  go_enter Try.func12, Try.ntmps12
  go_wp2_with fail
  refine K.out.mono ?_
  rintro e w1 ⟨s, hs, rfl, hc, hb, hg⟩
  have HS := Lib.hid (sels_le s hs)
  have HC := Lib.hid hc
  have HB := Lib.hid hb
  have HG := Lib.hid hg
  clear hc hb hg K hs
  go_wp2_with fail
  go_ret
  exact ⟨s, HS.out, rfl, HC.out, HB.out, HG.out⟩
structure DB (W : World) (a : Option Addr) (len cap sb vb : Nat) (ab : Nat) (sa : Option Addr) (v : V) (wx : World) : Prop where
  bel : Below W.heap.size W wx
  cur : Cur wx W.heap.size a len cap
  raw : Raw W a len
  s0 : wx.cell? ⟨sb, 0, none⟩ = some (.slice sa 16 16)
  s1 : wx.cell? ⟨sb, 1, none⟩ = some (.slice none 0 0)
  vx : VB vb v wx
  h1 : W.heap.size < sb
  h2 : sb < vb
  h3 : vb < ab
  h4 : ab ≤ wx.heap.size
theorem DB.bytes {W wx : World} {a : Option Addr} {len cap sb vb ab : Nat} {sa : Option Addr} {v : V} (h : DB W a len cap sb vb ab sa v wx) : Bytes wx W.heap.size a len := h.raw.bytes h.bel
theorem cellB {w w' : World} {B b o : Nat} {u : Value} (hb : Below B w w') (hl : b < B) (h : w.cell? ⟨b, o, none⟩ = some u) : w'.cell? ⟨b, o, none⟩ = some u := (hb.cell (p := ⟨b, o, none⟩) hl).trans h
theorem curB {w w' : World} {B g : Nat} {a : Option Addr} {len cap : Nat} (h : Cur w g a len cap) (hb : Below B w w') (hl : g < B) : Cur w' g a len cap := by
  obtain ⟨i, x, hi, hm, h0, h1, h2, hf⟩ := h
  exact ⟨i, x, hi, hm, cellB hb hl h0, cellB hb hl h1, cellB hb hl h2, fun o => (hb.frozen (p := ⟨g, o, none⟩) hl).trans (hf o)⟩
theorem DB.low {W wx w' : World} {a : Option Addr} {len cap sb vb ab : Nat} {sa : Option Addr} {v : V} (h : DB W a len cap sb vb ab sa v wx) (hb : Below ab wx w') : DB W a len cap sb vb ab sa v w' := by
  have h1 := h.h1; have h2 := h.h2; have h3 := h.h3
  exact ⟨h.bel.trans (hb.mono (by omega)), curB h.cur hb (by omega), h.raw, cellB hb (by omega) h.s0, cellB hb (by omega) h.s1, ⟨cellB hb (by omega) h.vx.a0, cellB hb (by omega) h.vx.a1, cellB hb (by omega) h.vx.a2⟩, h.h1, h.h2, h.h3, Nat.le_trans h.h4 hb.size⟩
theorem DB.step {W wx w' : World} {a : Option Addr} {len cap sb vb ab : Nat} {sa : Option Addr} {v : V} (h : DB W a len cap sb vb ab sa v wx) (hb : Below wx.heap.size wx w') : DB W a len cap sb vb ab sa v w' := h.low (hb.mono h.h4)
theorem DB.draw {W wx w' : World} {a : Option Addr} {len cap sb vb ab : Nat} {sa : Option Addr} {v : V} (h : DB W a len cap sb vb ab sa v wx) (hc : Cur w' W.heap.size a len cap) (hg : wx.grownBy w' (some W.heap.size)) : DB W a len cap sb vb ab sa v w' := by
  have h1 := h.h1; have h2 := h.h2; have h3 := h.h3
  exact ⟨h.bel.grown hg h.bel.size (fun k hk => by rw [Option.some.injEq] at hk; omega), hc, h.raw, grown_cell hg (by omega) h.s0, grown_cell hg (by omega) h.s1, ⟨grown_cell hg (by omega) h.vx.a0, grown_cell hg (by omega) h.vx.a1, grown_cell hg (by omega) h.vx.a2⟩, h.h1, h.h2, h.h3, Nat.le_trans h.h4 hg.size⟩
theorem infoV : (Try.prog.info? 25).map (fun i => (i.zero, i.size, i.bytes)) = some (some (.agg #[.int .i64 0, .int .i64 0, .string ByteArray.empty]), 3, 32) := by kernel_rfl
theorem infoC : (Try.prog.info? 108).map (fun i => (i.zero, i.size, i.bytes)) = some (some (.agg #[.string ByteArray.empty, .int .i64 0, .slice none 0 0]), 3, 48) := by kernel_rfl
def row3 (v : V) : List Value := [.int .i64 v.kind, .int .i64 v.num, .string v.text]
theorem three_cells (w : World) (v : V) (t : TypeId) : ∀ (j : Nat) (u : Value), (row3 v)[j]? = some u → (w.alloc (.cells #[.int .i64 v.kind, .int .i64 v.num, .string v.text] t)).cell? ((⟨w.heap.size, 0, none⟩ : Addr).add j) = some u := by
  intro j u hj
  match j, hj with
  | 0, hj => simp [row3] at hj; subst hj; simp [Addr.add]
  | 1, hj => simp [row3] at hj; subst hj; simp [Addr.add]
  | 2, hj => simp [row3] at hj; subst hj; simp [Addr.add]
theorem three_one (v : V) : ∀ u ∈ row3 v, u.oneCell' = true := by
  intro u hu
  simp only [row3, List.mem_cons, List.not_mem_nil, or_false] at hu
  rcases hu with rfl | rfl | rfl <;> rfl
theorem count_le (s : ByteArray) (h : s.size ≤ 20) : Tok.countArgs s ≤ 20 := by
  have hp := (Cuts.parts_len s 58).2
  unfold Tok.countArgs
  split
  · split
    · omega
    · omega
  · omega
def Msg (w : World) (e : Ending) (w' : World) : Prop :=
  ∃ (v : V) (s : ByteArray) (u : Value), valB v = true ∧ (v.text.size ≤ 8 ∧ (Lit.int .i64 v.num).wf = true) ∧ e = .returned (.tuple #[.agg #[.int .i64 v.kind, .int .i64 v.num, .string v.text], .string s, u]) ∧ Below w.heap.size w w'
theorem row_empty (w : World) : (w.alloc (.cells #[] 25)).ownsRow w.heap.size 25 3 (.slice (some ⟨w.heap.size, 0, none⟩) 0 0) 0 [] :=
  World.ownsRow_lit (base := w.heap.size) (e := 25) (size := 3) w #[] 0 (Nat.le_refl _) (by unfold maxLen; omega) (by simp)
set_option maxRecDepth 10000 in
set_option maxHeartbeats 16000000 in
theorem msg_any (a : Option Addr) (len cap : Nat) (w : World) (hl : len ≤ 1048576) (hr : Raw w a len) :
    Calls Try.prog 6 #[.slice a len cap] w (Msg w) := by
  obtain ⟨i0, hi, hz0, hz1, hz2⟩ := info_parts infoV
  obtain ⟨j0, hj, hy0, hy1, hy2⟩ := info_parts infoC
  have hb0 : Below w.heap.size w (w.alloc (.cells #[.int .i64 0, .int .i64 0, .string ⟨#[]⟩] 25)) := alloc_below _ _
  have HZ := Lib.hid (zb_new w 25)
  have KN := Lib.hid (new_any a len cap (w.alloc (.cells #[.int .i64 0, .int .i64 0, .string ⟨#[]⟩] 25)) hl (hr.keep hb0))
  obtain ⟨W, hW⟩ : ∃ W, w.alloc (.cells #[.int .i64 0, .int .i64 0, .string ⟨#[]⟩] 25) = W := ⟨_, rfl⟩
  have HR := Lib.hid (hW ▸ hr.keep hb0)
  have HB0 := Lib.hid (hW ▸ hb0)
  have hWs : W.heap.size = w.heap.size + 1 := by rw [← hW]; simp
  have HW := Lib.hid hW
  rw [hW] at KN HZ
  have HWS := Lib.hid hWs
  clear hr hb0 hW hWs
  unfold Msg
  go_enter Try.func6, Try.ntmps6
  go_wp2_with fail
  rw [HW.out]
  refine KN.out.mono ?_
  rintro e w1 ⟨rfl, hc1, hb1, hs1⟩
  have HC1 := Lib.hid hc1
  have HB1 := Lib.hid hb1
  clear hc1 hb1 KN
  go_wp2_with (at_make; refine wpList_make_full _ rfl _ _ 36 rfl w1.heap.size 108 j0 (.agg #[.string ByteArray.empty, .int .i64 0, .slice none 0 0]) 3 Try.underlying36 hj hy0 hy1 .i64 .i64 _ _ 16 rfl rfl rfl rfl ?c2 ?c3 (Nat.le_refl _) ?_)
  case c2 => omega
  case c3 => unfold maxLen; omega
  intro w2 hown hgr
  have hb2 : Below w1.heap.size w1 w2 := (Below.refl _ _).grown hgr (Nat.le_refl _) (by simp)
  have HC2 := Lib.hid (curKeep HC1.out hb2)
  have HB2 := Lib.hid (HB1.out.trans (hb2.mono HB1.out.size))
  have hs2 : W.heap.size < w2.heap.size := Nat.lt_of_lt_of_le hs1 hb2.size
  clear hown hgr hb2 HC1 HB1
  obtain ⟨W3, hW3⟩ : ∃ W3, w2.alloc (.cells #[.slice (some ⟨w1.heap.size, 0, none⟩) 16 16, .slice none 0 0, .slice none 0 0, .int .i64 0, .int .i64 0, .int .i64 0] 40) = W3 := ⟨_, rfl⟩
  have hb3 : Below w2.heap.size w2 W3 := by subst hW3; exact alloc_below _ _
  have HC3 := Lib.hid (curKeep HC2.out hb3)
  have HB3 := Lib.hid (HB2.out.trans (hb3.mono HB2.out.size))
  have HS0 : Hid (W3.cell? ⟨w2.heap.size, 0, none⟩ = some (.slice (some ⟨w1.heap.size, 0, none⟩) 16 16)) := Lib.hid (by subst hW3; go_simp)
  have HS1 : Hid (W3.cell? ⟨w2.heap.size, 1, none⟩ = some (.slice none 0 0)) := Lib.hid (by subst hW3; go_simp)
  have hs3 : w2.heap.size < W3.heap.size := by subst hW3; simp
  have HW3 := Lib.hid hW3
  clear hb3 HC2 hW3
  have KV := Lib.hid (value_any HC3.out (HR.out.bytes HB3.out) HS0.out HS1.out (by omega))
  unfold Drawn at KV
  go_upto_region 3 with fail
  rw [HW3.out]
  go_wp2_with fail
  refine KV.out.mono ?_
  rintro e w4 ⟨v, hv, hvs, rfl, hc4, -, hg4⟩
  have HVV := Lib.hid (And.intro hv hvs)
  have HC4 := Lib.hid hc4
  have HB4 := Lib.hid (HB3.out.grown hg4 HB3.out.size (fun k hk => by rw [Option.some.injEq] at hk; omega))
  have HT0 := Lib.hid (grown_cell hg4 (by omega) HS0.out)
  have HT1 := Lib.hid (grown_cell hg4 (by omega) HS1.out)
  have hs4 : w2.heap.size < w4.heap.size := Nat.lt_of_lt_of_le hs3 hg4.size
  clear KV hv hvs hc4 hg4 HC3 HB3 HS0 HS1 HW3 hs3
  obtain ⟨W5, hW5⟩ : ∃ W5, w4.alloc (.cells #[.int .i64 v.kind, .int .i64 v.num, .string v.text] 25) = W5 := ⟨_, rfl⟩
  have hb5 : Below w4.heap.size w4 W5 := by subst hW5; exact alloc_below _ _
  have hs5 : w4.heap.size < W5.heap.size := by subst hW5; simp
  have D5 : Hid (DB W a len cap w2.heap.size w4.heap.size W5.heap.size (some ⟨w1.heap.size, 0, none⟩) v W5) := Lib.hid
    ⟨HB4.out.trans (hb5.mono HB4.out.size), curKeep HC4.out hb5, HR.out, cell_keep hb5 HT0.out, cell_keep hb5 HT1.out, by subst hW5; exact vb_new _ _ _, hs2, hs4, hs5, Nat.le_refl _⟩
  have HW5 := Lib.hid hW5
  clear hb5 HC4 HB4 HT0 HT1 HR hW5
  have KS := Lib.hid (sel_any D5.out.cur D5.out.bytes)
  go_upto_region 4 with fail
  rw [HW5.out]
  go_wp2_with fail
  refine KS.out.mono ?_
  rintro e w6 ⟨s, hss, rfl, hc6, -, hg6⟩
  have D6 := Lib.hid (D5.out.draw hc6 hg6)
  clear KS hc6 hg6 D5 HW5 hs5
  have D6 : Hid (DB W a len cap w2.heap.size w4.heap.size w6.heap.size (some ⟨w1.heap.size, 0, none⟩) v w6) := Lib.hid ⟨D6.out.bel, D6.out.cur, D6.out.raw, D6.out.s0, D6.out.s1, D6.out.vx, D6.out.h1, D6.out.h2, Nat.lt_of_lt_of_le D6.out.h3 D6.out.h4, Nat.le_refl _⟩
  have hb7 : Below w6.heap.size w6 (w6.alloc (.cells #[] 25)) := alloc_below _ _
  have D7 := Lib.hid (D6.out.step hb7)
  have HO7 := Lib.hid (row_empty w6)
  obtain ⟨w7, hw7⟩ : ∃ w7, w6.alloc (.cells #[] 25) = w7 := ⟨_, rfl⟩
  rw [hw7] at D7 HO7
  have HW7 := Lib.hid hw7
  obtain ⟨ab, hab⟩ : ∃ ab, w6.heap.size = ab := ⟨_, rfl⟩
  have HAB := Lib.hid hab
  rw [hab] at D7 HO7
  obtain ⟨sb, hsb⟩ : ∃ sb, w2.heap.size = sb := ⟨_, rfl⟩
  have HSB := Lib.hid hsb
  rw [hsb] at D7
  obtain ⟨vb, hvb⟩ : ∃ vb, w4.heap.size = vb := ⟨_, rfl⟩
  have HVB := Lib.hid hvb
  rw [hvb] at D7
  obtain ⟨sa, hsa⟩ : ∃ sa : Option Addr, (some ⟨w1.heap.size, 0, none⟩ : Option Addr) = sa := ⟨_, rfl⟩
  rw [hsa] at D7
  have KC := fun w' => Lib.hid (SpecSel.count_any s w' (by omega))
  have hcl := count_le s hss
  generalize Tok.countArgs s = m at *
  clear hb7 D6 hw7 hab hsb hvb hsa hs1 hs2 hs4 HB2
  go_wp2_with fail
  simp only [HAB.out, HSB.out, HVB.out, HW7.out]
  clear HAB HSB HVB HW7
  go_loopw [9, 10] (fun u j wr => ∃ (i n : Nat) (xs : List Value), i ≤ 20 ∧ n ≤ i ∧ j = .int .i64 i ∧ Hid (wr.ownsRow ab 25 3 u n xs) ∧ Hid (DB W a len cap sb vb ab sa v wr)) (fun _ j _ => 21 - (intOf j).toNat)
  case atStart => exact ⟨0, 0, [], by omega, by omega, rfl, HO7, D7⟩
  case round =>
    clear D7 HO7
    obtain ⟨i, n, xs, hi20, hni, rfl, HO, D⟩ := hrel
    go_wp2_with fail
    refine (KC _).out.mono ?_
    rintro e w8 ⟨rfl, hb8⟩
    have D8 := Lib.hid (D.out.step hb8)
    have HO8 := Lib.hid (own_keep HO.out hb8)
    clear hb8 D HO
    by_cases him : (i : Int) < m
    · have KV := Lib.hid (value_any D8.out.cur D8.out.bytes D8.out.s0 D8.out.s1 (by have := D8.out.h1; omega))
      unfold Drawn at KV
      go_wp2_with fail
      refine KV.out.mono ?_
      rintro e w9 ⟨x, -, -, rfl, hc9, -, hg9⟩
      have D9 := Lib.hid (D8.out.draw hc9 hg9)
      have HO9 := Lib.hid (own_gr HO8.out hg9 (by have h1 := D8.out.h1; have h2 := D8.out.h2; have h3 := D8.out.h3; omega))
      clear hc9 hg9 KV D8 HO8
      have HO10 := Lib.hid (own_keep HO9.out (alloc_below w9 (.cells #[.int .i64 x.kind, .int .i64 x.num, .string x.text] 25)))
      go_wp2_with (at_builtin; go_must (refine wpList_append_own_at _ rfl _ _ 26 rfl ab 25 i0 (.agg #[.int .i64 0, .int .i64 0, .string ByteArray.empty]) 3 32 Try.underlying26 hi hz0 hz1 hz2 rfl (by decide) _ n xs rfl HO10.out ⟨w9.heap.size, 0, none⟩ 1 1 (row3 x) rfl rfl ?c1 ?c2 ?c3 ?c4 ?c5 ?_))
      case c1 => exact three_cells w9 x _
      case c2 => exact three_one x
      case c3 => unfold maxLen; omega
      case c4 => omega
      case c5 => have := D9.out.h4; simp; omega
      intro v2 w11 hown hgr hnn hat
      have hlow : Below ab w9 w11 := ((Below.refl ab w9).alloc D9.out.h4 _).grown hgr (by have := D9.out.h4; simp; omega) (fun k hk => (HO10.out.lt k hk).1)
      have D11 := Lib.hid (D9.out.low hlow)
      have HO11 := Lib.hid hown
      clear hown hgr hnn hat hlow D9 HO9 HO10
      go_wp2_with fail
      go_roundw
      case rel => exact ⟨i + 1, n + 1, xs ++ row3 x, by omega, by omega, by go_num, HO11, D11⟩
      case measure => simp [intOf]; omega
    have KO := Lib.hid (once_keep 14 (by decide) (by decide) D8.out.cur D8.out.bytes)
    go_wp2_with fail
    refine KO.out.mono ?_
    rintro e w9 ⟨b, rfl, hc9, -, hg9⟩
    have D9 := Lib.hid (D8.out.draw hc9 hg9)
    have HO9 := Lib.hid (own_gr HO8.out hg9 (by have h1 := D8.out.h1; have h2 := D8.out.h2; have h3 := D8.out.h3; omega))
    clear hc9 hg9 KO D8 HO8
    cases b with
    | true =>
      go_wp2_with fail
      refine (int_is 1 _).mono ?_
      rintro e w10 ⟨rfl, hb10⟩
      have D10 := Lib.hid (D9.out.step hb10)
      have HO10 := Lib.hid (own_keep HO9.out hb10)
      clear hb10 D9 HO9
      unfold vval
      have HO11 := Lib.hid (own_keep HO10.out (alloc_below w10 (.cells #[.int .i64 (intV 1).kind, .int .i64 (intV 1).num, .string (intV 1).text] 25)))
      go_wp2_with (at_builtin; go_must (refine wpList_append_own_at _ rfl _ _ 26 rfl ab 25 i0 (.agg #[.int .i64 0, .int .i64 0, .string ByteArray.empty]) 3 32 Try.underlying26 hi hz0 hz1 hz2 rfl (by decide) _ n xs rfl HO11.out ⟨w10.heap.size, 0, none⟩ 1 1 (row3 (intV 1)) rfl rfl ?c1 ?c2 ?c3 ?c4 ?c5 ?_))
      case c1 => exact three_cells w10 (intV 1) _
      case c2 => exact three_one (intV 1)
      case c3 => unfold maxLen; omega
      case c4 => omega
      case c5 => have := D10.out.h4; simp; omega
      intro v2 w11 hown hgr hnn hat
      have hlow : Below ab w10 w11 := ((Below.refl ab w10).alloc D10.out.h4 _).grown hgr (by have := D10.out.h4; simp; omega) (fun k hk => (HO11.out.lt k hk).1)
      have D11 := Lib.hid (D10.out.low hlow)
      clear hown hgr hnn hat hlow D10 HO10 HO11
      obtain ⟨hlt0, z0, z1, z2, zf⟩ := HZ.out.step D11.out.bel
      obtain ⟨q0, q1, q2⟩ := D11.out.vx
      have HBF : Hid (Below w.heap.size w (put3 w11 w.heap.size (.int .i64 v.kind) (.int .i64 v.num) (.string v.text))) := Lib.hid (by
        unfold put3
        exact (((HB0.out.trans (D11.out.bel.mono HB0.out.size)).setCell (p := ⟨w.heap.size, 0, none⟩) (Nat.le_refl _) _).setCell (p := ⟨w.heap.size, 1, none⟩) (Nat.le_refl _) _).setCell (p := ⟨w.heap.size, 2, none⟩) (Nat.le_refl _) _)
      unfold put3 at HBF
      clear D11 HB0 HZ
      go_wp2_with fail
      exact bodyPost_ret (v := .tuple #[.agg #[.int .i64 v.kind, .int .i64 v.num, .string v.text], .string s, v2]) (by simp [results, Try.results6, go_sem, *]; try rfl) rfl ⟨v, s, _, HVV.out.1, HVV.out.2, rfl, HBF.out⟩
    | false =>
      obtain ⟨hlt0, z0, z1, z2, zf⟩ := HZ.out.step D9.out.bel
      obtain ⟨q0, q1, q2⟩ := D9.out.vx
      have HBF : Hid (Below w.heap.size w (put3 w9 w.heap.size (.int .i64 v.kind) (.int .i64 v.num) (.string v.text))) := Lib.hid (by
        unfold put3
        exact (((HB0.out.trans (D9.out.bel.mono HB0.out.size)).setCell (p := ⟨w.heap.size, 0, none⟩) (Nat.le_refl _) _).setCell (p := ⟨w.heap.size, 1, none⟩) (Nat.le_refl _) _).setCell (p := ⟨w.heap.size, 2, none⟩) (Nat.le_refl _) _)
      unfold put3 at HBF
      clear D9 HB0 HZ
      go_wp2_with fail
      exact bodyPost_ret (v := .tuple #[.agg #[.int .i64 v.kind, .int .i64 v.num, .string v.text], .string s, u9]) (by simp [results, Try.results6, go_sem, *]; try rfl) rfl ⟨v, s, _, HVV.out.1, HVV.out.2, rfl, HBF.out⟩
end Go.Proofs.Ytkmclgofghaeoaa.DrawVal
