/-
  append of texts, from any row that reads, to a row of the call's own; spec's block of a method.
-/
import Derived.Test.YtlmhgeanknhcfaaDataStrict
import Derived.Laws.AppendOwn
import Derived.Laws.AppendOwnNone
namespace Go.Proofs.Ytlmhgeanknhcfaa.Data
open Go.RowKit
open Strs Tree

theorem infoTx : (Try.prog.info? 9).map (fun i => (i.zero, i.size, i.bytes)) = some (some (.string ByteArray.empty), 1, 16) := by kernel_rfl
theorem add_at (b o k : Nat) : (⟨b, o, none⟩ : Addr).add k = ⟨b, o + k, none⟩ := by unfold Addr.add; split <;> simp_all
theorem wpList_append_texts {w : World} {ops : Array Oper} {rest : List Oper} {o : Oper} {a : Act} {Q : Exit → Act → World → Prop} (hgd : o.guard = none) (s x : Operand)
    (ho : o.op = .call { callee := .builtin .append, args := #[s, x], argTypes := #[22, 22] })
    (base : Nat) (v : Value) (xs : List ByteArray) (hs : a.eval s = v) (hown : w.ownsRow base 9 1 v xs.length (xs.map Value.string))
    (vy : Value) (ys : List ByteArray) (lo : Nat) (hx : a.eval x = vy) (hy : Texts lo w ys vy) (hf : Formed vy ys.length) (hbytes : xs.length + ys.length ≤ 4398046511104) (hbase : base ≤ w.heap.size)
    (h : ∀ v' w', w'.ownsRow base 9 1 v' (xs ++ ys).length ((xs ++ ys).map Value.string) → Below base w w' → wpList Try.prog ops Q rest (a.put o.dst v') w') : wpList Try.prog ops Q (o :: rest) a w := by
  obtain ⟨i0, hi, hz0, hz1, hz2⟩ := info_parts infoTx
  rcases hf with ⟨rfl, hn⟩ | ⟨b, of, c, rfl⟩
  · have hy0 : ys = [] := List.eq_nil_of_length_eq_zero hn
    subst hy0
    refine wpList_append_own_none hgd s x 22 ho base 9 i0 1 Try.underlying22 hi v xs.length _ hs hown hx ?_
    exact h v w (by rw [List.append_nil]; exact hown) (Below.refl _ _)
  · obtain ⟨a', cap, he, hm, hsz, hc⟩ := hy
    cases he
    refine wpList_append_own _ hgd s x 22 ho base 9 i0 (.string ByteArray.empty) 1 16 Try.underlying22 hi hz0 hz1 hz2 rfl (by decide) v xs.length _ hs hown ⟨b, of, none⟩ ys.length c (ys.map Value.string) hx (by simp) (fun j u hj => ?_) (fun u hu => ?_) (by unfold maxLen; omega) (by omega) hbase ?_
    · have hl := (List.getElem?_eq_some_iff.1 hj).1
      have hv := (List.getElem?_eq_some_iff.1 hj).2
      rw [List.length_map] at hl
      rw [List.getElem_map] at hv
      obtain ⟨b', o', e, -, hd⟩ := hc (by omega)
      cases e
      rw [add_at, hd j hl, hv]
    · obtain ⟨y, _, rfl⟩ := List.mem_map.1 hu
      rfl
    · intro v' w' hown' hgr _
      exact h v' w' (by rw [List.length_append, List.map_append]; exact hown') ((Below.refl _ _).grown hgr hbase (fun k hk => (hown.lt k hk).1))
theorem own_lit0 (w : World) (T : TypeId) (k : Nat) : (w.alloc (.cells #[] T)).ownsRow w.heap.size T k (.slice (some ⟨w.heap.size, 0, none⟩) 0 0) 0 [] :=
  World.ownsRow_lit (base := w.heap.size) (e := T) (size := k) w #[] 0 (Nat.le_refl _) (Nat.zero_le _) (by simp)
theorem cells_low {B base : Nat} {ds : List D} {wr w' : World} (h : Cells B ds wr) (hb : Below base wr w') (hB : B < base) : Cells B ds w' :=
  ⟨Nat.lt_of_lt_of_le h.1 hb.size, fun j hj => (World.cell?_of_block (a := ⟨B, j, none⟩) (hb.block B hB)).trans (h.2 j hj)⟩
theorem free_low {B base : Nat} {wr w' : World} (h : ∀ o, wr.frozen? ⟨B, o, none⟩ = false) (hb : Below base wr w') (hB : B < base) : ∀ o, w'.frozen? ⟨B, o, none⟩ = false :=
  fun o => (World.frozen?_of_block (a := ⟨B, o, none⟩) (hb.block B hB)).trans (h o)
def zeroE : List D := [.int 0, .str ⟨#[]⟩, .int 0, .row 0 1 (.slice none 0 0) [], .row 0 5 (.slice none 0 0) []]

set_option maxRecDepth 10000 in
set_option maxHeartbeats 4000000 in
theorem block_all {lo l1 l2 : Nat} {w : World} {ps ts : List ByteArray} {ks : List E} {vp vt vk : Value} (hp : Texts l1 w ps vp) (fp : Formed vp ps.length) (ht : Texts l2 w ts vt) (ft : Formed vt ts.length) (hk : KidsAt lo w ks vk) (hpl : ps.length + ts.length ≤ 4398046511104) :
    Calls Try.prog 32 #[vp, vt, vk] w fun r w' => ∃ ra rc, r = .returned (.agg #[.int .i64 8, .string ⟨#[]⟩, .int .i64 (ps.length : Int), .slice ra (ps.length + ts.length) rc, vk]) ∧ Texts w.heap.size w' (ps ++ ts) (.slice ra (ps.length + ts.length) rc) ∧ Below w.heap.size w w' := by
  have HT := Lib.hid ht
  have HP := Lib.hid hp
  have FT := Lib.hid ft
  have FP := Lib.hid fp
  skip
  obtain ⟨pa, pc, rfl, -⟩ := id hp
  obtain ⟨ta, tc, rfl, -⟩ := id ht
  obtain ⟨ka, kc, rfl, -⟩ := id hk
  clear hp ht hk fp ft
  have hz : Cells w.heap.size zeroE ((w.alloc (.cells #[.int .i64 0, .string ⟨#[]⟩, .int .i64 0, .slice none 0 0, .slice none 0 0] 47)).alloc (.cells #[] 9)) := (cells_new w zeroE 47).step ((Below.refl _ _).alloc (Nat.le_refl _) _)
  have hb0 : Below w.heap.size w ((w.alloc (.cells #[.int .i64 0, .string ⟨#[]⟩, .int .i64 0, .slice none 0 0, .slice none 0 0] 47)).alloc (.cells #[] 9)) := ((Below.refl _ _).alloc (Nat.le_refl _) _).alloc (by simp) _
  have hlit := own_lit0 (w.alloc (.cells #[.int .i64 0, .string ⟨#[]⟩, .int .i64 0, .slice none 0 0, .slice none 0 0] 47)) 9 1
  rw [show (w.alloc (.cells #[.int .i64 0, .string ⟨#[]⟩, .int .i64 0, .slice none 0 0, .slice none 0 0] 47)).heap.size = w.heap.size + 1 by simp] at hlit
  have hf0 : ∀ o, ((w.alloc (.cells #[.int .i64 0, .string ⟨#[]⟩, .int .i64 0, .slice none 0 0, .slice none 0 0] 47)).alloc (.cells #[] 9)).frozen? ⟨w.heap.size, o, none⟩ = false := fun o => by go_simp
  have hs0 : w.heap.size + 1 ≤ ((w.alloc (.cells #[.int .i64 0, .string ⟨#[]⟩, .int .i64 0, .slice none 0 0, .slice none 0 0] 47)).alloc (.cells #[] 9)).heap.size := by simp
  have HLIT := Lib.hid hlit
  have HB0 := Lib.hid hb0
  have HZ0 := Lib.hid hz
  have HF0 := Lib.hid hf0
  have HS0 := Lib.hid hs0
  clear hlit hb0 hz hf0 hs0
  go_enter Try.func32, Try.ntmps32
  go_wp2_with (at_builtin; go_must (refine wpList_append_texts rfl _ _ rfl (w.heap.size + 1) _ [] rfl HLIT.out (.slice pa ps.length pc) ps l1 rfl (HP.out.below HB0.out) FP.out (by simp; omega) HS0.out ?_))
  intro v1 w1 hown hlow
  have HO1 := Lib.hid hown
  have HB1 := Lib.hid (HB0.out.trans (hlow.mono (by omega)))
  have HZ1 := Lib.hid (cells_low HZ0.out hlow (by omega))
  have HF1 := Lib.hid (free_low HF0.out hlow (by omega))
  have HS1 := Lib.hid (Nat.le_trans HS0.out hlow.size)
  clear hown hlow HLIT HB0 HZ0 HF0 HS0
  go_wp2_with (at_builtin; go_must (refine wpList_append_texts rfl _ _ rfl (w.heap.size + 1) _ ps rfl HO1.out (.slice ta ts.length tc) ts l2 rfl (HT.out.below HB1.out) FT.out (by omega) HS1.out ?_))
  intro v2 w2 hown hlow
  have HB2 := Lib.hid (HB1.out.trans (hlow.mono (by omega)))
  have hz2 := cells_low HZ1.out hlow (by omega)
  have fz := free_low HF1.out hlow (by omega)
  have z0 := hz2.at 0 (.int 0) rfl
  have z1 := hz2.at 1 (.str ⟨#[]⟩) rfl
  have z2 := hz2.at 2 (.int 0) rfl
  have z3 := hz2.at 3 (.row 0 1 (.slice none 0 0) []) rfl
  have z4 := hz2.at 4 (.row 0 5 (.slice none 0 0) []) rfl
  simp only [val] at z0 z1 z2 z3 z4
  obtain ⟨ra, rc, rfl⟩ := Kit.row_form hown
  have HO2 : Hid (w2.ownsRow (w.heap.size + 1) 9 1 (.slice ra (ps.length + ts.length) rc) (ps ++ ts).length ((ps ++ ts).map Value.string)) := Lib.hid (by simpa using hown)
  clear hown hlow hz2 HO1 HB1 HZ1 HF1 HS1
  go_wp2_with fail
  have hbf := puts_below (Nat.le_refl w.heap.size) [.int .i64 8, .string ⟨#[]⟩, .int .i64 ps.length, .slice ra (ps.length + ts.length) rc, .slice ka ks.length kc] w w2 0 HB2.out
  have hof : (puts w2 w.heap.size 0 [.int .i64 8, .string ⟨#[]⟩, .int .i64 ps.length, .slice ra (ps.length + ts.length) rc, .slice ka ks.length kc]).ownsRow (w.heap.size + 1) 9 1 (.slice ra (ps.length + ts.length) rc) (ps ++ ts).length ((ps ++ ts).map Value.string) := by
    refine own_frame HO2.out fun b hb => ?_
    have h1 := (own_blk HO2.out b hb).1
    simp only [puts]
    repeat rw [Below.heap_setCell _ _ _ _ (fun e => by have : b = w.heap.size := e; omega)]
  refine bodyPost_ret (v := .agg #[.int .i64 8, .string ⟨#[]⟩, .int .i64 ps.length, .slice ra (ps.length + ts.length) rc, .slice ka ks.length kc]) (by simp [results, Try.results32, go_sem, *]) rfl ⟨ra, rc, rfl, ?_, hbf⟩
  have hx : ∀ x, x ∈ ps ++ ts → x.size ≤ maxLen := fun x hx => by
    obtain ⟨_, _, _, _, s1, _⟩ := HP.out
    obtain ⟨_, _, _, _, s2, _⟩ := HT.out
    rcases List.mem_append.1 hx with h1 | h1
    · exact s1 x h1
    · exact s2 x h1
  have hr : Row (w.heap.size + 1) _ 9 1 (.slice ra (ps.length + ts.length) rc) (strs (ps ++ ts)) := strs_row hof hx
  have ho := (row_iff.2 hr).mono (base' := w.heap.size) (by omega)
  exact strs_texts (t := 9) (xs := ps ++ ts) (holdss_iff.1 ho.holds (.row 9 1 (.slice ra (ps.length + ts.length) rc) (strs (ps ++ ts))) (by simp))
end Go.Proofs.Ytlmhgeanknhcfaa.Data
