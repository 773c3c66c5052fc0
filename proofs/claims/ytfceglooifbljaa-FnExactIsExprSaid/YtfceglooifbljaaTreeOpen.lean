/-
  An argument of type Expr reads as a tree.
-/
import Derived.Test.YtfceglooifbljaaTree
import Derived.OpenShut
import Derived.SliceStrings
import Derived.ChangeArms
import Derived.Deep.Fields
namespace Go.Proofs.Ytfceglooifbljaa.TreeOpen
open Go.ChangeShapes Go.WideShapes Go.RowKit Go.Deep
open Strs Tree

theorem list_of {α : Type} {P : Nat → α → Prop} (n : Nat) (h : ∀ i, i < n → ∃ e, P i e) : ∃ l : List α, l.length = n ∧ ∀ i (h : i < l.length), P i l[i] := by
  induction n with
  | zero => exact ⟨[], rfl, fun i h => by simp at h⟩
  | succ n ih =>
    obtain ⟨l, hl, hp⟩ := ih fun i hi => h i (by omega)
    obtain ⟨e, he⟩ := h n (by omega)
    refine ⟨l ++ [e], by simp [hl], fun i hi => ?_⟩
    by_cases hin : i < l.length
    · rw [List.getElem_append_left hin]; exact hp i hin
    · have : i = n := by simp at hi; omega
      subst this
      rw [List.getElem_append_right (by omega)]
      simpa using he
theorem plain_of {w : World} {a : Addr} {v : Value} (h : w.cell? (a.add 0) = some v) : a = ⟨a.block, a.off, none⟩ := by
  obtain ⟨b, off, spot⟩ := a
  have := World.cell?_spot h
  have hs : spot = none := by simpa [Addr.add] using this
  rw [hs]
theorem add_plain (b off k : Nat) : (⟨b, off, none⟩ : Addr).add k = ⟨b, off + k, none⟩ := by unfold Addr.add; split <;> simp_all

section
variable {H : Type} {enc : TypeId × Value → H} {w : World} {spare : Nat → Bool} {held : Bool}
theorem open_texts {fuel : Nat} {cs : List Value} {x : DataW H × List MemPlace} (h : DataW.trod enc Try.prog w 0 spare held fuel 22 cs = some x) : ∃ v xs, cs = [v] ∧ Texts 0 w xs v := by
  rcases open_strings Try.underlying22 Try.underlying9 (by kernel_rfl) h with ⟨rfl, _⟩ | ⟨a, len, cap, ss, rfl, _, hl, hcm, hss, _, hcell, hsz⟩
  · exact ⟨_, [], rfl, none, 0, rfl, by unfold maxLen; simp, fun _ h => by simp at h, fun h => by simp at h⟩
  · have hle : len ≤ ss.length := by rw [hss]; split <;> omega
    have hlen : (ss.take len).length = len := by rw [List.length_take]; omega
    refine ⟨_, ss.take len, rfl, some a, cap, by rw [hlen], ⟨by rw [hlen]; exact hl, hcm⟩, fun x hx => hsz x (List.mem_of_mem_take hx), fun hp => ?_⟩
    have ha := plain_of (hcell 0 (by omega))
    refine ⟨a.block, a.off, by rw [← ha], Nat.zero_le _, fun j hj => ?_⟩
    have hj2 : j < len := by omega
    have := hcell j (by omega)
    rw [ha, add_plain] at this
    rw [this]
    simp [List.getD, show j < ss.length by omega]

theorem cells_int : Try.prog.cellsOf 3 = 1 := by kernel_rfl
theorem cells_string : Try.prog.cellsOf 9 = 1 := by kernel_rfl
theorem cells_strings : Try.prog.cellsOf 22 = 1 := by kernel_rfl
theorem cells_kids : Try.prog.cellsOf 23 = 1 := by kernel_rfl
theorem cells_expr : Try.prog.cellsOf 25 = 5 := by kernel_rfl

theorem open_node : ∀ (fuel : Nat) (cs : List Value) (x : DataW H × List MemPlace), DataW.trod enc Try.prog w 0 spare held fuel 25 cs = some x → ∃ e vn vk, cs = [.int .i64 e.kind, .string e.text, .int .i64 e.num, vn, vk] ∧ NodeAt 0 w e vn vk := by
  intro fuel
  induction fuel using Nat.strongRecOn with
  | _ fuel ih =>
  intro cs x h
  obtain ⟨xs, n, rfl, -, hlen, hxl, hg⟩ := DataW.trod_struct Try.underlying25 h
  rw [cells_expr] at hlen
  match cs, hlen, xs, hxl with
  | [c0, c1, c2, c3, c4], _, [y0, y1, y2, y3, y4], _ =>
  have g0 := hg 0 _ rfl
  have g1 := hg 1 _ rfl
  have g2 := hg 2 _ rfl
  have g3 := hg 3 _ rfl
  have g4 := hg 4 _ rfl
  simp [cells_int, cells_string, cells_strings, cells_kids] at g0 g1 g2 g3 g4
  obtain ⟨k, hk, -, wk⟩ := DataW.trod_int Try.underlying3 g0
  obtain ⟨t, ht, -, wt⟩ := DataW.trod_string Try.underlying9 g1
  obtain ⟨m, hm, -, wm⟩ := DataW.trod_int Try.underlying3 g2
  obtain ⟨vn, ns, hns, hn⟩ := open_texts g3
  simp only [List.cons.injEq, and_true] at hk ht hm hns
  subst hk ht hm hns
  have hkids : ∃ ks, KidsAt 0 w ks c4 := by
    rcases DataW.trod_slice Try.underlying23 g4 with ⟨h0, _⟩ | ⟨a, len, cap, elems, rest, n2, hn2, h0, _, _, hl, hcm, hel, hi, _⟩
    · simp only [List.cons.injEq, and_true] at h0
      subst h0
      exact ⟨[], none, 0, rfl, by unfold maxLen; simp, fun h => by simp at h⟩
    · simp only [List.cons.injEq, and_true] at h0
      subst h0
      rw [cells_expr] at hi
      have each : ∀ i, i < len → ∃ cs', w.cells? 0 (a.add (i * 5)) 5 = some cs' ∧ ∃ e vn vk, cs' = [.int .i64 e.kind, .string e.text, .int .i64 e.num, vn, vk] ∧ NodeAt 0 w e vn vk := by
        intro i hil
        have h1 := hi i hil
        rw [List.getElem?_eq_getElem (by omega)] at h1
        obtain ⟨cs', hc, ht⟩ := Option.bind_eq_some_iff.1 h1
        exact ⟨cs', hc, ih n2 (by omega) cs' _ ht⟩
      have each2 : ∀ i, i < len → ∃ e, a = ⟨a.block, a.off, none⟩ ∧ Spot 0 w a.block (a.off + i * 5) e := by
        intro i hil
        obtain ⟨cs', hc, e, vn, vk, rfl, hnode⟩ := each i hil
        obtain ⟨_, _, hat⟩ := World.cells?_some hc
        have c0 : w.cell? ((a.add (i * 5)).add 0) = _ := hat 0 (by omega)
        have c1 : w.cell? ((a.add (i * 5)).add 1) = _ := hat 1 (by omega)
        have c2 : w.cell? ((a.add (i * 5)).add 2) = _ := hat 2 (by omega)
        have c3 : w.cell? ((a.add (i * 5)).add 3) = _ := hat 3 (by omega)
        have c4 : w.cell? ((a.add (i * 5)).add 4) = _ := hat 4 (by omega)
        have hp : a = ⟨a.block, a.off, none⟩ := by
          obtain ⟨cs0, hc0, e0, vn0, vk0, rfl, _⟩ := each 0 (by omega)
          obtain ⟨_, _, hat0⟩ := World.cells?_some hc0
          have z0 : w.cell? ((a.add (0 * 5)).add 0) = _ := hat0 0 (by omega)
          exact plain_of (v := .int .i64 e0.kind) (by simpa [Addr.add] using z0)
        refine ⟨e, hp, vn, vk, ?_, ?_, ?_, ?_, ?_, hnode⟩
        · rw [hp, add_plain, add_plain] at c0; exact c0
        · rw [hp, add_plain, add_plain] at c1; exact c1
        · rw [hp, add_plain, add_plain] at c2; exact c2
        · rw [hp, add_plain, add_plain] at c3; exact c3
        · rw [hp, add_plain, add_plain] at c4; exact c4
      obtain ⟨ks, hkl, hks⟩ := list_of len each2
      refine ⟨ks, some a, cap, by rw [hkl], ⟨by omega, hcm⟩, fun hp => ⟨a.block, a.off, by rw [← (hks 0 hp).1], Nat.zero_le _, ?_⟩⟩
      rw [row_iff]
      exact fun i hi => (hks i hi).2
  obtain ⟨ks, hks⟩ := hkids
  refine ⟨.mk k t m ns ks, _, _, rfl, ?_⟩
  rw [node_iff]
  exact ⟨wk, wm, wt, hn, hks⟩

theorem open_tree {r : Reach} {b0 : Nat} {v : Value} {d : DataW H} {p : List MemPlace} (hv : Value.okWide Try.prog w r b0 25 v) (h : DataW.Trod enc Try.prog w 0 spare held 25 v d p) : ∃ e, Reads 0 w e v := by
  obtain ⟨cs, rfl, _⟩ := okWide_struct Try.underlying25 hv
  obtain ⟨fuel, hf⟩ := h
  obtain ⟨e, vn, vk, hcs, hn⟩ := open_node fuel _ _ hf
  refine ⟨e, vn, vk, ?_, hn⟩
  obtain ⟨l⟩ := cs
  congr 2
end
end Go.Proofs.Ytfceglooifbljaa.TreeOpen
