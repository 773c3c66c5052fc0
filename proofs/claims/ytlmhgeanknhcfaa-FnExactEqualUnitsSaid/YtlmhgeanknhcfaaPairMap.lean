/-
  The map from couples of pointers to bools: its laws in every world that has kept the nodes.
-/
import Derived.Test.YtlmhgeanknhcfaaSoft
import Derived.Test.YtlmhgeanknhcfaaPtrMap
namespace Go.Proofs.Ytlmhgeanknhcfaa.PairMap
open Go.RowKit
open Strs Tree PMap Soft PtrMap

/-- A couple as a key. -/
def encC (c : Addr × Addr) : Value := .agg #[.pointer (some c.1), .pointer (some c.2)]
/-- Both are fine. -/
def Fine2 (w : World) (c : Addr × Addr) : Prop := Fine w c.1 ∧ Fine w c.2
theorem zeroB (w : World) : (zeroValue 4).run Try.prog w = .ok (.bool false) w := by kernel_rfl
theorem under : Try.prog.underlying 69 = some (.struct (Try.prog.fieldsOf 69)) := by kernel_rfl
theorem held : Try.prog.stoodInHeld 69 = false := by kernel_rfl
theorem fields : (Try.prog.fieldsOf 69).toList.map (fun f => (f.name, f.type, f.offset)) = [("a", 67, 0), ("b", 67, 1)] := by kernel_rfl
theorem part0 (w : World) (a b : Addr) : (part 67 #[.pointer (some a), .pointer (some b)] 0).run Try.prog w = .ok (.pointer (some a)) w := by kernel_rfl
theorem part1 (w : World) (a b : Addr) : (part 67 #[.pointer (some a), .pointer (some b)] 1).run Try.prog w = .ok (.pointer (some b)) w := by kernel_rfl
theorem two_fields : ∃ f g : Field, (Try.prog.fieldsOf 69).toList = [f, g] ∧ f.name = "a" ∧ f.type = 67 ∧ f.offset = 0 ∧ g.name = "b" ∧ g.type = 67 ∧ g.offset = 1 := by
  have h := fields
  generalize (Try.prog.fieldsOf 69).toList = l at h
  match l, h with
  | [], h => cases h
  | [_], h => simp at h
  | _ :: _ :: _ :: _, h => simp at h
  | [f, g], h =>
    simp at h
    exact ⟨f, g, rfl, h.1.1, h.1.2.1, h.1.2.2, h.2.1, h.2.2.1, h.2.2.2⟩

theorem law {w0 w : World} (hb : Below w0.heap.size w0 w) : Law Try.prog encC (Fine2 w0) 71 69 4 (.bool false) w := by
  obtain ⟨f, g, hl, f1, f2, f3, g1, g2, g3⟩ := two_fields
  refine ⟨Try.underlying71, ⟨_, under, fun a b => rfl⟩, fun em k _ => ?_, fun k k' hk hk' => ?_, fun k _ => ?_, zeroB w⟩
  · show (Instr.checkKey em (9999 + 1) 69 (.agg #[.pointer (some k.1), .pointer (some k.2)])).run Try.prog w = _
    unfold Instr.checkKey
    simp only [Sem.run_bind, run_underlying under, Result.andThen]
    rw [← Array.forIn_toList, hl]
    have c1 : ∀ a, (Instr.checkKey em (9998 + 1) 67 (.pointer (some a))).run Try.prog w = .ok () w := by
      intro a
      unfold Instr.checkKey
      simp only [Sem.run_bind, run_underlying Try.underlying67, Result.andThen]
      rfl
    simp [f1, f2, f3, g1, g2, g3, part0, part1, c1]
  · obtain ⟨i, hi, hz⟩ := Option.map_eq_some_iff.1 infoE
    obtain ⟨a, b⟩ := k
    obtain ⟨a', b'⟩ := k'
    have e1 : (Op.equalIn 9999 67 (.pointer (some a)) (.pointer (some a'))).run Try.prog w = .ok (decide (a = a')) w := equal_ptr (d := 9998) Try.underlying67 hi (by rw [hz]; decide) (hk.1.keep hb) (hk'.1.keep hb)
    have e2 : (Op.equalIn 9999 67 (.pointer (some b)) (.pointer (some b'))).run Try.prog w = .ok (decide (b = b')) w := equal_ptr (d := 9998) Try.underlying67 hi (by rw [hz]; decide) (hk.2.keep hb) (hk'.2.keep hb)
    show (Op.equalIn (9999 + 1) 69 (.agg #[.pointer (some a), .pointer (some b)]) (.agg #[.pointer (some a'), .pointer (some b')])).run Try.prog w = _
    rw [run_equalIn_agg w _ _ _ _ under held, hl]
    clear hl hk hk' hb
    have hr : decide ((a, b) = (a', b')) = (decide (a = a') && decide (b = b')) := by simp
    rw [hr]
    generalize decide (a = a') = d1 at e1 ⊢
    generalize decide (b = b') = d2 at e2 ⊢
    simp [Op.eqFields, f1, f2, f3, g1, g2, g3, part0, part1, e1]
    cases d1
    · rfl
    · simp [e2]
      cases d2 <;> rfl
  · have h : Instr.sameBits 10000 (encC k) (encC k) = true := by
      show Instr.sameBits (9999 + 1) (.agg #[.pointer (some k.1), .pointer (some k.2)]) (.agg #[.pointer (some k.1), .pointer (some k.2)]) = true
      unfold Instr.sameBits
      simp [Instr.sameBits]
    simp only [Instr.keyThatStays, h, if_true]
    rfl
end Go.Proofs.Ytlmhgeanknhcfaa.PairMap
