/-
  impl's error of what is not valid: what its variable holds; errors.Is of it and of nil.
  The wrap of a row that lists impl's error of what is not valid: the shape of the first world and what the listed variables hold are handed to the walk.
-/
import Derived.Test.YtdohpppkdecbdaaGreatDoorBMark
import Derived.Test.YtdohpppkdecbdaaGreatDoorBTreeOk
import Derived.Test.YtdohpppkdecbdaaGreatDoorChecked
import Derived.WalkKit
import Derived.LaidEql
import Derived.Stop.Asserts
import Derived.RowKitTokens
import Derived.Test.YtdohpppkdecbdaaGreatDoorRows
import Derived.Handed
import Derived.HandedShaped
import Derived.Stop.LaidErr
import Derived.OpenShut
import Derived.Lay
import Derived.LaidMore
namespace Go.Proofs.YtdohpppkdecbdaaGreatDoor.Errs
open Go.RowKit Go.Extern.Stop Go.Stop Go.Extern
open Strs
theorem isTypeOf (v : Value) (w : World) : (Extern.ReflectliteType.typeOf #[.iface 140 v]).run Tryz.prog w = .ok (.iface 94 (.agg #[.pointer (some ⟨Tryz.prog.globals.size, 140, none⟩)])) w := by kernel_rfl
def cmpF : Array Value → Sem Value := Extern.ReflectliteType.method fun t => do Extern.Rtype.noPackHeld "Comparable" t; pure (.bool (← typeInfo t).comparable)
theorem isCM (w : World) : (cmpF #[.agg #[.pointer (some ⟨Tryz.prog.globals.size, 140, none⟩)]]).run Tryz.prog w = .ok (.bool true) w := by kernel_rfl
theorem isComparable (g : Nat) (hg : g = Tryz.prog.globals.size) (w : World) : (cmpF #[.agg #[.pointer (some ⟨g, 140, none⟩)]]).run Tryz.prog w = .ok (.bool true) w := by rw [hg]; exact isCM w
theorem isMC (v : Value) (w : World) : (Go.method (Tryz.prog.types.size + Made.depth) 94 v "Comparable").run Tryz.prog w = .ok (124, v) w := by kernel_rfl
theorem isMethodComparable (n : Nat) (hn : n = Tryz.prog.types.size + Made.depth) (v : Value) (w : World) : (Go.method n 94 v "Comparable").run Tryz.prog w = .ok (124, v) w := by rw [hn]; exact isMC v w
theorem isComp : (Tryz.prog.info? 140).map (·.comparable) = some true := by kernel_rfl
theorem isSize : (Tryz.prog.info? 165).map (·.size) = some 1 := by kernel_rfl
set_option maxRecDepth 10000 in
theorem is_same (a : Addr) (w : World) :
    Calls Tryz.prog 17 #[.iface 140 (.pointer (some a)), .iface 140 (.pointer (some a))] w fun e w' => e = .returned (.bool true) ∧ w' = w := by
  obtain ⟨i, hi, hcmp⟩ := Option.map_eq_some_iff.1 isComp
  obtain ⟨j, hj, hjs⟩ := Option.map_eq_some_iff.1 isSize
  have h8 := @run_callFunc_extern Tryz.prog 35 _ Extern.ReflectliteType.typeOf Tryz.func35 (by kernel_rfl) (by kernel_rfl) (by kernel_rfl) (by kernel_rfl)
  have h32 := @run_callFunc_extern Tryz.prog 124 _ cmpF Tryz.func124 (by kernel_rfl) (by kernel_rfl) (by kernel_rfl) (by kernel_rfl)
  have tT := isTypeOf
  have heq := run_eql_iface_ptr_same (P := Tryz.prog) w a Tryz.underlying55 Tryz.underlying140 hi hcmp hj
  go_enter Tryz.func17, Tryz.ntmps17
  go_wp2
  rw [isMethodComparable _ ?hn]
  case hn => kernel_rfl
  go_wp2
  rw [isComparable _ ?hg]
  case hg => kernel_rfl
  go_wp2
  refine wp_loop_rounds 1 ?_
  rw [rounds_succ]
  go_wp2
  go_ret
  exact ⟨rfl, rfl⟩
set_option maxRecDepth 10000 in
theorem is_nil (b : Addr) (w : World) :
    Calls Tryz.prog 17 #[.nilIface, .iface 140 (.pointer (some b))] w fun e w' => e = .returned (.bool false) ∧ w' = w := by
  have hn := run_eql_iface_nil_left (P := Tryz.prog) w 140 (.pointer (some b)) Tryz.underlying55
  go_enter Tryz.func17, Tryz.ntmps17
  go_wp2
  go_ret
  exact ⟨rfl, rfl⟩
def Err (w : World) (a : Addr) : Prop := 0 < w.heap.size ∧ w.cell? ⟨0, 0, none⟩ = some (.iface 140 (.pointer (some a)))
theorem Err.keep {w w' : World} {a : Addr} (h : Err w a) (hb : Below w.heap.size w w') : Err w' a := ⟨Nat.lt_of_lt_of_le h.1 hb.size, cell_keep hb h.2⟩
theorem Err.low {base : Nat} {w w' : World} {a : Addr} (h : Err w a) (hb : Below base w w') (hl : 0 < base) : Err w' a := ⟨Nat.lt_of_lt_of_le h.1 hb.size, by rw [hb.cell (p := ⟨0, 0, none⟩) hl]; exact h.2⟩
def errV (ok : Bool) (a : Addr) : Value := if ok then .nilIface else .iface 140 (.pointer (some a))
theorem is_any (ok : Bool) (a : Addr) (w : World) :
    Calls Tryz.prog 17 #[errV ok a, .iface 140 (.pointer (some a))] w fun e w' => e = .returned (.bool (!ok)) ∧ w' = w := by
  cases ok with
  | true => exact is_nil a w
  | false => exact is_same a w
end Go.Proofs.YtdohpppkdecbdaaGreatDoor.Errs

namespace Go.Proofs.YtdohpppkdecbdaaGreatDoor.SentKit
open Go.RowKit Go.ChangeShapes Go.Proofs.YtdohpppkdecbdaaGreatDoor.Errs
variable {H : Type} {enc : TypeId × Value → H}
theorem wrap {a : Assume} {C : Checked} {os : Os} {f : FuncId} {fn : Func} {s : ChangeSpec} {conds : List PathCond} {apart fresh handsOn again : Bool} {X : World → Array Value → Prop}
    (hXh : ∀ w w' args, w.heap = w'.heap → X w args → X w' args)
    (own : ownKnob C.prog.godebug = none) (started : os.Started) (noInit : C.prog.inits.idxOf? f = none) (hfn : C.prog.funcs[f]? = some fn)
    (witness : ∃ (w : World) (tape : Tape) (i : Input), w.os = os ∧ (w.forCall tape i).Shaped C.prog ∧ i.vars = [] ∧ Input.okWide C.prog (w.forCall tape i) .any w.heap.size f i ∧
      ((s.pre enc C.prog fn conds apart (w.forCall tape i).memory i.args ∧ X (w.forCall tape i).memory i.args) ∧ sizedMet enc C.prog fn (OpenSpec.ofChange s) apart (w.forCall tape i).memory i.args) ∧ a.holds C.prog (lone (Frame.enter C.prog f i.args .normal) [] (w.forCall tape i)))
    (contract : ∀ (W : World) (base : Nat) (args : Array Value) (ds gs : List (DataW H)) (before : List MemPlace),
      (∀ (j : Nat) t v, fn.params[j]? = some t → args[j]? = some v → Value.okWide C.prog W .any base t v) →
      DataW.Whole enc C.prog fn.params.toList s.vars apart W args.toList ds gs before → W.ShapedOpen C.prog → X W args →
      Calls C.prog f args W fun e W' => ∃ v, e = .returned v ∧ s.post enc C.prog fn apart fresh handsOn again W args v W') :
    ReturnsInHanded a C os f .any (fun w args => (s.pre enc C.prog fn conds apart w args ∧ X w args) ∧ sizedMet enc C.prog fn (OpenSpec.ofChange s) apart w args) (s.post enc C.prog fn apart fresh handsOn again) := by
  refine returnsInHanded_of_calls own started noInit witness ?_
  intro w tape i _ hsh _ hok hpre _
  obtain ⟨_, _, _, fn', hfn', _, _, _, _, hval⟩ := hok
  have e : fn' = fn := Option.some.inj (hfn'.symm.trans hfn)
  subst e
  obtain ⟨⟨⟨ds, gs, before, hw, _⟩, hX⟩, _⟩ := hpre
  have hw' := DataW.Whole.of_heap (w' := w.forCall tape i) (by rfl) hw
  refine (contract (w.forCall tape i) w.heap.size i.args ds gs before hval hw' hsh (hXh (w.forCall tape i).memory (w.forCall tape i) i.args rfl hX)).mono fun e W' ⟨v, he, hp⟩ => ?_
  subst he
  exact ChangeSpec.post_blind hp
theorem name : Tryz.prog.globalNamed "loop.example/g03108/impl.errInvalid" = some 0 := by kernel_rfl
theorem type : (Tryz.prog.globals[0]?).map (·.type) = some 55 := by kernel_rfl
theorem star : "*" ++ "errors.errorString" = "*errors.errorString" := by decide
theorem row (u : TypeId) (h : Tryz.prog.typeName? 3 u = some "*errors.errorString") : u = 140 :=
  typeName_ptr_named (nm := "errors.errorString") (by rw [star]; kernel_rfl) (by kernel_rfl) (by decide) u (by rw [star]; exact h)
theorem cells1 : Tryz.prog.cellsOf 165 = 1 := by kernel_rfl
theorem cells2 : Tryz.prog.cellsOf 9 = 1 := by kernel_rfl
theorem err_of_laid {r : List (String × DataW Unit)} {W : World} (h : laidMet Tryz.prog (("loop.example/g03108/impl.errInvalid", Rows.laid_loop_example_g03108_impl_errInvalid) :: r) W) :
    ∃ a, W.var? Tryz.prog "loop.example/g03108/impl.errInvalid" = some #[.iface 140 (.pointer (some a))] ∧ Err W a := by
  obtain ⟨a, s, hv, -, -, -⟩ := laid_sentinel h name type Tryz.underlying55 row Tryz.underlying140 Tryz.underlying165 rfl rfl Tryz.underlying9 cells1 cells2
  have hc : W.cell? ⟨0, 0, none⟩ = some (.iface 140 (.pointer (some a))) := by simpa using World.var?_cell name hv 0
  refine ⟨a, hv, ?_, hc⟩
  rcases Nat.lt_or_ge 0 W.heap.size with h' | h'
  · exact h'
  · simp [World.cell?, Array.getElem?_eq_none h'] at hc
theorem reads {W : World} {a : Addr} (h : W.var? Tryz.prog "loop.example/g03108/impl.errInvalid" = some #[.iface 140 (.pointer (some a))]) (sp : Nat → Bool) :
    DataW.TrodVars enc Tryz.prog W sp ["loop.example/g03108/impl.errInvalid"] [tok enc (.iface 140 (.pointer (some a)))] [.cell 0 0] :=
  vars_read1 enc name type Tryz.underlying55 h trivial sp
theorem var_below {P : Program} {W W' : World} {n : String} {cs : Array Value} (hb : Below W.heap.size W W') (h : W.var? P n = some cs) : W'.var? P n = some cs := by
  unfold World.var? at h ⊢
  cases hg : P.globalNamed n with
  | none => simp [hg] at h
  | some g =>
    simp only [hg, Option.bind_some] at h ⊢
    have hlt : g < W.heap.size := by
      rcases Nat.lt_or_ge g W.heap.size with h' | h'
      · exact h'
      · simp [Array.getElem?_eq_none h'] at h
    rw [hb.block g hlt]
    exact h
end Go.Proofs.YtdohpppkdecbdaaGreatDoor.SentKit
