/- The contract of the reference's ClassFault. -/
import Derived.Test.YtkolpbjpgobkcaaDoorClF
import Derived.Test.YtkolpbjpgobkcaaDoorGH
import Derived.Deep.RegionHeld
namespace Go.Proofs.YtkolpbjpgobkcaaDoor
open Go.ChangeShapes Go.WideShapes Go.ChangeAt Go.RowKit
set_option linter.unusedVariables false
attribute [local go_sem] eqGuard_errV_nil eqGuard_errV_iface eql_errV_nil neq_errV_nil eql_errV_form

theorem emptyB_nil {l : List UInt8} (h : l = []) : (bs l).toList.isEmpty = true := by rw [h, ByteArray.toList_eq]; rfl
theorem behind_drew1 {w a : World} (h : Below w.drew.heap.size w.drew a) : Below w.heap.size w a := bnext (Below.refl w.heap.size w).drew h
theorem quiet_more {P : Program} {f : FuncId} {args : Array Value} {w : World} {b n : Nat} {u : Value} (h : Calls P f args (w.drewN (b + n)) fun e w' => e = .returned u ∧ w.drewN (b + n) = w') :
    Calls P f args (w.drewN (b + n)) fun e w'' => e = .returned u ∧ ∃ m, w'' = w.drewN (b + m) := h.mono fun _ _ ⟨he, hm⟩ => ⟨he, n, hm.symm⟩
end Go.Proofs.YtkolpbjpgobkcaaDoor
