/- The walk of coffeehouselaw2.WorldTells, from what package world says. -/
import Derived.Test.YtnmfcckahglbbaaGreatDoorGV
import Derived.Test.YtnmfcckahglbbaaGreatDoorWoS
import Derived.Test.YtnmfcckahglbbaaGreatDoorSame
namespace Go.Proofs.YtnmfcckahglbbaaGreatDoor
open Go.ChangeShapes Go.WideShapes Go.ChangeAt Go.RowKit
set_option linter.unusedVariables false
attribute [local go_sem] eqGuard_errV_nil eqGuard_errV_iface eql_errV_nil neq_errV_nil eql_errV_form

theorem str_nil (w : World) (A : Option Addr) (c : Nat) : StrRow w A 0 c [] := SRow.nil_ _ _ _
theorem wsame_self (q : Nat) (w : World) : Calls Tryz.prog 10 #[errV q, .int .i64 (q : Int)] w fun e w' => e = .returned (.bool true) ∧ w = w' :=
  (sameError_any q q w).mono fun _ _ ⟨h1, h2⟩ => ⟨by rw [h1]; simp, h2⟩
theorem wsame_zero (w : World) : Calls Tryz.prog 10 #[.nilIface, .int .i64 0] w fun e w' => e = .returned (.bool true) ∧ w = w' := wsame_self 0 w
end Go.Proofs.YtnmfcckahglbbaaGreatDoor
