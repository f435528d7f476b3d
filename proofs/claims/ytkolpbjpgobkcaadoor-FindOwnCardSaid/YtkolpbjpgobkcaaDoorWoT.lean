/- The walk of coffeehouselaw2.WorldTells, from what package world says. -/
import Derived.Test.YtkolpbjpgobkcaaDoorGV
import Derived.Test.YtkolpbjpgobkcaaDoorWoN
import Derived.Test.YtkolpbjpgobkcaaDoorGA
import Derived.Deep.QuietTactic
import Derived.BigQuiet
import Derived.RegionTactic
import Derived.ChangeAlike
import Derived.Laws.IdiomStrings
namespace Go.Proofs.YtkolpbjpgobkcaaDoor
open Go.ChangeShapes Go.WideShapes Go.ChangeAt Go.RowKit
set_option linter.unusedVariables false
attribute [local go_sem] eqGuard_errV_nil eqGuard_errV_iface eql_errV_nil neq_errV_nil eql_errV_form

theorem str_nil (w : World) (A : Option Addr) (c : Nat) : StrRow w A 0 c [] := SRow.nil_ _ _ _
end Go.Proofs.YtkolpbjpgobkcaaDoor
