/- The contract of the comparison of two errors. -/
import Derived.Test.YtkolpbjpgobkcaaGreatDoorGA
import Derived.Deep.QuietTactic
import Derived.BigQuiet
import Derived.RegionTactic
import Derived.ChangeAlike
import Derived.Laws.IdiomStrings
namespace Go.Proofs.YtkolpbjpgobkcaaGreatDoor
open Go.ChangeShapes Go.WideShapes Go.ChangeAt Go.RowKit
open Go.ChangeMaps (open_string shut_string)
set_option linter.unusedVariables false

attribute [local go_sem] eqGuard_errV_nil eqGuard_errV_iface eql_errV_nil neq_errV_nil eql_errV_form

theorem sameError_any (n m : Nat) (w : World) : Calls Tryz.prog 10 #[errV n, .int .i64 (m : Int)] w fun e w' => e = .returned (.bool (n == m)) ∧ w = w' := by
  by_cases hm : m = 0
  · have hz : ((m : Int) == 0) = true := by simp [hm]
    have H := Lib.hid hm
    clear hm
    go_enter Tryz.func10, Tryz.ntmps10
    go_wp2
    go_ret
    exact ⟨ret_bool (by rw [H.out]), rfl⟩
  · have he := fun w => eql_errV_iface n m w hm
    have hz : ((m : Int) == 0) = false := by rw [beq_eq_false_iff_ne]; omega
    clear hm
    go_enter Tryz.func10, Tryz.ntmps10
    go_wp2
    go_ret
    exact ⟨rfl, rfl⟩
end Go.Proofs.YtkolpbjpgobkcaaGreatDoor
