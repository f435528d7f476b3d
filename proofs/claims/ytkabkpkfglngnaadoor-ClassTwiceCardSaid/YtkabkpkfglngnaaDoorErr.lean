/- Errors as numbers: the value of an error (0: none), and the comparisons that the statements make of it. -/
import Derived.Test.YtkabkpkfglngnaaDoorProg
import Derived.WalkKit
import Derived.LoopTactic
import Derived.Lib.Hide
import Derived.IntWalk
import Derived.BigGuardPart
import Derived.Lib.IfaceEq
import Derived.Lib.IfaceNeq
import Derived.Outline
import Derived.LaidEql
namespace Go.Proofs.YtkabkpkfglngnaaDoor
open Go.RowKit
set_option linter.unusedVariables false

/-- The value of an error: its number; 0 is none. -/
def errV (n : Nat) : Value := if n = 0 then .nilIface else .iface 32 (.int .i64 (n : Int))
theorem errV_zero : errV 0 = .nilIface := rfl
theorem errV_pos {n : Nat} (h : n ≠ 0) : errV n = .iface 32 (.int .i64 (n : Int)) := by simp [errV, h]
theorem errV_form : errV 1 = .iface 32 (.int .i64 1) := rfl

theorem ret_bool {a b : Bool} (h : a = b) : Ending.returned (.bool a) = .returned (.bool b) := by rw [h]
theorem ret_err {a : Value} {n : Nat} (h : a = errV n) : Ending.returned a = .returned (errV n) := by rw [h]

theorem errno_cmp : (Tryd.prog.info? 32).map (·.comparable) = some true := by kernel_rfl
theorem eqGuard_errV_nil {op : BinOp} {t : TypeId} {x : Operand} {c : Value} (n : Nat) : eqGuard op t x (.const c) (errV n) .nilIface = pure () := by
  rcases Nat.eq_zero_or_pos n with rfl | h
  · exact eqGuard_nil_constR ..
  · rw [errV_pos (by omega)]; exact eqGuard_at_iface ..
theorem eqGuard_errV_iface {op : BinOp} {t : TypeId} {x y : Operand} {d : TypeId} {u : Value} (n : Nat) : eqGuard op t x y (errV n) (.iface d u) = pure () := by
  rcases Nat.eq_zero_or_pos n with rfl | h
  · exact eqGuard_nil_iface ..
  · rw [errV_pos (by omega)]; exact eqGuard_at_iface ..
theorem eql_errV_nil (n : Nat) (w : World) : (binOp .eql 30 (errV n) .nilIface).run Tryd.prog w = .ok (.bool (n == 0)) w := by
  rcases Nat.eq_zero_or_pos n with rfl | h
  · exact run_eql_nil_nil w _ (by kernel_rfl)
  · rw [errV_pos (by omega), run_eql_held_nil w _ _ _ (by kernel_rfl)]
    have : (n == 0) = false := by rw [beq_eq_false_iff_ne]; omega
    rw [this]
theorem neq_errV_nil (n : Nat) (w : World) : (binOp .neq 30 (errV n) .nilIface).run Tryd.prog w = .ok (.bool (n != 0)) w := by
  rcases Nat.eq_zero_or_pos n with rfl | h
  · exact run_neq_nil_nil w _ (by kernel_rfl)
  · rw [errV_pos (by omega), run_neq_held_nil w _ _ _ (by kernel_rfl)]
    have : (n != 0) = true := by rw [bne_iff_ne]; omega
    rw [this]
theorem eql_errV_iface (n m : Nat) (w : World) (hm : m ≠ 0) : (binOp .eql 30 (errV n) (.iface 32 (.int .i64 (m : Int)))).run Tryd.prog w = .ok (.bool (n == m)) w := by
  rcases Nat.eq_zero_or_pos n with rfl | h
  · have : (0 == m) = false := by rw [beq_eq_false_iff_ne]; omega
    rw [this]
    exact run_eql_iface_nil_left _ _ _ Tryd.underlying30
  · rw [errV_pos (by omega), Lib.run_eql_iface_int w n m Tryd.underlying30 errno_cmp Tryd.underlying32]
    congr 2
    rw [Bool.eq_iff_iff]; simp; omega
theorem eql_errV_form (n : Nat) (w : World) : (binOp .eql 30 (errV n) (.iface 32 (.int .i64 1))).run Tryd.prog w = .ok (.bool (n == 1)) w := eql_errV_iface n 1 w (by omega)
end Go.Proofs.YtkabkpkfglngnaaDoor
