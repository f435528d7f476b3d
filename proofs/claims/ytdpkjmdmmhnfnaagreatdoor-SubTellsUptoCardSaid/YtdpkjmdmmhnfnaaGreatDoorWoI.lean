/- An int as an index: its remainder as an unsigned number. -/
import Derived.Test.YtdpkjmdmmhnfnaaGreatDoorWoL
namespace Go.Proofs.YtdpkjmdmmhnfnaaGreatDoor
open Go.ChangeShapes Go.WideShapes Go.ChangeAt Go.RowKit
set_option linter.unusedVariables false

theorem conv_uint (n : Int) (W : World) : (convert 3 94 (.int .i64 n)).run Tryz.prog W = .ok (.int .u64 (IntKind.u64.wrap n)) W := by
  rw [run_convert_int (P := Tryz.prog) (w := W)]
  all_goals first | kernel_rfl | skip
theorem rem_uint (u : Int) (k t : Nat) (hk : 0 < k) (ht : u.tmod (k : Int) = (t : Int)) (W : World) : (binOp .rem 94 (.int .u64 u) (.int .u64 (k : Int))).run Tryz.prog W = .ok (.int .u64 (t : Int)) W := by
  simp [binOp, Op.intDiv, ht]
  intro h
  omega
theorem pick_at (i : Int) (k : Nat) (hk : 0 < k) : ∃ t : Nat, t < k ∧ (IntKind.u64.wrap i).tmod (k : Int) = (t : Int) := by
  have h0 : 0 ≤ IntKind.u64.wrap i := by rw [IntKind.wrap_u64]; omega
  refine ⟨((IntKind.u64.wrap i).tmod (k : Int)).toNat, ?_, ?_⟩
  · rw [Int.tmod_eq_emod_of_nonneg h0]
    have := Int.emod_lt_of_pos (IntKind.u64.wrap i) (show (0 : Int) < k by omega)
    have := Int.emod_nonneg (IntKind.u64.wrap i) (show (k : Int) ≠ 0 by omega)
    omega
  · rw [Int.tmod_eq_emod_of_nonneg h0]
    have := Int.emod_nonneg (IntKind.u64.wrap i) (show (k : Int) ≠ 0 by omega)
    omega
theorem wrap_small_u (k : Nat) (h : k ≤ 1048576) : IntKind.u64.wrap (k : Int) = (k : Int) := by rw [IntKind.wrap_u64]; omega
end Go.Proofs.YtdpkjmdmmhnfnaaGreatDoor
