/- Two instructions compared with ==. -/
import Derived.Test.YthnilohilbacpaaDoorInM
import Derived.Laws.StructEq
import Derived.WalkKit
namespace Go.Proofs.YthnilohilbacpaaDoor
open Go.RowKit
set_option linter.unusedVariables false

theorem fields_ins : Tryd.prog.underlying 27 = some (.struct (Tryd.prog.fieldsOf 27)) := by
  unfold Program.fieldsOf
  rw [Tryd.underlying27]
theorem held_ins : Tryd.prog.stoodInHeld 27 = false := by kernel_rfl
theorem guard_ins : Tryd.prog.eqGuardType Tryd.prog.depth 27 = false := by kernel_rfl
set_option maxRecDepth 100000 in
theorem equal_ins (w : World) (a0 a1 a2 b0 b1 b2 : Int) (s3 s4 s5 t3 t4 t5 : List UInt8) :
    (Op.equalIn 10000 27 (.agg #[.int .i64 a0, .int .i64 a1, .int .i64 a2, .string (bs s3), .string (bs s4), .string (bs s5)]) (.agg #[.int .i64 b0, .int .i64 b1, .int .i64 b2, .string (bs t3), .string (bs t4), .string (bs t5)])).run Tryd.prog w =
      .ok (decide ((⟨a0, a1, a2, s3, s4, s5⟩ : InsD) = ⟨b0, b1, b2, t3, t4, t5⟩)) w := by
  rw [show (10000 : Nat) = 9999 + 1 from rfl, run_equalIn_struct w 9999 _ _ _ fields_ins held_ins]
  unfold Program.fieldsOf
  rw [Tryd.underlying27]
  have hi := Tryd.underlying3
  have hs := Tryd.underlying9
  simp [Op.eqFields, go_sem, run_equalIn_int _ _ _ _ _ _ _ hi, run_equalIn_string _ _ _ _ _ hs, ByteArray.toList_eq, bs_list]
  repeat' split
  all_goals simp_all
/-- The two comparisons, in the walk's spelling. -/
theorem eql_ins (w : World) (a0 a1 a2 b0 b1 b2 : Int) (s3 s4 s5 t3 t4 t5 : List UInt8) :
    (binOp .eql 27 (.agg #[.int .i64 a0, .int .i64 a1, .int .i64 a2, .string (bs s3), .string (bs s4), .string (bs s5)]) (.agg #[.int .i64 b0, .int .i64 b1, .int .i64 b2, .string (bs t3), .string (bs t4), .string (bs t5)])).run Tryd.prog w =
      .ok (.bool (decide ((⟨a0, a1, a2, s3, s4, s5⟩ : InsD) = ⟨b0, b1, b2, t3, t4, t5⟩))) w := by
  rw [run_eql_struct, equal_ins]; rfl
theorem neq_ins (w : World) (a0 a1 a2 b0 b1 b2 : Int) (s3 s4 s5 t3 t4 t5 : List UInt8) :
    (binOp .neq 27 (.agg #[.int .i64 a0, .int .i64 a1, .int .i64 a2, .string (bs s3), .string (bs s4), .string (bs s5)]) (.agg #[.int .i64 b0, .int .i64 b1, .int .i64 b2, .string (bs t3), .string (bs t4), .string (bs t5)])).run Tryd.prog w =
      .ok (.bool (!decide ((⟨a0, a1, a2, s3, s4, s5⟩ : InsD) = ⟨b0, b1, b2, t3, t4, t5⟩))) w := by
  rw [run_neq_struct, equal_ins]; rfl
theorem eqGuard_ins (w : World) (op : BinOp) (x y : Operand) (xs ys : Array Value) : (eqGuard op 27 x y (.agg xs) (.agg ys)).run Tryd.prog w = .ok () w :=
  run_eqGuard_agg w op _ x y xs ys guard_ins
end Go.Proofs.YthnilohilbacpaaDoor
