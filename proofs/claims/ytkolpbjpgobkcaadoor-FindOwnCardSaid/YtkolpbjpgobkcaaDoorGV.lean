/- Two lists of texts compared (coffeehousesame.Texts). law2.lived, from what world.Supers says. An int as an index: its remainder as an unsigned number. -/
import Derived.Test.YtkolpbjpgobkcaaDoorGB
import Derived.Test.YtkolpbjpgobkcaaDoorGX
namespace Go.Proofs.YtkolpbjpgobkcaaDoor
open Go.ChangeShapes Go.WideShapes Go.ChangeAt Go.RowKit
set_option linter.unusedVariables false
attribute [local go_sem] eqGuard_errV_nil eqGuard_errV_iface eql_errV_nil neq_errV_nil eql_errV_form

theorem take_same {α : Type} {l m : List α} (hl : l.length = m.length) {k : Nat} (h : k < l.length) (h' : k < m.length) (hk : l.take k = m.take k) (he : l[k] = m[k]) : l.take (k + 1) = m.take (k + 1) := by
  rw [List.take_succ_eq_append_getElem h, List.take_succ_eq_append_getElem h', hk, he]
end Go.Proofs.YtkolpbjpgobkcaaDoor
namespace Go.Proofs.YtkolpbjpgobkcaaDoor
open Go.ChangeShapes Go.WideShapes Go.ChangeAt Go.RowKit
set_option linter.unusedVariables false
attribute [local go_sem] eqGuard_errV_nil eqGuard_errV_iface eql_errV_nil neq_errV_nil eql_errV_form

theorem cat_supers (K : WorldSupers) (b : Nat) (W : World) (T : Tab W) (R : ClassRow W (some ⟨b, 0, none⟩) 2 2 beastL) :
    Calls Tryd.prog 11 #[.slice (some ⟨b, 0, none⟩) 2 2, .string ⟨#[67, 97, 116]⟩] W fun e w' => ∃ A c, e = .returned (.tuple #[.slice A 3 c, .nilIface]) ∧ Own w' W.heap.size (.slice A 3 c) [catB, beastB, objB] ∧ Below W.heap.size W w' :=
  (K beastL 0 catB (some ⟨b, 0, none⟩) 2 2 W beast_is T R (fun h => by cases h) upto_beast wf_beast (by decide) (by decide)).mono fun e w' h => by
    obtain ⟨A, s, c, h1, h2, h3, _, h5⟩ := lists_ok (namedQ_zero.2 ⟨rfl, by decide⟩) h
    obtain rfl := h3.one cat_chain
    exact ⟨A, c, h1, h2, h5⟩
end Go.Proofs.YtkolpbjpgobkcaaDoor
namespace Go.Proofs.YtkolpbjpgobkcaaDoor
open Go.ChangeShapes Go.WideShapes Go.ChangeAt Go.RowKit
set_option linter.unusedVariables false

theorem conv_uint (n : Int) (W : World) : (convert 3 32 (.int .i64 n)).run Tryd.prog W = .ok (.int .u64 (IntKind.u64.wrap n)) W := by
  rw [run_convert_int (P := Tryd.prog) (w := W)]
  all_goals first | kernel_rfl | skip
theorem rem_uint (u : Int) (k t : Nat) (hk : 0 < k) (ht : u.tmod (k : Int) = (t : Int)) (W : World) : (binOp .rem 32 (.int .u64 u) (.int .u64 (k : Int))).run Tryd.prog W = .ok (.int .u64 (t : Int)) W := by
  simp [binOp, Op.intDiv, ht]
  intro h
  omega
theorem pick_at (i : Int) (k : Nat) (hk : 0 < k) : ∃ t : Nat, t < k ∧ (IntKind.u64.wrap i).tmod (k : Int) = (t : Int) := by
  have h0 : 0 ≤ IntKind.u64.wrap i := by rw [IntKind.wrap_u64]; omega
  refine ⟨((IntKind.u64.wrap i).tmod (k : Int)).toNat, ?_, ?_⟩
  · rw [Int.tmod_eq_emod_of_nonneg h0]
    have := Int.emod_lt_of_pos (IntKind.u64.wrap i) (show (0 : Int) < k by omega)
    have := Int.emod_nonneg (IntKind.u64.wrap i) (show (k : Int) ≠ 0 by omega)
    omega
  · rw [Int.tmod_eq_emod_of_nonneg h0]
    have := Int.emod_nonneg (IntKind.u64.wrap i) (show (k : Int) ≠ 0 by omega)
    omega
theorem wrap_small_u (k : Nat) (h : k ≤ 1048576) : IntKind.u64.wrap (k : Int) = (k : Int) := by rw [IntKind.wrap_u64]; omega
end Go.Proofs.YtkolpbjpgobkcaaDoor
