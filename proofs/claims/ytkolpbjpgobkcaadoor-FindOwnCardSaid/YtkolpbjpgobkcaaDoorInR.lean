/- The reference's small functions on instructions: Word32, Jumps, Deep, IsRef, typeMay, Needs. -/
import Derived.Test.YtkolpbjpgobkcaaDoorIn1
import Derived.Test.YtkolpbjpgobkcaaDoorGB
namespace Go.Proofs.YtkolpbjpgobkcaaDoor
open Go.ChangeShapes Go.WideShapes Go.ChangeAt Go.RowKit
set_option linter.unusedVariables false
attribute [local go_sem] eqGuard_errV_nil eqGuard_errV_iface eql_errV_nil neq_errV_nil eql_errV_form

theorem al0 (w : World) (o : Obj) : Below w.heap.size w (w.alloc o) := (Below.refl _ _).alloc (Nat.le_refl _) _
theorem bset0 {B b j : Nat} {a w : World} {v : Value} (h : Below B a w) (hb : B ≤ b) : Below B a (w.setCell ⟨b, j, none⟩ v) := h.setCell (p := ⟨b, j, none⟩) hb v
theorem needs_cases {k : Nat} {C : Nat → Prop} (h0 : 0 < k) (hk : k < 29) (c1 : C 1) (c2 : C 2) (c3 : C 3) (c4 : C 4) (c5 : C 5) (c6 : C 6) (c7 : C 7) (c8 : C 8) (c9 : C 9) (c10 : C 10) (c11 : C 11) (c12 : C 12) (c13 : C 13) (c14 : C 14) (c15 : C 15) (c16 : C 16) (c17 : C 17) (c18 : C 18) (c19 : C 19) (c20 : C 20) (c21 : C 21) (c22 : C 22) (c23 : C 23) (c24 : C 24) (c25 : C 25) (c26 : C 26) (c27 : C 27) (c28 : C 28) : C k := by
  have : k = 1 ∨ k = 2 ∨ k = 3 ∨ k = 4 ∨ k = 5 ∨ k = 6 ∨ k = 7 ∨ k = 8 ∨ k = 9 ∨ k = 10 ∨ k = 11 ∨ k = 12 ∨ k = 13 ∨ k = 14 ∨ k = 15 ∨ k = 16 ∨ k = 17 ∨ k = 18 ∨ k = 19 ∨ k = 20 ∨ k = 21 ∨ k = 22 ∨ k = 23 ∨ k = 24 ∨ k = 25 ∨ k = 26 ∨ k = 27 ∨ k = 28 := by omega
  rcases this with rfl | rfl | rfl | rfl | rfl | rfl | rfl | rfl | rfl | rfl | rfl | rfl | rfl | rfl | rfl | rfl | rfl | rfl | rfl | rfl | rfl | rfl | rfl | rfl | rfl | rfl | rfl | rfl
  all_goals assumption
end Go.Proofs.YtkolpbjpgobkcaaDoor
