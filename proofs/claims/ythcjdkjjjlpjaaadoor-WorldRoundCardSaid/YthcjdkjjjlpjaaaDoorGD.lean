/- The reference's small functions on instructions: Word32, Jumps, Deep, IsRef, typeMay, Needs. The reference's answer on an instruction with a field too many: its form is wrong. The reference's answer on an instruction: what is wrong with it. -/
import Derived.Test.YthcjdkjjjlpjaaaDoorIn1
import Derived.Test.YthcjdkjjjlpjaaaDoorGB
import Derived.Test.YthcjdkjjjlpjaaaDoorIn2
namespace Go.Proofs.YthcjdkjjjlpjaaaDoor
open Go.ChangeShapes Go.WideShapes Go.ChangeAt Go.RowKit
set_option linter.unusedVariables false
attribute [local go_sem] eqGuard_errV_nil eqGuard_errV_iface eql_errV_nil neq_errV_nil eql_errV_form

theorem al0 (w : World) (o : Obj) : Below w.heap.size w (w.alloc o) := (Below.refl _ _).alloc (Nat.le_refl _) _
theorem bset0 {B b j : Nat} {a w : World} {v : Value} (h : Below B a w) (hb : B ≤ b) : Below B a (w.setCell ⟨b, j, none⟩ v) := h.setCell (p := ⟨b, j, none⟩) hb v
theorem needs_cases {k : Nat} {C : Nat → Prop} (h0 : 0 < k) (hk : k < 29) (c1 : C 1) (c2 : C 2) (c3 : C 3) (c4 : C 4) (c5 : C 5) (c6 : C 6) (c7 : C 7) (c8 : C 8) (c9 : C 9) (c10 : C 10) (c11 : C 11) (c12 : C 12) (c13 : C 13) (c14 : C 14) (c15 : C 15) (c16 : C 16) (c17 : C 17) (c18 : C 18) (c19 : C 19) (c20 : C 20) (c21 : C 21) (c22 : C 22) (c23 : C 23) (c24 : C 24) (c25 : C 25) (c26 : C 26) (c27 : C 27) (c28 : C 28) : C k := by
  have : k = 1 ∨ k = 2 ∨ k = 3 ∨ k = 4 ∨ k = 5 ∨ k = 6 ∨ k = 7 ∨ k = 8 ∨ k = 9 ∨ k = 10 ∨ k = 11 ∨ k = 12 ∨ k = 13 ∨ k = 14 ∨ k = 15 ∨ k = 16 ∨ k = 17 ∨ k = 18 ∨ k = 19 ∨ k = 20 ∨ k = 21 ∨ k = 22 ∨ k = 23 ∨ k = 24 ∨ k = 25 ∨ k = 26 ∨ k = 27 ∨ k = 28 := by omega
  rcases this with rfl | rfl | rfl | rfl | rfl | rfl | rfl | rfl | rfl | rfl | rfl | rfl | rfl | rfl | rfl | rfl | rfl | rfl | rfl | rfl | rfl | rfl | rfl | rfl | rfl | rfl | rfl | rfl
  all_goals assumption
end Go.Proofs.YthcjdkjjjlpjaaaDoor
namespace Go.Proofs.YthcjdkjjjlpjaaaDoor
open Go.ChangeShapes Go.WideShapes Go.ChangeAt Go.RowKit
set_option linter.unusedVariables false
set_option linter.unusedSimpArgs false

theorem emptyB_ne {l : List UInt8} (h : l ≠ []) : (bs l).toList.isEmpty = false := by
  rw [ByteArray.toList_eq, bs_list]
  simpa using h

end Go.Proofs.YthcjdkjjjlpjaaaDoor
namespace Go.Proofs.YthcjdkjjjlpjaaaDoor
open Go.ChangeShapes Go.WideShapes Go.ChangeAt Go.RowKit
set_option linter.unusedVariables false
set_option linter.unusedSimpArgs false

theorem insF_at (k : Int) (a b : Int) (ty cl nm : List UInt8) (b0 b1 b2 b3 b4 : Bool) (hk0 : 0 < k) (hk : k < 29) (h : ((opF k.toNat).testBit 0, (opF k.toNat).testBit 1, (opF k.toNat).testBit 2, (opF k.toNat).testBit 3, (opF k.toNat).testBit 4) = (b0, b1, b2, b3, b4)) :
    insF ⟨k, a, b, ty, cl, nm⟩ = (if ((a == 0 || b0) && (b == 0 || b1) && (ty == [] || b2) && (cl == [] || b3) && (nm == [] || b4)) = false then 1 else if rangeB ⟨k, a, b, ty, cl, nm⟩ = false then 2
      else if (typedB ⟨k, a, b, ty, cl, nm⟩ && ((!b3 || nameB cl) && (!b4 || nameB nm))) = false then 1 else 0) := by
  simp only [Prod.mk.injEq] at h
  obtain ⟨rfl, rfl, rfl, rfl, rfl⟩ := h
  unfold insF
  rw [if_neg (by simp only; omega)]
  rfl
theorem ten_cells (w : World) (b0 b1 b2 b3 b4 : Bool) (t : TypeId) {wn : World} (hb : Below (w.alloc (.cells #[.bool b0, .bool b1, .bool b2, .bool b3, .bool b4] t)).heap.size (w.alloc (.cells #[.bool b0, .bool b1, .bool b2, .bool b3, .bool b4] t)) wn) :
    wn.cell? ⟨w.heap.size, 3, none⟩ = some (.bool b3) ∧ wn.cell? ⟨w.heap.size, 4, none⟩ = some (.bool b4) := by
  have hlt : w.heap.size < (w.alloc (.cells #[.bool b0, .bool b1, .bool b2, .bool b3, .bool b4] t)).heap.size := by simp
  refine ⟨?_, ?_⟩
  · rw [hb.cell (p := ⟨w.heap.size, 3, none⟩) hlt]; exact World.cell?_alloc_mark ..
  · rw [hb.cell (p := ⟨w.heap.size, 4, none⟩) hlt]; exact World.cell?_alloc_mark ..
theorem ret_i {a b : Int} (h : a = b) : Ending.returned (.int .i64 a) = .returned (.int .i64 b) := by rw [h]
theorem fault_low (k : Int) (h : k ≤ 0 ∨ 28 < k) (a b : Int) (ty cl nm : List UInt8) : insF ⟨k, a, b, ty, cl, nm⟩ = 1 := by
  unfold insF
  rw [if_pos (by simp only; omega)]
end Go.Proofs.YthcjdkjjjlpjaaaDoor
