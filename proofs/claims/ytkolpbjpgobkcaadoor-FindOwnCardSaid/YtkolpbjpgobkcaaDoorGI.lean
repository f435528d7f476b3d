/- The reference's answer on an instruction with a field too many: its form is wrong. The reference's answer on an instruction: what is wrong with it. -/
import Derived.Test.YtkolpbjpgobkcaaDoorInR
import Derived.Test.YtkolpbjpgobkcaaDoorIn2
namespace Go.Proofs.YtkolpbjpgobkcaaDoor
open Go.ChangeShapes Go.WideShapes Go.ChangeAt Go.RowKit
set_option linter.unusedVariables false
set_option linter.unusedSimpArgs false

theorem emptyB_ne {l : List UInt8} (h : l ≠ []) : (bs l).toList.isEmpty = false := by
  rw [ByteArray.toList_eq, bs_list]
  simpa using h

end Go.Proofs.YtkolpbjpgobkcaaDoor
namespace Go.Proofs.YtkolpbjpgobkcaaDoor
open Go.ChangeShapes Go.WideShapes Go.ChangeAt Go.RowKit
set_option linter.unusedVariables false
set_option linter.unusedSimpArgs false

theorem insF_at (k : Int) (a b : Int) (ty cl nm : List UInt8) (b0 b1 b2 b3 b4 : Bool) (hk0 : 0 < k) (hk : k < 29) (h : ((opF k.toNat).testBit 0, (opF k.toNat).testBit 1, (opF k.toNat).testBit 2, (opF k.toNat).testBit 3, (opF k.toNat).testBit 4) = (b0, b1, b2, b3, b4)) :
    insF ⟨k, a, b, ty, cl, nm⟩ = (if ((a == 0 || b0) && (b == 0 || b1) && (ty == [] || b2) && (cl == [] || b3) && (nm == [] || b4)) = false then 1 else if rangeB ⟨k, a, b, ty, cl, nm⟩ = false then 2
      else if (typedB ⟨k, a, b, ty, cl, nm⟩ && ((!b3 || nameB cl) && (!b4 || nameB nm))) = false then 1 else 0) := by
  simp only [Prod.mk.injEq] at h
  obtain ⟨rfl, rfl, rfl, rfl, rfl⟩ := h
  unfold insF
  rw [if_neg (by simp only; omega)]
  rfl
theorem ten_cells (w : World) (b0 b1 b2 b3 b4 : Bool) (t : TypeId) {wn : World} (hb : Below (w.alloc (.cells #[.bool b0, .bool b1, .bool b2, .bool b3, .bool b4] t)).heap.size (w.alloc (.cells #[.bool b0, .bool b1, .bool b2, .bool b3, .bool b4] t)) wn) :
    wn.cell? ⟨w.heap.size, 3, none⟩ = some (.bool b3) ∧ wn.cell? ⟨w.heap.size, 4, none⟩ = some (.bool b4) := by
  have hlt : w.heap.size < (w.alloc (.cells #[.bool b0, .bool b1, .bool b2, .bool b3, .bool b4] t)).heap.size := by simp
  refine ⟨?_, ?_⟩
  · rw [hb.cell (p := ⟨w.heap.size, 3, none⟩) hlt]; exact World.cell?_alloc_mark ..
  · rw [hb.cell (p := ⟨w.heap.size, 4, none⟩) hlt]; exact World.cell?_alloc_mark ..
theorem ret_i {a b : Int} (h : a = b) : Ending.returned (.int .i64 a) = .returned (.int .i64 b) := by rw [h]
theorem fault_low (k : Int) (h : k ≤ 0 ∨ 28 < k) (a b : Int) (ty cl nm : List UInt8) : insF ⟨k, a, b, ty, cl, nm⟩ = 1 := by
  unfold insF
  rw [if_pos (by simp only; omega)]
end Go.Proofs.YtkolpbjpgobkcaaDoor
