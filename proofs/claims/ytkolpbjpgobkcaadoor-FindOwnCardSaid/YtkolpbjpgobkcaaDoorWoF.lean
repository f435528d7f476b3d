/- The reference's WorldFault. -/
import Derived.Test.YtkolpbjpgobkcaaDoorGU
import Derived.Test.YtkolpbjpgobkcaaDoorClG
namespace Go.Proofs.YtkolpbjpgobkcaaDoor
open Go.ChangeShapes Go.WideShapes Go.ChangeAt Go.RowKit
set_option linter.unusedVariables false

theorem size_class (w : World) : (Go.sizeOf 31).run Tryd.prog w = .ok 6 w := by kernel_rfl
theorem pre_class (b o n c h : Nat) (hc : h ≤ c) (W : World) : (Instr.sliceAt 22 (.slice (some ⟨b, o, none⟩) n c) none (some (.int .i64 (h : Int))) none).run Tryd.prog W = .ok (.slice (some ⟨b, o, none⟩) h c) W := by
  have e : Tryd.prog.underlying 22 = some (.slice (Tryd.prog.elem 22)) := by kernel_rfl
  have e2 : Tryd.prog.elem 22 = 31 := by kernel_rfl
  rw [run_sliceAt_slice W _ _ _ _ _ e, run_slice_h W _ _ n c e .i64 _ (by omega) (by omega), e2, size_class]
  show Result.ok (sliced (some ⟨b, o, none⟩) 0 h c 6) W = _
  rw [sliced_pre]
theorem ClassRow.take {w : World} {A : Option Addr} {n c : Nat} {l : List ClassD} (R : ClassRow w A n c l) {h : Nat} (hh : h ≤ n) : ClassRow w A h c (l.take h) := SRow.take R hh
/-- A block that was just laid, in a later world. -/
def Laid6 (w : World) (g : Nat) : Prop :=
  w.cell? ⟨g, 0, none⟩ = some (.string ⟨#[]⟩) ∧ w.cell? ⟨g, 1, none⟩ = some (.string ⟨#[]⟩) ∧ w.cell? ⟨g, 2, none⟩ = some (.slice none 0 0) ∧ w.cell? ⟨g, 3, none⟩ = some (.bool false) ∧ w.cell? ⟨g, 4, none⟩ = some (.slice none 0 0) ∧ w.cell? ⟨g, 5, none⟩ = some (.slice none 0 0) ∧
  w.frozen? ⟨g, 0, none⟩ = false ∧ w.frozen? ⟨g, 1, none⟩ = false ∧ w.frozen? ⟨g, 2, none⟩ = false ∧ w.frozen? ⟨g, 3, none⟩ = false ∧ w.frozen? ⟨g, 4, none⟩ = false ∧ w.frozen? ⟨g, 5, none⟩ = false
theorem frozen_at (w : World) (C : Array Value) (t : TypeId) (j : Nat) : (w.alloc (.cells C t)).frozen? ⟨w.heap.size, j, none⟩ = false := by
  have h : (w.alloc (.cells C t)).heap[w.heap.size]? = some (.cells C t (0, 0)) := by
    show (w.heap.push (.cells C t))[w.heap.size]? = _
    simp
  unfold World.frozen?
  rw [h]
  show (decide (0 ≤ j) && decide (j < 0)) = false
  simp
theorem laid6_at (w : World) (t : TypeId) : Laid6 (w.alloc (.cells #[.string ⟨#[]⟩, .string ⟨#[]⟩, .slice none 0 0, .bool false, .slice none 0 0, .slice none 0 0] t)) w.heap.size :=
  ⟨World.cell?_alloc_mark .., World.cell?_alloc_mark .., World.cell?_alloc_mark .., World.cell?_alloc_mark .., World.cell?_alloc_mark .., World.cell?_alloc_mark .., frozen_at .., frozen_at .., frozen_at .., frozen_at .., frozen_at .., frozen_at ..⟩
theorem Laid6.below {w w' : World} {g : Nat} (h : Laid6 w g) (hg : g < w.heap.size) (hb : Below w.heap.size w w') : Laid6 w' g := by
  obtain ⟨h0, h1, h2, h3, h4, h5, f0, f1, f2, f3, f4, f5⟩ := h
  exact ⟨(hb.cell (by exact hg)).trans h0, (hb.cell (by exact hg)).trans h1, (hb.cell (by exact hg)).trans h2, (hb.cell (by exact hg)).trans h3, (hb.cell (by exact hg)).trans h4, (hb.cell (by exact hg)).trans h5,
    (hb.frozen (by exact hg)).trans f0, (hb.frozen (by exact hg)).trans f1, (hb.frozen (by exact hg)).trans f2, (hb.frozen (by exact hg)).trans f3, (hb.frozen (by exact hg)).trans f4, (hb.frozen (by exact hg)).trans f5⟩
theorem bal_ {B : Nat} {a w : World} {o : Obj} (h : Below B a w) (hB : B ≤ w.heap.size) : Below B a (w.alloc o) := h.alloc hB o
theorem bput_ {B b j : Nat} {a w : World} {v : Value} (h : Below B a w) (hB : B ≤ b) : Below B a (w.setCell ⟨b, j, none⟩ v) := h.setCell (p := ⟨b, j, none⟩) hB v
theorem memF_cls {pre : List ClassD} {x : ClassD} (h : classF x ≠ 0) : memF pre x = classF x := by unfold memF; rw [if_pos h]
theorem memF_twice {pre : List ClassD} {x : ClassD} (h : classF x = 0) (h2 : knownB pre x.nm = true) : memF pre x = 5 := by unfold memF; rw [h, if_neg (by simp), if_pos h2]
theorem memF_none {pre : List ClassD} {x : ClassD} (h : classF x = 0) (h2 : knownB pre x.nm = false) : memF pre x = 0 := by unfold memF; rw [h, h2, if_neg (by simp), if_neg (by simp)]

end Go.Proofs.YtkolpbjpgobkcaaDoor
