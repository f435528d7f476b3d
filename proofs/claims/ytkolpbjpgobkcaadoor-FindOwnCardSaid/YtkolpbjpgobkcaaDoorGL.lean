/- The reference's FieldOf. The reference's ownMethod. -/
import Derived.Test.YtkolpbjpgobkcaaDoorGJ
import Derived.Test.YtkolpbjpgobkcaaDoorWoN
namespace Go.Proofs.YtkolpbjpgobkcaaDoor
open Go.ChangeShapes Go.WideShapes Go.ChangeAt Go.RowKit
set_option linter.unusedVariables false

def fieldV (f : FieldD) : Value := .agg #[.string (bs f.nm), .string (bs f.ty)]
/-- What FieldOf gives back. -/
def fieldRes : Option (List UInt8 × FieldD) → Value
  | some r => .tuple #[.string (bs r.1), fieldV r.2, .bool true]
  | none => .tuple #[.string ⟨#[]⟩, .agg #[.string ⟨#[]⟩, .string ⟨#[]⟩], .bool false]
/-- A block of two texts that may be written. -/
def Laid2 (w : World) (g : Nat) : Prop := g < w.heap.size ∧ w.cell? ⟨g, 0, none⟩ = some (.string ⟨#[]⟩) ∧ w.cell? ⟨g, 1, none⟩ = some (.string ⟨#[]⟩) ∧ w.frozen? ⟨g, 0, none⟩ = false ∧ w.frozen? ⟨g, 1, none⟩ = false
theorem laid2_at (w : World) (t : TypeId) : Laid2 (w.alloc (.cells #[.string ⟨#[]⟩, .string ⟨#[]⟩] t)) w.heap.size := ⟨by simp, World.cell?_alloc_mark .., World.cell?_alloc_mark .., frozen_at .., frozen_at ..⟩
theorem Laid2.below {w w' : World} {g : Nat} (h : Laid2 w g) (hb : Below w.heap.size w w') : Laid2 w' g := by
  obtain ⟨h0, h1, h2, h3, h4⟩ := h
  exact ⟨Nat.lt_of_lt_of_le h0 hb.size, (hb.cell (by exact h0)).trans h1, (hb.cell (by exact h0)).trans h2, (hb.frozen (by exact h0)).trans h3, (hb.frozen (by exact h0)).trans h4⟩
end Go.Proofs.YtkolpbjpgobkcaaDoor
namespace Go.Proofs.YtkolpbjpgobkcaaDoor
open Go.ChangeShapes Go.WideShapes Go.ChangeAt Go.RowKit
set_option linter.unusedVariables false

/-- The value of a method, whatever its code and its handlers lie in. -/
def MethVal (m : MethD) (v : Value) : Prop := ∃ A i j B k l, v = .agg #[.string (bs m.nm), .string (bs m.ty), .bool m.st, .bool m.ab, .bool m.pr, .int .i64 m.lo, .slice A i j, .slice B k l]
def zeroM : MethD := ⟨[], [], false, false, false, 0, [], []⟩
theorem zeroM_val : MethVal zeroM (.agg #[.string ⟨#[]⟩, .string ⟨#[]⟩, .bool false, .bool false, .bool false, .int .i64 0, .slice none 0 0, .slice none 0 0]) := ⟨none, 0, 0, none, 0, 0, rfl⟩
/-- A block of a method that may be written. -/
def Laid8 (w : World) (g : Nat) : Prop := g < w.heap.size ∧ w.cell? ⟨g, 0, none⟩ = some (.string ⟨#[]⟩) ∧ w.cell? ⟨g, 1, none⟩ = some (.string ⟨#[]⟩) ∧ w.cell? ⟨g, 2, none⟩ = some (.bool false) ∧ w.cell? ⟨g, 3, none⟩ = some (.bool false) ∧ w.cell? ⟨g, 4, none⟩ = some (.bool false) ∧ w.cell? ⟨g, 5, none⟩ = some (.int .i64 0) ∧ w.cell? ⟨g, 6, none⟩ = some (.slice none 0 0) ∧ w.cell? ⟨g, 7, none⟩ = some (.slice none 0 0) ∧
  w.frozen? ⟨g, 0, none⟩ = false ∧ w.frozen? ⟨g, 1, none⟩ = false ∧ w.frozen? ⟨g, 2, none⟩ = false ∧ w.frozen? ⟨g, 3, none⟩ = false ∧ w.frozen? ⟨g, 4, none⟩ = false ∧ w.frozen? ⟨g, 5, none⟩ = false ∧ w.frozen? ⟨g, 6, none⟩ = false ∧ w.frozen? ⟨g, 7, none⟩ = false
theorem laid8_at (w : World) (t : TypeId) : Laid8 (w.alloc (.cells #[.string ⟨#[]⟩, .string ⟨#[]⟩, .bool false, .bool false, .bool false, .int .i64 0, .slice none 0 0, .slice none 0 0] t)) w.heap.size :=
  ⟨by simp, World.cell?_alloc_mark .., World.cell?_alloc_mark .., World.cell?_alloc_mark .., World.cell?_alloc_mark .., World.cell?_alloc_mark .., World.cell?_alloc_mark .., World.cell?_alloc_mark .., World.cell?_alloc_mark ..,
    frozen_at .., frozen_at .., frozen_at .., frozen_at .., frozen_at .., frozen_at .., frozen_at .., frozen_at ..⟩
theorem Laid8.below {w w' : World} {g : Nat} (h : Laid8 w g) (hb : Below w.heap.size w w') : Laid8 w' g := by
  obtain ⟨h0, h1, h2, h3, h4, h5, h6, h7, h8, f1, f2, f3, f4, f5, f6, f7, f8⟩ := h
  exact ⟨Nat.lt_of_lt_of_le h0 hb.size, (hb.cell (by exact h0)).trans h1, (hb.cell (by exact h0)).trans h2, (hb.cell (by exact h0)).trans h3, (hb.cell (by exact h0)).trans h4, (hb.cell (by exact h0)).trans h5, (hb.cell (by exact h0)).trans h6, (hb.cell (by exact h0)).trans h7, (hb.cell (by exact h0)).trans h8,
    (hb.frozen (by exact h0)).trans f1, (hb.frozen (by exact h0)).trans f2, (hb.frozen (by exact h0)).trans f3, (hb.frozen (by exact h0)).trans f4, (hb.frozen (by exact h0)).trans f5, (hb.frozen (by exact h0)).trans f6, (hb.frozen (by exact h0)).trans f7, (hb.frozen (by exact h0)).trans f8⟩
/-- What ownMethod says. -/
def OwnSays (w : World) (o : Option MethD) (e : Ending) (w' : World) : Prop := ∃ v, e = .returned (.tuple #[v, .bool o.isSome]) ∧ MethVal (o.getD zeroM) v ∧ Below w.heap.size w w'
end Go.Proofs.YtkolpbjpgobkcaaDoor
