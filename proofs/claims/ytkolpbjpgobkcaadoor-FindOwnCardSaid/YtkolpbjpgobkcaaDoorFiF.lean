/- The reference's FoundMethod. -/
import Derived.Test.YtkolpbjpgobkcaaDoorGL
import Derived.Test.YtkolpbjpgobkcaaDoorGX
namespace Go.Proofs.YtkolpbjpgobkcaaDoor
open Go.ChangeShapes Go.WideShapes Go.ChangeAt Go.RowKit
set_option linter.unusedVariables false

/-- What FoundMethod says. -/
def FoundSays (w : World) (o : Option (List UInt8 × MethD)) (e : Ending) (w' : World) : Prop :=
  ∃ v, e = .returned (.tuple #[.string (bs ((o.map (·.1)).getD [])), v, .bool o.isSome]) ∧ MethVal ((o.map (·.2)).getD zeroM) v ∧ Below w.heap.size w w'
/-- One step of the search among interfaces. -/
def ifaceStep (l : List ClassD) (z u : List UInt8) (ab : Bool) (x : List UInt8) : Option (List UInt8 × MethD) := match methIn z u (classD l x) with
  | some m => if ((classD l x).face && m.ab == ab) = true then some (x, m) else none
  | none => none
theorem ifaceFirst_eq (l : List ClassD) (z u : List UInt8) (ab : Bool) (e : List (List UInt8)) : ifaceFirst l z u ab e = e.findSome? (ifaceStep l z u ab) := rfl
def methStep (l : List ClassD) (z u : List UInt8) (x : List UInt8) : Option (List UInt8 × MethD) := (methIn z u (classD l x)).map (fun m => (x, m))
theorem methFirst_eq (l : List ClassD) (z u : List UInt8) (s : List (List UInt8)) : methFirst l z u s = s.findSome? (methStep l z u) := rfl
theorem found_own {l : List ClassD} {z u : List UInt8} {s e : List (List UInt8)} {r : List UInt8 × MethD} (h : methFirst l z u s = some r) : foundFirst l z u s e = some r := by unfold foundFirst; rw [h]
theorem found_conc {l : List ClassD} {z u : List UInt8} {s e : List (List UInt8)} {r : List UInt8 × MethD} (h : methFirst l z u s = none) (h1 : ifaceFirst l z u false e = some r) : foundFirst l z u s e = some r := by unfold foundFirst; rw [h, h1]
theorem found_abs {l : List ClassD} {z u : List UInt8} {s e : List (List UInt8)} {o : Option (List UInt8 × MethD)} (h : methFirst l z u s = none) (h1 : ifaceFirst l z u false e = none) (h2 : ifaceFirst l z u true e = o) : foundFirst l z u s e = o := by unfold foundFirst; rw [h, h1, h2]
theorem Laid8.keep {w w' : World} {g : Nat} (h : Laid8 w g) (hb : Below w.heap.size w w') : Laid8 w' g := h.below hb

end Go.Proofs.YtkolpbjpgobkcaaDoor
