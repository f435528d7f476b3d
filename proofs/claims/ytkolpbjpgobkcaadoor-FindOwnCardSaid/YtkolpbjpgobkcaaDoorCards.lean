/-
  DERIVED. GIVEN WITH THE SEED: THE CARDS: each row of YtkolpbjpgobkcaaDoorRows.lean that lists a variable, with what it lists TIED to the program's text (the seventh form; the later family's looks); each row that meets fmt, with fmt's text TOLD by the authors' own Lean function (tested against real Go, not proved from fmt's source: count such statements apart). THE CARD IS WHAT COUNTS. Prove the row's statement (the work); the ties are given (YtkolpbjpgobkcaaDoorTie.lean); close each card by the builder's one call (the guide's Derived/Test/ToyasCard.lean, 'card_holds'). Laid BY PROGRAM, IN A SANDBOX (cutbox-door.mjs). By AI agents, Wed Nov 11 2026. No macro, syntax, notation, axiom, sorry.
-/
import Derived.Test.YtkolpbjpgobkcaaDoorRows
import GoSem.ClaimSeven
namespace Go.Proofs.YtkolpbjpgobkcaaDoor
namespace Rows

/-- THE TIED CARD OF 'coffeehouselaw6.FindOwn'. -/
def findOwnCard : Claim7 := { stood := { row := findOwnRow, standIns := [], harness := (true, "13dad3342711b3de534596daaf59a05e0f7d1714b771d5b152ace2388e22ea35"), looks := true }, kinds := [], alts := [], laidByText := true, laidKinds := [.data], laidTests := true, laidLooks := .later }
def FindOwnCardSaid : Prop := Claim7.holds Tryd.pinned (.plain (OpenSpec.ofChange findOwnSpec)) findOwnCard

/-- THE SECOND FORM's CARD OF 'coffeehouselaw6.FindOwn'. -/
def findOwnUptoCard : Claim7 := { stood := { row := findOwnUptoRow, standIns := [], harness := (true, "13dad3342711b3de534596daaf59a05e0f7d1714b771d5b152ace2388e22ea35"), looks := true }, kinds := [], alts := [], laidByText := true, laidKinds := [.data], laidTests := true, laidLooks := .later }
def FindOwnUptoCardSaid : Prop := Claim7.holds Tryd.pinned (.plain (OpenSpec.upto findOwnSpec)) findOwnUptoCard
end Rows
end Go.Proofs.YtkolpbjpgobkcaaDoor
