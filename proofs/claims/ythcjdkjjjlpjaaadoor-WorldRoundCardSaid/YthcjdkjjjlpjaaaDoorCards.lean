/-
  DERIVED. GIVEN WITH THE SEED: THE CARDS: each row of YthcjdkjjjlpjaaaDoorRows.lean that lists a variable, with what it lists TIED to the program's text (the seventh form; the later family's looks); each row that meets fmt, with fmt's text TOLD by the authors' own Lean function (tested against real Go, not proved from fmt's source: count such statements apart). THE CARD IS WHAT COUNTS. Prove the row's statement (the work); the ties are given (YthcjdkjjjlpjaaaDoorTie.lean); close each card by the builder's one call (the guide's Derived/Test/ToyasCard.lean, 'card_holds'). Laid BY PROGRAM, IN A SANDBOX (cutbox-door.mjs). By AI agents, Wed Nov 11 2026. No macro, syntax, notation, axiom, sorry.
-/
import Derived.Test.YthcjdkjjjlpjaaaDoorRows
import GoSem.ClaimSeven
namespace Go.Proofs.YthcjdkjjjlpjaaaDoor
namespace Rows

/-- THE TIED CARD OF 'coffeehouselaw2.WorldUp'. -/
def worldUpCard : Claim7 := { stood := { row := worldUpRow, standIns := [], harness := (true, "9303769777097f051878d5a6468d25f368ad5418f46af44029e2d6f887263705"), looks := true }, kinds := [], alts := [], laidByText := true, laidKinds := [.data], laidTests := true, laidLooks := .later }
def WorldUpCardSaid : Prop := Claim7.holds Tryd.pinned (.plain (OpenSpec.ofChange worldUpSpec)) worldUpCard

/-- THE TIED CARD OF 'coffeehouselaw6.WorldRound'. -/
def worldRoundCard : Claim7 := { stood := { row := worldRoundRow, standIns := [], harness := (true, "9303769777097f051878d5a6468d25f368ad5418f46af44029e2d6f887263705"), looks := true }, kinds := [], alts := [], laidByText := true, laidKinds := [.data], laidTests := true, laidLooks := .later }
def WorldRoundCardSaid : Prop := Claim7.holds Tryd.pinned (.plain (OpenSpec.ofChange worldRoundSpec)) worldRoundCard

/-- THE SECOND FORM's CARD OF 'coffeehouselaw2.WorldUp'. -/
def worldUpUptoCard : Claim7 := { stood := { row := worldUpUptoRow, standIns := [], harness := (true, "9303769777097f051878d5a6468d25f368ad5418f46af44029e2d6f887263705"), looks := true }, kinds := [], alts := [], laidByText := true, laidKinds := [.data], laidTests := true, laidLooks := .later }
def WorldUpUptoCardSaid : Prop := Claim7.holds Tryd.pinned (.plain (OpenSpec.upto worldUpSpec)) worldUpUptoCard

/-- THE SECOND FORM's CARD OF 'coffeehouselaw6.WorldRound'. -/
def worldRoundUptoCard : Claim7 := { stood := { row := worldRoundUptoRow, standIns := [], harness := (true, "9303769777097f051878d5a6468d25f368ad5418f46af44029e2d6f887263705"), looks := true }, kinds := [], alts := [], laidByText := true, laidKinds := [.data], laidTests := true, laidLooks := .later }
def WorldRoundUptoCardSaid : Prop := Claim7.holds Tryd.pinned (.plain (OpenSpec.upto worldRoundSpec)) worldRoundUptoCard
end Rows
end Go.Proofs.YthcjdkjjjlpjaaaDoor
