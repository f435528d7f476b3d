/-
  DERIVED. GIVEN WITH THE SEED: THE CARDS: each row of YtkabkpkfglngnaaDoorRows.lean that lists a variable, with what it lists TIED to the program's text (the seventh form; the later family's looks); each row that meets fmt, with fmt's text TOLD by the authors' own Lean function (tested against real Go, not proved from fmt's source: count such statements apart). THE CARD IS WHAT COUNTS. Prove the row's statement (the work); the ties are given (YtkabkpkfglngnaaDoorTie.lean); close each card by the builder's one call (the guide's Derived/Test/ToyasCard.lean, 'card_holds'). Laid BY PROGRAM, IN A SANDBOX (cutbox-door.mjs). By AI agents, Wed Nov 11 2026. No macro, syntax, notation, axiom, sorry.
-/
import Derived.Test.YtkabkpkfglngnaaDoorRows
import GoSem.ClaimSeven
namespace Go.Proofs.YtkabkpkfglngnaaDoor
namespace Rows

/-- THE TIED CARD OF 'coffeehouselaw1.ClassTells'. -/
def classTellsCard : Claim7 := { stood := { row := classTellsRow, standIns := [], harness := (true, "254f17fdb9e0e07bc153b765bd36fa832d165358d1aae4cc700542229bab4ba6"), looks := true }, kinds := [], alts := [], laidByText := true, laidKinds := [.data], laidTests := true, laidLooks := .later }
def ClassTellsCardSaid : Prop := Claim7.holds Tryd.pinned (.plain (OpenSpec.ofChange classTellsSpec)) classTellsCard

/-- THE TIED CARD OF 'coffeehouselaw1.ClassParts'. -/
def classPartsCard : Claim7 := { stood := { row := classPartsRow, standIns := [], harness := (true, "254f17fdb9e0e07bc153b765bd36fa832d165358d1aae4cc700542229bab4ba6"), looks := true }, kinds := [], alts := [], laidByText := true, laidKinds := [.data], laidTests := true, laidLooks := .later }
def ClassPartsCardSaid : Prop := Claim7.holds Tryd.pinned (.plain (OpenSpec.ofChange classPartsSpec)) classPartsCard

/-- THE TIED CARD OF 'coffeehouselaw6.ClassTwice'. -/
def classTwiceCard : Claim7 := { stood := { row := classTwiceRow, standIns := [], harness := (true, "254f17fdb9e0e07bc153b765bd36fa832d165358d1aae4cc700542229bab4ba6"), looks := true }, kinds := [], alts := [], laidByText := true, laidKinds := [.data], laidTests := true, laidLooks := .later }
def ClassTwiceCardSaid : Prop := Claim7.holds Tryd.pinned (.plain (OpenSpec.ofChange classTwiceSpec)) classTwiceCard

/-- THE SECOND FORM's CARD OF 'coffeehouselaw1.ClassTells'. -/
def classTellsUptoCard : Claim7 := { stood := { row := classTellsUptoRow, standIns := [], harness := (true, "254f17fdb9e0e07bc153b765bd36fa832d165358d1aae4cc700542229bab4ba6"), looks := true }, kinds := [], alts := [], laidByText := true, laidKinds := [.data], laidTests := true, laidLooks := .later }
def ClassTellsUptoCardSaid : Prop := Claim7.holds Tryd.pinned (.plain (OpenSpec.upto classTellsSpec)) classTellsUptoCard

/-- THE SECOND FORM's CARD OF 'coffeehouselaw1.ClassParts'. -/
def classPartsUptoCard : Claim7 := { stood := { row := classPartsUptoRow, standIns := [], harness := (true, "254f17fdb9e0e07bc153b765bd36fa832d165358d1aae4cc700542229bab4ba6"), looks := true }, kinds := [], alts := [], laidByText := true, laidKinds := [.data], laidTests := true, laidLooks := .later }
def ClassPartsUptoCardSaid : Prop := Claim7.holds Tryd.pinned (.plain (OpenSpec.upto classPartsSpec)) classPartsUptoCard

/-- THE SECOND FORM's CARD OF 'coffeehouselaw6.ClassTwice'. -/
def classTwiceUptoCard : Claim7 := { stood := { row := classTwiceUptoRow, standIns := [], harness := (true, "254f17fdb9e0e07bc153b765bd36fa832d165358d1aae4cc700542229bab4ba6"), looks := true }, kinds := [], alts := [], laidByText := true, laidKinds := [.data], laidTests := true, laidLooks := .later }
def ClassTwiceUptoCardSaid : Prop := Claim7.holds Tryd.pinned (.plain (OpenSpec.upto classTwiceSpec)) classTwiceUptoCard
end Rows
end Go.Proofs.YtkabkpkfglngnaaDoor
