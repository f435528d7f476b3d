/-
  DERIVED. GIVEN WITH THE SEED: THE CARDS: each row of YtnmfcckahglbbaaGreatDoorRows.lean that lists a variable, with what it lists TIED to the program's text (the seventh form; the later family's looks); each row that meets fmt, with fmt's text TOLD by the authors' own Lean function (tested against real Go, not proved from fmt's source: count such statements apart). THE CARD IS WHAT COUNTS. Prove the row's statement (the work); the ties are given (YtnmfcckahglbbaaGreatDoorTie.lean); close each card by the builder's one call (the guide's Derived/Test/ToyasCard.lean, 'card_holds'). Laid BY PROGRAM, IN A SANDBOX (cutbox-door.mjs). By AI agents, Wed Nov 11 2026. No macro, syntax, notation, axiom, sorry.
-/
import Derived.Test.YtnmfcckahglbbaaGreatDoorRows
import GoSem.ClaimSeven
namespace Go.Proofs.YtnmfcckahglbbaaGreatDoor
namespace Rows

/-- THE TIED CARD OF 'coffeehouselaw2.JoinTells'. -/
def joinTellsCard : Claim7 := { stood := { row := joinTellsRow, standIns := [], harness := (true, "4b050740d5ddb87fbf179aa13f5d8d467fdcea1cc468a3e36f2b669e439ccda1"), looks := true }, kinds := [], alts := [], laidByText := true, laidKinds := [.data, .data, .pinned], laidTests := true, laidLooks := .later }
def JoinTellsCardSaid : Prop := Claim7.holds Tryz.pinned (.plain (OpenSpec.ofChange joinTellsSpec)) joinTellsCard

/-- THE TIED CARD OF 'coffeehouselaw2.JoinLattice'. -/
def joinLatticeCard : Claim7 := { stood := { row := joinLatticeRow, standIns := [], harness := (true, "4b050740d5ddb87fbf179aa13f5d8d467fdcea1cc468a3e36f2b669e439ccda1"), looks := true }, kinds := [], alts := [], laidByText := true, laidKinds := [.data, .data, .pinned], laidTests := true, laidLooks := .later }
def JoinLatticeCardSaid : Prop := Claim7.holds Tryz.pinned (.plain (OpenSpec.ofChange joinLatticeSpec)) joinLatticeCard

/-- THE TIED CARD OF 'coffeehouselaw2.JoinAbove'. -/
def joinAboveCard : Claim7 := { stood := { row := joinAboveRow, standIns := [], harness := (true, "4b050740d5ddb87fbf179aa13f5d8d467fdcea1cc468a3e36f2b669e439ccda1"), looks := true }, kinds := [], alts := [], laidByText := true, laidKinds := [.data, .data, .pinned], laidTests := true, laidLooks := .later }
def JoinAboveCardSaid : Prop := Claim7.holds Tryz.pinned (.plain (OpenSpec.ofChange joinAboveSpec)) joinAboveCard

/-- THE TIED CARD OF 'coffeehouselaw6.JoinSupers'. -/
def joinSupersCard : Claim7 := { stood := { row := joinSupersRow, standIns := [], harness := (true, "4b050740d5ddb87fbf179aa13f5d8d467fdcea1cc468a3e36f2b669e439ccda1"), looks := true }, kinds := [], alts := [], laidByText := true, laidKinds := [.data, .data, .pinned], laidTests := true, laidLooks := .later }
def JoinSupersCardSaid : Prop := Claim7.holds Tryz.pinned (.plain (OpenSpec.ofChange joinSupersSpec)) joinSupersCard

/-- THE SECOND FORM's CARD OF 'coffeehouselaw2.JoinTells'. -/
def joinTellsUptoCard : Claim7 := { stood := { row := joinTellsUptoRow, standIns := [], harness := (true, "4b050740d5ddb87fbf179aa13f5d8d467fdcea1cc468a3e36f2b669e439ccda1"), looks := true }, kinds := [], alts := [], laidByText := true, laidKinds := [.data, .data, .pinned], laidTests := true, laidLooks := .later }
def JoinTellsUptoCardSaid : Prop := Claim7.holds Tryz.pinned (.plain (OpenSpec.upto joinTellsSpec)) joinTellsUptoCard

/-- THE SECOND FORM's CARD OF 'coffeehouselaw2.JoinLattice'. -/
def joinLatticeUptoCard : Claim7 := { stood := { row := joinLatticeUptoRow, standIns := [], harness := (true, "4b050740d5ddb87fbf179aa13f5d8d467fdcea1cc468a3e36f2b669e439ccda1"), looks := true }, kinds := [], alts := [], laidByText := true, laidKinds := [.data, .data, .pinned], laidTests := true, laidLooks := .later }
def JoinLatticeUptoCardSaid : Prop := Claim7.holds Tryz.pinned (.plain (OpenSpec.upto joinLatticeSpec)) joinLatticeUptoCard

/-- THE SECOND FORM's CARD OF 'coffeehouselaw2.JoinAbove'. -/
def joinAboveUptoCard : Claim7 := { stood := { row := joinAboveUptoRow, standIns := [], harness := (true, "4b050740d5ddb87fbf179aa13f5d8d467fdcea1cc468a3e36f2b669e439ccda1"), looks := true }, kinds := [], alts := [], laidByText := true, laidKinds := [.data, .data, .pinned], laidTests := true, laidLooks := .later }
def JoinAboveUptoCardSaid : Prop := Claim7.holds Tryz.pinned (.plain (OpenSpec.upto joinAboveSpec)) joinAboveUptoCard

/-- THE SECOND FORM's CARD OF 'coffeehouselaw6.JoinSupers'. -/
def joinSupersUptoCard : Claim7 := { stood := { row := joinSupersUptoRow, standIns := [], harness := (true, "4b050740d5ddb87fbf179aa13f5d8d467fdcea1cc468a3e36f2b669e439ccda1"), looks := true }, kinds := [], alts := [], laidByText := true, laidKinds := [.data, .data, .pinned], laidTests := true, laidLooks := .later }
def JoinSupersUptoCardSaid : Prop := Claim7.holds Tryz.pinned (.plain (OpenSpec.upto joinSupersSpec)) joinSupersUptoCard
end Rows
end Go.Proofs.YtnmfcckahglbbaaGreatDoor
