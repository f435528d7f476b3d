/-
  DERIVED. GIVEN WITH THE SEED: THE CARDS: each row of YtdpkjmdmmhnfnaaGreatDoorRows.lean that lists a variable, with what it lists TIED to the program's text (the seventh form; the later family's looks); each row that meets fmt, with fmt's text TOLD by the authors' own Lean function (tested against real Go, not proved from fmt's source: count such statements apart). THE CARD IS WHAT COUNTS. Prove the row's statement (the work); the ties are given (YtdpkjmdmmhnfnaaGreatDoorTie.lean); close each card by the builder's one call (the guide's Derived/Test/ToyasCard.lean, 'card_holds'). Laid BY PROGRAM, IN A SANDBOX (cutbox-door.mjs). By AI agents, Wed Nov 11 2026. No macro, syntax, notation, axiom, sorry.
-/
import Derived.Test.YtdpkjmdmmhnfnaaGreatDoorRows
import GoSem.ClaimSeven
namespace Go.Proofs.YtdpkjmdmmhnfnaaGreatDoor
namespace Rows

/-- THE TIED CARD OF 'coffeehouselaw2.SubTells'. -/
def subTellsCard : Claim7 := { stood := { row := subTellsRow, standIns := [], harness := (true, "edcc323c5d8e5f4958d6cb00e0ad944aba9c8698d5f978bf7070c829d76c730d"), looks := true }, kinds := [], alts := [], laidByText := true, laidKinds := [.data, .data, .pinned], laidTests := true, laidLooks := .later }
def SubTellsCardSaid : Prop := Claim7.holds Tryz.pinned (.plain (OpenSpec.ofChange subTellsSpec)) subTellsCard

/-- THE TIED CARD OF 'coffeehouselaw2.SubOrder'. -/
def subOrderCard : Claim7 := { stood := { row := subOrderRow, standIns := [], harness := (true, "edcc323c5d8e5f4958d6cb00e0ad944aba9c8698d5f978bf7070c829d76c730d"), looks := true }, kinds := [], alts := [], laidByText := true, laidKinds := [.data, .data, .pinned], laidTests := true, laidLooks := .later }
def SubOrderCardSaid : Prop := Claim7.holds Tryz.pinned (.plain (OpenSpec.ofChange subOrderSpec)) subOrderCard

/-- THE TIED CARD OF 'coffeehouselaw2.SubArrays'. -/
def subArraysCard : Claim7 := { stood := { row := subArraysRow, standIns := [], harness := (true, "edcc323c5d8e5f4958d6cb00e0ad944aba9c8698d5f978bf7070c829d76c730d"), looks := true }, kinds := [], alts := [], laidByText := true, laidKinds := [.data, .data, .pinned], laidTests := true, laidLooks := .later }
def SubArraysCardSaid : Prop := Claim7.holds Tryz.pinned (.plain (OpenSpec.ofChange subArraysSpec)) subArraysCard

/-- THE TIED CARD OF 'coffeehouselaw6.SubAll'. -/
def subAllCard : Claim7 := { stood := { row := subAllRow, standIns := [], harness := (true, "edcc323c5d8e5f4958d6cb00e0ad944aba9c8698d5f978bf7070c829d76c730d"), looks := true }, kinds := [], alts := [], laidByText := true, laidKinds := [.data, .data, .pinned], laidTests := true, laidLooks := .later }
def SubAllCardSaid : Prop := Claim7.holds Tryz.pinned (.plain (OpenSpec.ofChange subAllSpec)) subAllCard

/-- THE SECOND FORM's CARD OF 'coffeehouselaw2.SubTells'. -/
def subTellsUptoCard : Claim7 := { stood := { row := subTellsUptoRow, standIns := [], harness := (true, "edcc323c5d8e5f4958d6cb00e0ad944aba9c8698d5f978bf7070c829d76c730d"), looks := true }, kinds := [], alts := [], laidByText := true, laidKinds := [.data, .data, .pinned], laidTests := true, laidLooks := .later }
def SubTellsUptoCardSaid : Prop := Claim7.holds Tryz.pinned (.plain (OpenSpec.upto subTellsSpec)) subTellsUptoCard

/-- THE SECOND FORM's CARD OF 'coffeehouselaw2.SubOrder'. -/
def subOrderUptoCard : Claim7 := { stood := { row := subOrderUptoRow, standIns := [], harness := (true, "edcc323c5d8e5f4958d6cb00e0ad944aba9c8698d5f978bf7070c829d76c730d"), looks := true }, kinds := [], alts := [], laidByText := true, laidKinds := [.data, .data, .pinned], laidTests := true, laidLooks := .later }
def SubOrderUptoCardSaid : Prop := Claim7.holds Tryz.pinned (.plain (OpenSpec.upto subOrderSpec)) subOrderUptoCard

/-- THE SECOND FORM's CARD OF 'coffeehouselaw2.SubArrays'. -/
def subArraysUptoCard : Claim7 := { stood := { row := subArraysUptoRow, standIns := [], harness := (true, "edcc323c5d8e5f4958d6cb00e0ad944aba9c8698d5f978bf7070c829d76c730d"), looks := true }, kinds := [], alts := [], laidByText := true, laidKinds := [.data, .data, .pinned], laidTests := true, laidLooks := .later }
def SubArraysUptoCardSaid : Prop := Claim7.holds Tryz.pinned (.plain (OpenSpec.upto subArraysSpec)) subArraysUptoCard

/-- THE SECOND FORM's CARD OF 'coffeehouselaw6.SubAll'. -/
def subAllUptoCard : Claim7 := { stood := { row := subAllUptoRow, standIns := [], harness := (true, "edcc323c5d8e5f4958d6cb00e0ad944aba9c8698d5f978bf7070c829d76c730d"), looks := true }, kinds := [], alts := [], laidByText := true, laidKinds := [.data, .data, .pinned], laidTests := true, laidLooks := .later }
def SubAllUptoCardSaid : Prop := Claim7.holds Tryz.pinned (.plain (OpenSpec.upto subAllSpec)) subAllUptoCard
end Rows
end Go.Proofs.YtdpkjmdmmhnfnaaGreatDoor
