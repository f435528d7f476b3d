/-
  DERIVED. GIVEN WITH THE SEED: THE CARDS: each row of YtjfcmkjlmkgioaaDoorRows.lean that lists a variable, with what it lists TIED to the program's text (the seventh form; the later family's looks); each row that meets fmt, with fmt's text TOLD by the authors' own Lean function (tested against real Go, not proved from fmt's source: count such statements apart). THE CARD IS WHAT COUNTS. Prove the row's statement (the work); the ties are given (YtjfcmkjlmkgioaaDoorTie.lean); close each card by the builder's one call (the guide's Derived/Test/ToyasCard.lean, 'card_holds'). Laid BY PROGRAM, IN A SANDBOX (cutbox-door.mjs). By AI agents, Wed Nov 11 2026. No macro, syntax, notation, axiom, sorry.
-/
import Derived.Test.YtjfcmkjlmkgioaaDoorRows
import GoSem.ClaimSeven
namespace Go.Proofs.YtjfcmkjlmkgioaaDoor
namespace Rows

/-- THE TIED CARD OF 'coffeehouselaw1.FlowTells'. -/
def flowTellsCard : Claim7 := { stood := { row := flowTellsRow, standIns := [], harness := (true, "0040b076365a75008ede884563229c121ca4318f64b62cb84e8e7d98f1714ad4"), looks := true }, kinds := [], alts := [], laidByText := true, laidKinds := [.data], laidTests := true, laidLooks := .later }
def FlowTellsCardSaid : Prop := Claim7.holds Tryd.pinned (.plain (OpenSpec.ofChange flowTellsSpec)) flowTellsCard

/-- THE TIED CARD OF 'coffeehouselaw1.FlowClosed'. -/
def flowClosedCard : Claim7 := { stood := { row := flowClosedRow, standIns := [], harness := (true, "0040b076365a75008ede884563229c121ca4318f64b62cb84e8e7d98f1714ad4"), looks := true }, kinds := [], alts := [], laidByText := true, laidKinds := [.data], laidTests := true, laidLooks := .later }
def FlowClosedCardSaid : Prop := Claim7.holds Tryd.pinned (.plain (OpenSpec.ofChange flowClosedSpec)) flowClosedCard

/-- THE TIED CARD OF 'coffeehouselaw1.FlowBehind'. -/
def flowBehindCard : Claim7 := { stood := { row := flowBehindRow, standIns := [], harness := (true, "0040b076365a75008ede884563229c121ca4318f64b62cb84e8e7d98f1714ad4"), looks := true }, kinds := [], alts := [], laidByText := true, laidKinds := [.data], laidTests := true, laidLooks := .later }
def FlowBehindCardSaid : Prop := Claim7.holds Tryd.pinned (.plain (OpenSpec.ofChange flowBehindSpec)) flowBehindCard

/-- THE TIED CARD OF 'coffeehouselaw5.FlowOwn'. -/
def flowOwnCard : Claim7 := { stood := { row := flowOwnRow, standIns := [], harness := (true, "0040b076365a75008ede884563229c121ca4318f64b62cb84e8e7d98f1714ad4"), looks := true }, kinds := [], alts := [], laidByText := true, laidKinds := [.data], laidTests := true, laidLooks := .later }
def FlowOwnCardSaid : Prop := Claim7.holds Tryd.pinned (.plain (OpenSpec.ofChange flowOwnSpec)) flowOwnCard

/-- THE TIED CARD OF 'coffeehouselaw6.FlowAhead'. -/
def flowAheadCard : Claim7 := { stood := { row := flowAheadRow, standIns := [], harness := (true, "0040b076365a75008ede884563229c121ca4318f64b62cb84e8e7d98f1714ad4"), looks := true }, kinds := [], alts := [], laidByText := true, laidKinds := [.data], laidTests := true, laidLooks := .later }
def FlowAheadCardSaid : Prop := Claim7.holds Tryd.pinned (.plain (OpenSpec.ofChange flowAheadSpec)) flowAheadCard

/-- THE SECOND FORM's CARD OF 'coffeehouselaw1.FlowTells'. -/
def flowTellsUptoCard : Claim7 := { stood := { row := flowTellsUptoRow, standIns := [], harness := (true, "0040b076365a75008ede884563229c121ca4318f64b62cb84e8e7d98f1714ad4"), looks := true }, kinds := [], alts := [], laidByText := true, laidKinds := [.data], laidTests := true, laidLooks := .later }
def FlowTellsUptoCardSaid : Prop := Claim7.holds Tryd.pinned (.plain (OpenSpec.upto flowTellsSpec)) flowTellsUptoCard

/-- THE SECOND FORM's CARD OF 'coffeehouselaw1.FlowClosed'. -/
def flowClosedUptoCard : Claim7 := { stood := { row := flowClosedUptoRow, standIns := [], harness := (true, "0040b076365a75008ede884563229c121ca4318f64b62cb84e8e7d98f1714ad4"), looks := true }, kinds := [], alts := [], laidByText := true, laidKinds := [.data], laidTests := true, laidLooks := .later }
def FlowClosedUptoCardSaid : Prop := Claim7.holds Tryd.pinned (.plain (OpenSpec.upto flowClosedSpec)) flowClosedUptoCard

/-- THE SECOND FORM's CARD OF 'coffeehouselaw1.FlowBehind'. -/
def flowBehindUptoCard : Claim7 := { stood := { row := flowBehindUptoRow, standIns := [], harness := (true, "0040b076365a75008ede884563229c121ca4318f64b62cb84e8e7d98f1714ad4"), looks := true }, kinds := [], alts := [], laidByText := true, laidKinds := [.data], laidTests := true, laidLooks := .later }
def FlowBehindUptoCardSaid : Prop := Claim7.holds Tryd.pinned (.plain (OpenSpec.upto flowBehindSpec)) flowBehindUptoCard

/-- THE SECOND FORM's CARD OF 'coffeehouselaw5.FlowOwn'. -/
def flowOwnUptoCard : Claim7 := { stood := { row := flowOwnUptoRow, standIns := [], harness := (true, "0040b076365a75008ede884563229c121ca4318f64b62cb84e8e7d98f1714ad4"), looks := true }, kinds := [], alts := [], laidByText := true, laidKinds := [.data], laidTests := true, laidLooks := .later }
def FlowOwnUptoCardSaid : Prop := Claim7.holds Tryd.pinned (.plain (OpenSpec.upto flowOwnSpec)) flowOwnUptoCard

/-- THE SECOND FORM's CARD OF 'coffeehouselaw6.FlowAhead'. -/
def flowAheadUptoCard : Claim7 := { stood := { row := flowAheadUptoRow, standIns := [], harness := (true, "0040b076365a75008ede884563229c121ca4318f64b62cb84e8e7d98f1714ad4"), looks := true }, kinds := [], alts := [], laidByText := true, laidKinds := [.data], laidTests := true, laidLooks := .later }
def FlowAheadUptoCardSaid : Prop := Claim7.holds Tryd.pinned (.plain (OpenSpec.upto flowAheadSpec)) flowAheadUptoCard
end Rows
end Go.Proofs.YtjfcmkjlmkgioaaDoor
