/-
  NARROWER THAN 'FOR EVERY INPUT', by the rows' own cells (each row's printed sentence says how): JoinTells: laid · JoinLattice: laid · JoinAbove: laid · JoinSupers: laid.
  DERIVED. THE GIVEN ROWS OF THIS SEAT. 4 by the template 'for every input the law returns true; each argument reads behind the call as it read before'; 0 by the template 'total and deterministic' (their statements: YtnmfcckahglbbaaGreatDoorTotals.lean).
  GIVEN WITH THE SEED: the statements are not yours to turn. If you find one false, say at which input.
  Laid BY PROGRAM, IN A SANDBOX (cutbox-rows.mjs): the forced cells as the released guide's own fill.sh prints them over the translation dad39dde5e9a0a40… (all of the seat's roots in one cut). By AI agents, Wed Nov 11 2026. No macro, syntax, notation, axiom, sorry.
-/
import Derived.Test.YtnmfcckahglbbaaGreatDoorChecked
import GoSem.PinnedTables
import GoSem.Claim
import GoSem.ClaimJoined
import GoSem.ClaimMapViews
import Derived.JoinedTies
import Derived.KernelRfl
namespace Go.Proofs.YtnmfcckahglbbaaGreatDoor
/- THE CELL 'sum', in the pinned program and in every row, IS THE sha256 OF THE DUMP (.gsa) THAT YtnmfcckahglbbaaGreatDoorProg.lean LOADS. Nothing in Lean hashes anything: it is a label: what it is worth is what the hold of that sum in a sandbox is worth. -/
noncomputable def Tryz.pinned : Pinned := { name := "ytnmfcckahglbbaagreatdoor", sum := "dad39dde5e9a0a4072644d102ec01a8ddbb5f0cbea760997eca352699b4595c0", checked := Tryz.checked }
namespace Rows
def none {H : Type} : Left H := { results := [], args := [] }

/- WHAT THE LISTED PACKAGE-LEVEL VARIABLES READ AS WHEN THE CALL BEGINS. Each datum BY PROGRAM (the guide's laid-datum.mjs) off the statement by which the dump's own 'gosem.cut.vars' lays the variable. In a bare row this is a premise. The card (YtnmfcckahglbbaaGreatDoorCards.lean) ties it to the program's text. -/
def laid_unicode_utf8_acceptRanges {H : Type} : DataW H := .agg [.agg [.lit (.int .u8 128), .lit (.int .u8 191)], .agg [.lit (.int .u8 160), .lit (.int .u8 191)], .agg [.lit (.int .u8 128), .lit (.int .u8 159)], .agg [.lit (.int .u8 144), .lit (.int .u8 191)], .agg [.lit (.int .u8 128), .lit (.int .u8 143)], .agg [.lit (.int .u8 0), .lit (.int .u8 0)], .agg [.lit (.int .u8 0), .lit (.int .u8 0)], .agg [.lit (.int .u8 0), .lit (.int .u8 0)], .agg [.lit (.int .u8 0), .lit (.int .u8 0)], .agg [.lit (.int .u8 0), .lit (.int .u8 0)], .agg [.lit (.int .u8 0), .lit (.int .u8 0)], .agg [.lit (.int .u8 0), .lit (.int .u8 0)], .agg [.lit (.int .u8 0), .lit (.int .u8 0)], .agg [.lit (.int .u8 0), .lit (.int .u8 0)], .agg [.lit (.int .u8 0), .lit (.int .u8 0)], .agg [.lit (.int .u8 0), .lit (.int .u8 0)]]
def laid_coffeehouse_ins_operations {H : Type} : DataW H := .agg [.agg [.lit (.string []), .lit (.int .u8 0)], .agg [.lit (.string [110, 111, 112]), .lit (.int .u8 0)], .agg [.lit (.string [112, 117, 115, 104]), .lit (.int .u8 5)], .agg [.lit (.string [110, 117, 108, 108]), .lit (.int .u8 0)], .agg [.lit (.string [108, 111, 97, 100]), .lit (.int .u8 1)], .agg [.lit (.string [115, 116, 111, 114, 101]), .lit (.int .u8 1)], .agg [.lit (.string [112, 111, 112]), .lit (.int .u8 0)], .agg [.lit (.string [100, 117, 112]), .lit (.int .u8 0)], .agg [.lit (.string [115, 119, 97, 112]), .lit (.int .u8 0)], .agg [.lit (.string [109, 97, 116, 104]), .lit (.int .u8 5)], .agg [.lit (.string [99, 111, 110, 118]), .lit (.int .u8 4)], .agg [.lit (.string [111, 114, 100, 101, 114]), .lit (.int .u8 0)], .agg [.lit (.string [105, 102]), .lit (.int .u8 3)], .agg [.lit (.string [105, 102, 110, 117, 108, 108]), .lit (.int .u8 1)], .agg [.lit (.string [103, 111, 116, 111]), .lit (.int .u8 1)], .agg [.lit (.string [110, 101, 119]), .lit (.int .u8 8)], .agg [.lit (.string [103, 101, 116]), .lit (.int .u8 24)], .agg [.lit (.string [112, 117, 116]), .lit (.int .u8 24)], .agg [.lit (.string [110, 101, 119, 97, 114, 114, 97, 121]), .lit (.int .u8 4)], .agg [.lit (.string [108, 101, 110, 103, 116, 104]), .lit (.int .u8 0)], .agg [.lit (.string [97, 108, 111, 97, 100]), .lit (.int .u8 4)], .agg [.lit (.string [97, 115, 116, 111, 114, 101]), .lit (.int .u8 4)], .agg [.lit (.string [99, 97, 115, 116]), .lit (.int .u8 4)], .agg [.lit (.string [105, 115]), .lit (.int .u8 4)], .agg [.lit (.string [99, 97, 108, 108]), .lit (.int .u8 28)], .agg [.lit (.string [99, 97, 108, 108, 115]), .lit (.int .u8 28)], .agg [.lit (.string [114, 101, 116, 117, 114, 110]), .lit (.int .u8 0)], .agg [.lit (.string [103, 105, 118, 101]), .lit (.int .u8 0)], .agg [.lit (.string [116, 104, 114, 111, 119]), .lit (.int .u8 0)]]
/-- One of Go's own tables, pinned by name: the form's constant. -/
def laid_unicode_utf8_first : DataW Unit := Go.Pinned.utf8First

/-- 'coffeehouselaw2.JoinTells': WHATEVER THE INPUT: true; the input reads as it did. -/
def joinTellsSpec : ChangeSpec := { name := "joinTells", fn := fun _ => fun
  | [d1, d2, d3] => { results := [.lit (.bool true)], args := [d1, d2, d3] }
  | _ => none }
def joinTellsRow : OpenClaim := { program := "ytnmfcckahglbbaagreatdoor", sum := "dad39dde5e9a0a4072644d102ec01a8ddbb5f0cbea760997eca352699b4595c0", func := "coffeehouse/coffeehouselaw2.JoinTells", spec := "joinTells", inPlace := ["internal/bytealg.IndexByteString", "internal/bytealg.IndexString"], unfollowed := true, recurses := true, named := ["coffeehouse/ins.operations", "unicode/utf8.first", "unicode/utf8.acceptRanges", "internal/bytealg.MaxLen"], apart := false, laid := [("unicode/utf8.acceptRanges", laid_unicode_utf8_acceptRanges), ("coffeehouse/ins.operations", laid_coffeehouse_ins_operations), ("unicode/utf8.first", laid_unicode_utf8_first)] }
def JoinTellsSaid : Prop := joinTellsRow.holds Tryz.pinned (OpenSpec.ofChange joinTellsSpec)

/-- ITS FALSE NEIGHBOUR: 'it returns false'. Refute it at one input. -/
def joinTellsWrong : ChangeSpec := { name := "joinTells", fn := fun _ => fun
  | [d1, d2, d3] => { results := [.lit (.bool false)], args := [d1, d2, d3] }
  | _ => none }
def JoinTellsWrongFalsely : Prop := joinTellsRow.holds Tryz.pinned (OpenSpec.ofChange joinTellsWrong)

/-- 'coffeehouselaw2.JoinLattice': WHATEVER THE INPUT: true; the input reads as it did. -/
def joinLatticeSpec : ChangeSpec := { name := "joinLattice", fn := fun _ => fun
  | [d1, d2, d3, d4] => { results := [.lit (.bool true)], args := [d1, d2, d3, d4] }
  | _ => none }
def joinLatticeRow : OpenClaim := { program := "ytnmfcckahglbbaagreatdoor", sum := "dad39dde5e9a0a4072644d102ec01a8ddbb5f0cbea760997eca352699b4595c0", func := "coffeehouse/coffeehouselaw2.JoinLattice", spec := "joinLattice", inPlace := ["internal/bytealg.IndexByteString", "internal/bytealg.IndexString"], unfollowed := true, recurses := true, named := ["coffeehouse/ins.operations", "unicode/utf8.first", "unicode/utf8.acceptRanges", "internal/bytealg.MaxLen"], apart := false, laid := [("unicode/utf8.acceptRanges", laid_unicode_utf8_acceptRanges), ("coffeehouse/ins.operations", laid_coffeehouse_ins_operations), ("unicode/utf8.first", laid_unicode_utf8_first)] }
def JoinLatticeSaid : Prop := joinLatticeRow.holds Tryz.pinned (OpenSpec.ofChange joinLatticeSpec)

/-- ITS FALSE NEIGHBOUR: 'it returns false'. Refute it at one input. -/
def joinLatticeWrong : ChangeSpec := { name := "joinLattice", fn := fun _ => fun
  | [d1, d2, d3, d4] => { results := [.lit (.bool false)], args := [d1, d2, d3, d4] }
  | _ => none }
def JoinLatticeWrongFalsely : Prop := joinLatticeRow.holds Tryz.pinned (OpenSpec.ofChange joinLatticeWrong)

/-- 'coffeehouselaw2.JoinAbove': WHATEVER THE INPUT: true; the input reads as it did. -/
def joinAboveSpec : ChangeSpec := { name := "joinAbove", fn := fun _ => fun
  | [d1, d2, d3, d4] => { results := [.lit (.bool true)], args := [d1, d2, d3, d4] }
  | _ => none }
def joinAboveRow : OpenClaim := { program := "ytnmfcckahglbbaagreatdoor", sum := "dad39dde5e9a0a4072644d102ec01a8ddbb5f0cbea760997eca352699b4595c0", func := "coffeehouse/coffeehouselaw2.JoinAbove", spec := "joinAbove", inPlace := ["internal/bytealg.IndexByteString", "internal/bytealg.IndexString"], unfollowed := true, recurses := true, named := ["coffeehouse/ins.operations", "unicode/utf8.first", "unicode/utf8.acceptRanges", "internal/bytealg.MaxLen"], apart := false, laid := [("unicode/utf8.acceptRanges", laid_unicode_utf8_acceptRanges), ("coffeehouse/ins.operations", laid_coffeehouse_ins_operations), ("unicode/utf8.first", laid_unicode_utf8_first)] }
def JoinAboveSaid : Prop := joinAboveRow.holds Tryz.pinned (OpenSpec.ofChange joinAboveSpec)

/-- ITS FALSE NEIGHBOUR: 'it returns false'. Refute it at one input. -/
def joinAboveWrong : ChangeSpec := { name := "joinAbove", fn := fun _ => fun
  | [d1, d2, d3, d4] => { results := [.lit (.bool false)], args := [d1, d2, d3, d4] }
  | _ => none }
def JoinAboveWrongFalsely : Prop := joinAboveRow.holds Tryz.pinned (OpenSpec.ofChange joinAboveWrong)

/-- 'coffeehouselaw6.JoinSupers': WHATEVER THE INPUT: true; the input reads as it did. -/
def joinSupersSpec : ChangeSpec := { name := "joinSupers", fn := fun _ => fun
  | [d1, d2, d3] => { results := [.lit (.bool true)], args := [d1, d2, d3] }
  | _ => none }
def joinSupersRow : OpenClaim := { program := "ytnmfcckahglbbaagreatdoor", sum := "dad39dde5e9a0a4072644d102ec01a8ddbb5f0cbea760997eca352699b4595c0", func := "coffeehouse/coffeehouselaw6.JoinSupers", spec := "joinSupers", inPlace := ["internal/bytealg.IndexByteString", "internal/bytealg.IndexString"], unfollowed := true, recurses := true, named := ["coffeehouse/ins.operations", "unicode/utf8.first", "unicode/utf8.acceptRanges", "internal/bytealg.MaxLen"], apart := false, laid := [("unicode/utf8.acceptRanges", laid_unicode_utf8_acceptRanges), ("coffeehouse/ins.operations", laid_coffeehouse_ins_operations), ("unicode/utf8.first", laid_unicode_utf8_first)] }
def JoinSupersSaid : Prop := joinSupersRow.holds Tryz.pinned (OpenSpec.ofChange joinSupersSpec)

/-- ITS FALSE NEIGHBOUR: 'it returns false'. Refute it at one input. -/
def joinSupersWrong : ChangeSpec := { name := "joinSupers", fn := fun _ => fun
  | [d1, d2, d3] => { results := [.lit (.bool false)], args := [d1, d2, d3] }
  | _ => none }
def JoinSupersWrongFalsely : Prop := joinSupersRow.holds Tryz.pinned (OpenSpec.ofChange joinSupersWrong)

/- THE SECOND FORM. 'bulk': how many values and letters a reading holds, each counted each time it is reached (what is shared counts as often as it is met; a slice's spare places count too). A statement '..UptoSaid' is the law's where the arguments, and the package variables that the reading takes, are together of bulk at most 1048576: NARROWER than '..Said'. Prove '..Said' where nothing that the law and all that it calls make is longer than what came in: it says more and counts as full. Else prove '..UptoSaid'. A law counts once. -/
mutual
def uptoBulk {H : Type} : DataW H → Nat
  | .lit (.string bytes) => bytes.length + 1
  | .lit _ => 1
  | .nil => 1
  | .ptr d => uptoBulk d + 1
  | .slice elems spare => uptoBulkAll elems + uptoBulkAll spare + 1
  | .agg parts => uptoBulkAll parts + 1
  | .iface _ d => uptoBulk d + 1
  | .map entries => uptoBulkEntries entries + 1
  | .held _ => 1
def uptoBulkAll {H : Type} : List (DataW H) → Nat
  | [] => 0
  | d :: r => uptoBulk d + uptoBulkAll r
def uptoBulkEntries {H : Type} : List (Lit × DataW H) → Nat
  | [] => 0
  | x :: r => uptoBulkEntry x + uptoBulkEntries r
def uptoBulkEntry {H : Type} : Lit × DataW H → Nat
  | (.string bytes, d) => bytes.length + uptoBulk d + 1
  | (_, d) => uptoBulk d + 1
 end
def uptoSmall : (H : Type) → List (DataW H) → Bool := fun _ ds => decide (uptoBulkAll ds ≤ 1048576)
def OpenSpec.upto (s : _root_.Go.ChangeSpec) : _root_.Go.OpenSpec := { _root_.Go.OpenSpec.ofChange s with cond := some uptoSmall }

/-- 'coffeehouselaw2.JoinTells', WHERE WHAT IT READS IS OF BULK AT MOST 1048576: true; the input reads as it did. -/
def joinTellsUptoRow : OpenClaim := { program := "ytnmfcckahglbbaagreatdoor", sum := "dad39dde5e9a0a4072644d102ec01a8ddbb5f0cbea760997eca352699b4595c0", func := "coffeehouse/coffeehouselaw2.JoinTells", spec := "joinTells", inPlace := ["internal/bytealg.IndexByteString", "internal/bytealg.IndexString"], unfollowed := true, recurses := true, named := ["coffeehouse/ins.operations", "unicode/utf8.first", "unicode/utf8.acceptRanges", "internal/bytealg.MaxLen"], apart := false, laid := [("unicode/utf8.acceptRanges", laid_unicode_utf8_acceptRanges), ("coffeehouse/ins.operations", laid_coffeehouse_ins_operations), ("unicode/utf8.first", laid_unicode_utf8_first)], narrowed := true }
def JoinTellsUptoSaid : Prop := joinTellsUptoRow.holds Tryz.pinned (OpenSpec.upto joinTellsSpec)

/-- 'coffeehouselaw2.JoinLattice', WHERE WHAT IT READS IS OF BULK AT MOST 1048576: true; the input reads as it did. -/
def joinLatticeUptoRow : OpenClaim := { program := "ytnmfcckahglbbaagreatdoor", sum := "dad39dde5e9a0a4072644d102ec01a8ddbb5f0cbea760997eca352699b4595c0", func := "coffeehouse/coffeehouselaw2.JoinLattice", spec := "joinLattice", inPlace := ["internal/bytealg.IndexByteString", "internal/bytealg.IndexString"], unfollowed := true, recurses := true, named := ["coffeehouse/ins.operations", "unicode/utf8.first", "unicode/utf8.acceptRanges", "internal/bytealg.MaxLen"], apart := false, laid := [("unicode/utf8.acceptRanges", laid_unicode_utf8_acceptRanges), ("coffeehouse/ins.operations", laid_coffeehouse_ins_operations), ("unicode/utf8.first", laid_unicode_utf8_first)], narrowed := true }
def JoinLatticeUptoSaid : Prop := joinLatticeUptoRow.holds Tryz.pinned (OpenSpec.upto joinLatticeSpec)

/-- 'coffeehouselaw2.JoinAbove', WHERE WHAT IT READS IS OF BULK AT MOST 1048576: true; the input reads as it did. -/
def joinAboveUptoRow : OpenClaim := { program := "ytnmfcckahglbbaagreatdoor", sum := "dad39dde5e9a0a4072644d102ec01a8ddbb5f0cbea760997eca352699b4595c0", func := "coffeehouse/coffeehouselaw2.JoinAbove", spec := "joinAbove", inPlace := ["internal/bytealg.IndexByteString", "internal/bytealg.IndexString"], unfollowed := true, recurses := true, named := ["coffeehouse/ins.operations", "unicode/utf8.first", "unicode/utf8.acceptRanges", "internal/bytealg.MaxLen"], apart := false, laid := [("unicode/utf8.acceptRanges", laid_unicode_utf8_acceptRanges), ("coffeehouse/ins.operations", laid_coffeehouse_ins_operations), ("unicode/utf8.first", laid_unicode_utf8_first)], narrowed := true }
def JoinAboveUptoSaid : Prop := joinAboveUptoRow.holds Tryz.pinned (OpenSpec.upto joinAboveSpec)

/-- 'coffeehouselaw6.JoinSupers', WHERE WHAT IT READS IS OF BULK AT MOST 1048576: true; the input reads as it did. -/
def joinSupersUptoRow : OpenClaim := { program := "ytnmfcckahglbbaagreatdoor", sum := "dad39dde5e9a0a4072644d102ec01a8ddbb5f0cbea760997eca352699b4595c0", func := "coffeehouse/coffeehouselaw6.JoinSupers", spec := "joinSupers", inPlace := ["internal/bytealg.IndexByteString", "internal/bytealg.IndexString"], unfollowed := true, recurses := true, named := ["coffeehouse/ins.operations", "unicode/utf8.first", "unicode/utf8.acceptRanges", "internal/bytealg.MaxLen"], apart := false, laid := [("unicode/utf8.acceptRanges", laid_unicode_utf8_acceptRanges), ("coffeehouse/ins.operations", laid_coffeehouse_ins_operations), ("unicode/utf8.first", laid_unicode_utf8_first)], narrowed := true }
def JoinSupersUptoSaid : Prop := joinSupersUptoRow.holds Tryz.pinned (OpenSpec.upto joinSupersSpec)

end Rows
end Go.Proofs.YtnmfcckahglbbaaGreatDoor
