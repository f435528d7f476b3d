/-
  NARROWER THAN 'FOR EVERY INPUT', by the rows' own cells (each row's printed sentence says how): SubTells: laid · SubOrder: laid · SubArrays: laid · SubAll: laid.
  DERIVED. THE GIVEN ROWS OF THIS SEAT. 4 by the template 'for every input the law returns true; each argument reads behind the call as it read before'; 0 by the template 'total and deterministic' (their statements: YtdpkjmdmmhnfnaaGreatDoorTotals.lean).
  GIVEN WITH THE SEED: the statements are not yours to turn. If you find one false, say at which input.
  Laid BY PROGRAM, IN A SANDBOX (cutbox-rows.mjs): the forced cells as the released guide's own fill.sh prints them over the translation 33ffc2b64200a026… (all of the seat's roots in one cut). By AI agents, Wed Nov 11 2026. No macro, syntax, notation, axiom, sorry.
-/
import Derived.Test.YtdpkjmdmmhnfnaaGreatDoorChecked
import GoSem.PinnedTables
import GoSem.Claim
import GoSem.ClaimJoined
import GoSem.ClaimMapViews
import Derived.JoinedTies
import Derived.KernelRfl
namespace Go.Proofs.YtdpkjmdmmhnfnaaGreatDoor
/- THE CELL 'sum', in the pinned program and in every row, IS THE sha256 OF THE DUMP (.gsa) THAT YtdpkjmdmmhnfnaaGreatDoorProg.lean LOADS. Nothing in Lean hashes anything: it is a label: what it is worth is what the hold of that sum in a sandbox is worth. -/
noncomputable def Tryz.pinned : Pinned := { name := "ytdpkjmdmmhnfnaagreatdoor", sum := "33ffc2b64200a026ca2ba13035ae93bdddfa7b08ddb7972d662bc60a7159db59", checked := Tryz.checked }
namespace Rows
def none {H : Type} : Left H := { results := [], args := [] }

/- WHAT THE LISTED PACKAGE-LEVEL VARIABLES READ AS WHEN THE CALL BEGINS. Each datum BY PROGRAM (the guide's laid-datum.mjs) off the statement by which the dump's own 'gosem.cut.vars' lays the variable. In a bare row this is a premise. The card (YtdpkjmdmmhnfnaaGreatDoorCards.lean) ties it to the program's text. -/
def laid_unicode_utf8_acceptRanges {H : Type} : DataW H := .agg [.agg [.lit (.int .u8 128), .lit (.int .u8 191)], .agg [.lit (.int .u8 160), .lit (.int .u8 191)], .agg [.lit (.int .u8 128), .lit (.int .u8 159)], .agg [.lit (.int .u8 144), .lit (.int .u8 191)], .agg [.lit (.int .u8 128), .lit (.int .u8 143)], .agg [.lit (.int .u8 0), .lit (.int .u8 0)], .agg [.lit (.int .u8 0), .lit (.int .u8 0)], .agg [.lit (.int .u8 0), .lit (.int .u8 0)], .agg [.lit (.int .u8 0), .lit (.int .u8 0)], .agg [.lit (.int .u8 0), .lit (.int .u8 0)], .agg [.lit (.int .u8 0), .lit (.int .u8 0)], .agg [.lit (.int .u8 0), .lit (.int .u8 0)], .agg [.lit (.int .u8 0), .lit (.int .u8 0)], .agg [.lit (.int .u8 0), .lit (.int .u8 0)], .agg [.lit (.int .u8 0), .lit (.int .u8 0)], .agg [.lit (.int .u8 0), .lit (.int .u8 0)]]
def laid_coffeehouse_ins_operations {H : Type} : DataW H := .agg [.agg [.lit (.string []), .lit (.int .u8 0)], .agg [.lit (.string [110, 111, 112]), .lit (.int .u8 0)], .agg [.lit (.string [112, 117, 115, 104]), .lit (.int .u8 5)], .agg [.lit (.string [110, 117, 108, 108]), .lit (.int .u8 0)], .agg [.lit (.string [108, 111, 97, 100]), .lit (.int .u8 1)], .agg [.lit (.string [115, 116, 111, 114, 101]), .lit (.int .u8 1)], .agg [.lit (.string [112, 111, 112]), .lit (.int .u8 0)], .agg [.lit (.string [100, 117, 112]), .lit (.int .u8 0)], .agg [.lit (.string [115, 119, 97, 112]), .lit (.int .u8 0)], .agg [.lit (.string [109, 97, 116, 104]), .lit (.int .u8 5)], .agg [.lit (.string [99, 111, 110, 118]), .lit (.int .u8 4)], .agg [.lit (.string [111, 114, 100, 101, 114]), .lit (.int .u8 0)], .agg [.lit (.string [105, 102]), .lit (.int .u8 3)], .agg [.lit (.string [105, 102, 110, 117, 108, 108]), .lit (.int .u8 1)], .agg [.lit (.string [103, 111, 116, 111]), .lit (.int .u8 1)], .agg [.lit (.string [110, 101, 119]), .lit (.int .u8 8)], .agg [.lit (.string [103, 101, 116]), .lit (.int .u8 24)], .agg [.lit (.string [112, 117, 116]), .lit (.int .u8 24)], .agg [.lit (.string [110, 101, 119, 97, 114, 114, 97, 121]), .lit (.int .u8 4)], .agg [.lit (.string [108, 101, 110, 103, 116, 104]), .lit (.int .u8 0)], .agg [.lit (.string [97, 108, 111, 97, 100]), .lit (.int .u8 4)], .agg [.lit (.string [97, 115, 116, 111, 114, 101]), .lit (.int .u8 4)], .agg [.lit (.string [99, 97, 115, 116]), .lit (.int .u8 4)], .agg [.lit (.string [105, 115]), .lit (.int .u8 4)], .agg [.lit (.string [99, 97, 108, 108]), .lit (.int .u8 28)], .agg [.lit (.string [99, 97, 108, 108, 115]), .lit (.int .u8 28)], .agg [.lit (.string [114, 101, 116, 117, 114, 110]), .lit (.int .u8 0)], .agg [.lit (.string [103, 105, 118, 101]), .lit (.int .u8 0)], .agg [.lit (.string [116, 104, 114, 111, 119]), .lit (.int .u8 0)]]
/-- One of Go's own tables, pinned by name: the form's constant. -/
def laid_unicode_utf8_first : DataW Unit := Go.Pinned.utf8First

/-- 'coffeehouselaw2.SubTells': WHATEVER THE INPUT: true; the input reads as it did. -/
def subTellsSpec : ChangeSpec := { name := "subTells", fn := fun _ => fun
  | [d1, d2, d3] => { results := [.lit (.bool true)], args := [d1, d2, d3] }
  | _ => none }
def subTellsRow : OpenClaim := { program := "ytdpkjmdmmhnfnaagreatdoor", sum := "33ffc2b64200a026ca2ba13035ae93bdddfa7b08ddb7972d662bc60a7159db59", func := "coffeehouse/coffeehouselaw2.SubTells", spec := "subTells", inPlace := ["internal/bytealg.IndexByteString", "internal/bytealg.IndexString"], unfollowed := true, recurses := true, named := ["coffeehouse/ins.operations", "unicode/utf8.first", "unicode/utf8.acceptRanges", "internal/bytealg.MaxLen"], apart := false, laid := [("unicode/utf8.acceptRanges", laid_unicode_utf8_acceptRanges), ("coffeehouse/ins.operations", laid_coffeehouse_ins_operations), ("unicode/utf8.first", laid_unicode_utf8_first)] }
def SubTellsSaid : Prop := subTellsRow.holds Tryz.pinned (OpenSpec.ofChange subTellsSpec)

/-- ITS FALSE NEIGHBOUR: 'it returns false'. Refute it at one input. -/
def subTellsWrong : ChangeSpec := { name := "subTells", fn := fun _ => fun
  | [d1, d2, d3] => { results := [.lit (.bool false)], args := [d1, d2, d3] }
  | _ => none }
def SubTellsWrongFalsely : Prop := subTellsRow.holds Tryz.pinned (OpenSpec.ofChange subTellsWrong)

/-- 'coffeehouselaw2.SubOrder': WHATEVER THE INPUT: true; the input reads as it did. -/
def subOrderSpec : ChangeSpec := { name := "subOrder", fn := fun _ => fun
  | [d1, d2, d3, d4] => { results := [.lit (.bool true)], args := [d1, d2, d3, d4] }
  | _ => none }
def subOrderRow : OpenClaim := { program := "ytdpkjmdmmhnfnaagreatdoor", sum := "33ffc2b64200a026ca2ba13035ae93bdddfa7b08ddb7972d662bc60a7159db59", func := "coffeehouse/coffeehouselaw2.SubOrder", spec := "subOrder", inPlace := ["internal/bytealg.IndexByteString", "internal/bytealg.IndexString"], unfollowed := true, recurses := true, named := ["coffeehouse/ins.operations", "unicode/utf8.first", "unicode/utf8.acceptRanges", "internal/bytealg.MaxLen"], apart := false, laid := [("unicode/utf8.acceptRanges", laid_unicode_utf8_acceptRanges), ("coffeehouse/ins.operations", laid_coffeehouse_ins_operations), ("unicode/utf8.first", laid_unicode_utf8_first)] }
def SubOrderSaid : Prop := subOrderRow.holds Tryz.pinned (OpenSpec.ofChange subOrderSpec)

/-- ITS FALSE NEIGHBOUR: 'it returns false'. Refute it at one input. -/
def subOrderWrong : ChangeSpec := { name := "subOrder", fn := fun _ => fun
  | [d1, d2, d3, d4] => { results := [.lit (.bool false)], args := [d1, d2, d3, d4] }
  | _ => none }
def SubOrderWrongFalsely : Prop := subOrderRow.holds Tryz.pinned (OpenSpec.ofChange subOrderWrong)

/-- 'coffeehouselaw2.SubArrays': WHATEVER THE INPUT: true; the input reads as it did. -/
def subArraysSpec : ChangeSpec := { name := "subArrays", fn := fun _ => fun
  | [d1, d2, d3] => { results := [.lit (.bool true)], args := [d1, d2, d3] }
  | _ => none }
def subArraysRow : OpenClaim := { program := "ytdpkjmdmmhnfnaagreatdoor", sum := "33ffc2b64200a026ca2ba13035ae93bdddfa7b08ddb7972d662bc60a7159db59", func := "coffeehouse/coffeehouselaw2.SubArrays", spec := "subArrays", inPlace := ["internal/bytealg.IndexByteString", "internal/bytealg.IndexString"], unfollowed := true, recurses := true, named := ["coffeehouse/ins.operations", "unicode/utf8.first", "unicode/utf8.acceptRanges", "internal/bytealg.MaxLen"], apart := false, laid := [("unicode/utf8.acceptRanges", laid_unicode_utf8_acceptRanges), ("coffeehouse/ins.operations", laid_coffeehouse_ins_operations), ("unicode/utf8.first", laid_unicode_utf8_first)] }
def SubArraysSaid : Prop := subArraysRow.holds Tryz.pinned (OpenSpec.ofChange subArraysSpec)

/-- ITS FALSE NEIGHBOUR: 'it returns false'. Refute it at one input. -/
def subArraysWrong : ChangeSpec := { name := "subArrays", fn := fun _ => fun
  | [d1, d2, d3] => { results := [.lit (.bool false)], args := [d1, d2, d3] }
  | _ => none }
def SubArraysWrongFalsely : Prop := subArraysRow.holds Tryz.pinned (OpenSpec.ofChange subArraysWrong)

/-- 'coffeehouselaw6.SubAll': WHATEVER THE INPUT: true; the input reads as it did. -/
def subAllSpec : ChangeSpec := { name := "subAll", fn := fun _ => fun
  | [d1, d2, d3] => { results := [.lit (.bool true)], args := [d1, d2, d3] }
  | _ => none }
def subAllRow : OpenClaim := { program := "ytdpkjmdmmhnfnaagreatdoor", sum := "33ffc2b64200a026ca2ba13035ae93bdddfa7b08ddb7972d662bc60a7159db59", func := "coffeehouse/coffeehouselaw6.SubAll", spec := "subAll", inPlace := ["internal/bytealg.IndexByteString", "internal/bytealg.IndexString"], unfollowed := true, recurses := true, named := ["coffeehouse/ins.operations", "unicode/utf8.first", "unicode/utf8.acceptRanges", "internal/bytealg.MaxLen"], apart := false, laid := [("unicode/utf8.acceptRanges", laid_unicode_utf8_acceptRanges), ("coffeehouse/ins.operations", laid_coffeehouse_ins_operations), ("unicode/utf8.first", laid_unicode_utf8_first)] }
def SubAllSaid : Prop := subAllRow.holds Tryz.pinned (OpenSpec.ofChange subAllSpec)

/-- ITS FALSE NEIGHBOUR: 'it returns false'. Refute it at one input. -/
def subAllWrong : ChangeSpec := { name := "subAll", fn := fun _ => fun
  | [d1, d2, d3] => { results := [.lit (.bool false)], args := [d1, d2, d3] }
  | _ => none }
def SubAllWrongFalsely : Prop := subAllRow.holds Tryz.pinned (OpenSpec.ofChange subAllWrong)

/- THE SECOND FORM. 'bulk': how many values and letters a reading holds, each counted each time it is reached (what is shared counts as often as it is met; a slice's spare places count too). A statement '..UptoSaid' is the law's where the arguments, and the package variables that the reading takes, are together of bulk at most 1048576: NARROWER than '..Said'. Prove '..Said' where nothing that the law and all that it calls make is longer than what came in: it says more and counts as full. Else prove '..UptoSaid'. A law counts once. -/
mutual
def uptoBulk {H : Type} : DataW H → Nat
  | .lit (.string bytes) => bytes.length + 1
  | .lit _ => 1
  | .nil => 1
  | .ptr d => uptoBulk d + 1
  | .slice elems spare => uptoBulkAll elems + uptoBulkAll spare + 1
  | .agg parts => uptoBulkAll parts + 1
  | .iface _ d => uptoBulk d + 1
  | .map entries => uptoBulkEntries entries + 1
  | .held _ => 1
def uptoBulkAll {H : Type} : List (DataW H) → Nat
  | [] => 0
  | d :: r => uptoBulk d + uptoBulkAll r
def uptoBulkEntries {H : Type} : List (Lit × DataW H) → Nat
  | [] => 0
  | x :: r => uptoBulkEntry x + uptoBulkEntries r
def uptoBulkEntry {H : Type} : Lit × DataW H → Nat
  | (.string bytes, d) => bytes.length + uptoBulk d + 1
  | (_, d) => uptoBulk d + 1
 end
def uptoSmall : (H : Type) → List (DataW H) → Bool := fun _ ds => decide (uptoBulkAll ds ≤ 1048576)
def OpenSpec.upto (s : _root_.Go.ChangeSpec) : _root_.Go.OpenSpec := { _root_.Go.OpenSpec.ofChange s with cond := some uptoSmall }

/-- 'coffeehouselaw2.SubTells', WHERE WHAT IT READS IS OF BULK AT MOST 1048576: true; the input reads as it did. -/
def subTellsUptoRow : OpenClaim := { program := "ytdpkjmdmmhnfnaagreatdoor", sum := "33ffc2b64200a026ca2ba13035ae93bdddfa7b08ddb7972d662bc60a7159db59", func := "coffeehouse/coffeehouselaw2.SubTells", spec := "subTells", inPlace := ["internal/bytealg.IndexByteString", "internal/bytealg.IndexString"], unfollowed := true, recurses := true, named := ["coffeehouse/ins.operations", "unicode/utf8.first", "unicode/utf8.acceptRanges", "internal/bytealg.MaxLen"], apart := false, laid := [("unicode/utf8.acceptRanges", laid_unicode_utf8_acceptRanges), ("coffeehouse/ins.operations", laid_coffeehouse_ins_operations), ("unicode/utf8.first", laid_unicode_utf8_first)], narrowed := true }
def SubTellsUptoSaid : Prop := subTellsUptoRow.holds Tryz.pinned (OpenSpec.upto subTellsSpec)

/-- 'coffeehouselaw2.SubOrder', WHERE WHAT IT READS IS OF BULK AT MOST 1048576: true; the input reads as it did. -/
def subOrderUptoRow : OpenClaim := { program := "ytdpkjmdmmhnfnaagreatdoor", sum := "33ffc2b64200a026ca2ba13035ae93bdddfa7b08ddb7972d662bc60a7159db59", func := "coffeehouse/coffeehouselaw2.SubOrder", spec := "subOrder", inPlace := ["internal/bytealg.IndexByteString", "internal/bytealg.IndexString"], unfollowed := true, recurses := true, named := ["coffeehouse/ins.operations", "unicode/utf8.first", "unicode/utf8.acceptRanges", "internal/bytealg.MaxLen"], apart := false, laid := [("unicode/utf8.acceptRanges", laid_unicode_utf8_acceptRanges), ("coffeehouse/ins.operations", laid_coffeehouse_ins_operations), ("unicode/utf8.first", laid_unicode_utf8_first)], narrowed := true }
def SubOrderUptoSaid : Prop := subOrderUptoRow.holds Tryz.pinned (OpenSpec.upto subOrderSpec)

/-- 'coffeehouselaw2.SubArrays', WHERE WHAT IT READS IS OF BULK AT MOST 1048576: true; the input reads as it did. -/
def subArraysUptoRow : OpenClaim := { program := "ytdpkjmdmmhnfnaagreatdoor", sum := "33ffc2b64200a026ca2ba13035ae93bdddfa7b08ddb7972d662bc60a7159db59", func := "coffeehouse/coffeehouselaw2.SubArrays", spec := "subArrays", inPlace := ["internal/bytealg.IndexByteString", "internal/bytealg.IndexString"], unfollowed := true, recurses := true, named := ["coffeehouse/ins.operations", "unicode/utf8.first", "unicode/utf8.acceptRanges", "internal/bytealg.MaxLen"], apart := false, laid := [("unicode/utf8.acceptRanges", laid_unicode_utf8_acceptRanges), ("coffeehouse/ins.operations", laid_coffeehouse_ins_operations), ("unicode/utf8.first", laid_unicode_utf8_first)], narrowed := true }
def SubArraysUptoSaid : Prop := subArraysUptoRow.holds Tryz.pinned (OpenSpec.upto subArraysSpec)

/-- 'coffeehouselaw6.SubAll', WHERE WHAT IT READS IS OF BULK AT MOST 1048576: true; the input reads as it did. -/
def subAllUptoRow : OpenClaim := { program := "ytdpkjmdmmhnfnaagreatdoor", sum := "33ffc2b64200a026ca2ba13035ae93bdddfa7b08ddb7972d662bc60a7159db59", func := "coffeehouse/coffeehouselaw6.SubAll", spec := "subAll", inPlace := ["internal/bytealg.IndexByteString", "internal/bytealg.IndexString"], unfollowed := true, recurses := true, named := ["coffeehouse/ins.operations", "unicode/utf8.first", "unicode/utf8.acceptRanges", "internal/bytealg.MaxLen"], apart := false, laid := [("unicode/utf8.acceptRanges", laid_unicode_utf8_acceptRanges), ("coffeehouse/ins.operations", laid_coffeehouse_ins_operations), ("unicode/utf8.first", laid_unicode_utf8_first)], narrowed := true }
def SubAllUptoSaid : Prop := subAllUptoRow.holds Tryz.pinned (OpenSpec.upto subAllSpec)

end Rows
end Go.Proofs.YtdpkjmdmmhnfnaaGreatDoor
