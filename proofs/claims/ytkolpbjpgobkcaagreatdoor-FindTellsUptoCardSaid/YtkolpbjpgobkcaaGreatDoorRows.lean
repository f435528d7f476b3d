/-
  NARROWER THAN 'FOR EVERY INPUT', by the rows' own cells (each row's printed sentence says how): FindTells: laid.
  DERIVED. THE GIVEN ROWS OF THIS SEAT. 1 by the template 'for every input the law returns true; each argument reads behind the call as it read before'; 0 by the template 'total and deterministic' (their statements: YtkolpbjpgobkcaaGreatDoorTotals.lean).
  GIVEN WITH THE SEED: the statements are not yours to turn. If you find one false, say at which input.
  Laid BY PROGRAM, IN A SANDBOX (cutbox-rows.mjs): the forced cells as the released guide's own fill.sh prints them over the translation 53354def2f039b6c… (all of the seat's roots in one cut). By AI agents, Wed Nov 11 2026. No macro, syntax, notation, axiom, sorry.
-/
import Derived.Test.YtkolpbjpgobkcaaGreatDoorChecked
import GoSem.Claim
import GoSem.ClaimJoined
import GoSem.ClaimMapViews
import Derived.JoinedTies
import Derived.KernelRfl
namespace Go.Proofs.YtkolpbjpgobkcaaGreatDoor
/- THE CELL 'sum', in the pinned program and in every row, IS THE sha256 OF THE DUMP (.gsa) THAT YtkolpbjpgobkcaaGreatDoorProg.lean LOADS. Nothing in Lean hashes anything: it is a label: what it is worth is what the hold of that sum in a sandbox is worth. -/
noncomputable def Tryz.pinned : Pinned := { name := "ytkolpbjpgobkcaagreatdoor", sum := "53354def2f039b6c762bce76722197bda31e12daddb1aec52303c575d9da6010", checked := Tryz.checked }
namespace Rows
def none {H : Type} : Left H := { results := [], args := [] }

/- WHAT THE LISTED PACKAGE-LEVEL VARIABLES READ AS WHEN THE CALL BEGINS. Each datum BY PROGRAM (the guide's laid-datum.mjs) off the statement by which the dump's own 'gosem.cut.vars' lays the variable. In a bare row this is a premise. The card (YtkolpbjpgobkcaaGreatDoorCards.lean) ties it to the program's text. -/
def laid_coffeehouse_ins_operations {H : Type} : DataW H := .agg [.agg [.lit (.string []), .lit (.int .u8 0)], .agg [.lit (.string [110, 111, 112]), .lit (.int .u8 0)], .agg [.lit (.string [112, 117, 115, 104]), .lit (.int .u8 5)], .agg [.lit (.string [110, 117, 108, 108]), .lit (.int .u8 0)], .agg [.lit (.string [108, 111, 97, 100]), .lit (.int .u8 1)], .agg [.lit (.string [115, 116, 111, 114, 101]), .lit (.int .u8 1)], .agg [.lit (.string [112, 111, 112]), .lit (.int .u8 0)], .agg [.lit (.string [100, 117, 112]), .lit (.int .u8 0)], .agg [.lit (.string [115, 119, 97, 112]), .lit (.int .u8 0)], .agg [.lit (.string [109, 97, 116, 104]), .lit (.int .u8 5)], .agg [.lit (.string [99, 111, 110, 118]), .lit (.int .u8 4)], .agg [.lit (.string [111, 114, 100, 101, 114]), .lit (.int .u8 0)], .agg [.lit (.string [105, 102]), .lit (.int .u8 3)], .agg [.lit (.string [105, 102, 110, 117, 108, 108]), .lit (.int .u8 1)], .agg [.lit (.string [103, 111, 116, 111]), .lit (.int .u8 1)], .agg [.lit (.string [110, 101, 119]), .lit (.int .u8 8)], .agg [.lit (.string [103, 101, 116]), .lit (.int .u8 24)], .agg [.lit (.string [112, 117, 116]), .lit (.int .u8 24)], .agg [.lit (.string [110, 101, 119, 97, 114, 114, 97, 121]), .lit (.int .u8 4)], .agg [.lit (.string [108, 101, 110, 103, 116, 104]), .lit (.int .u8 0)], .agg [.lit (.string [97, 108, 111, 97, 100]), .lit (.int .u8 4)], .agg [.lit (.string [97, 115, 116, 111, 114, 101]), .lit (.int .u8 4)], .agg [.lit (.string [99, 97, 115, 116]), .lit (.int .u8 4)], .agg [.lit (.string [105, 115]), .lit (.int .u8 4)], .agg [.lit (.string [99, 97, 108, 108]), .lit (.int .u8 28)], .agg [.lit (.string [99, 97, 108, 108, 115]), .lit (.int .u8 28)], .agg [.lit (.string [114, 101, 116, 117, 114, 110]), .lit (.int .u8 0)], .agg [.lit (.string [103, 105, 118, 101]), .lit (.int .u8 0)], .agg [.lit (.string [116, 104, 114, 111, 119]), .lit (.int .u8 0)]]

/-- 'coffeehouselaw2.FindTells': WHATEVER THE INPUT: true; the input reads as it did. -/
def findTellsSpec : ChangeSpec := { name := "findTells", fn := fun _ => fun
  | [d1, d2, d3, d4] => { results := [.lit (.bool true)], args := [d1, d2, d3, d4] }
  | _ => none }
def findTellsRow : OpenClaim := { program := "ytkolpbjpgobkcaagreatdoor", sum := "53354def2f039b6c762bce76722197bda31e12daddb1aec52303c575d9da6010", func := "coffeehouse/coffeehouselaw2.FindTells", spec := "findTells", inPlace := ["internal/bytealg.IndexByteString"], unfollowed := true, recurses := true, named := ["coffeehouse/ins.operations"], apart := false, laid := [("coffeehouse/ins.operations", laid_coffeehouse_ins_operations)] }
def FindTellsSaid : Prop := findTellsRow.holds Tryz.pinned (OpenSpec.ofChange findTellsSpec)

/-- ITS FALSE NEIGHBOUR: 'it returns false'. Refute it at one input. -/
def findTellsWrong : ChangeSpec := { name := "findTells", fn := fun _ => fun
  | [d1, d2, d3, d4] => { results := [.lit (.bool false)], args := [d1, d2, d3, d4] }
  | _ => none }
def FindTellsWrongFalsely : Prop := findTellsRow.holds Tryz.pinned (OpenSpec.ofChange findTellsWrong)

/- THE SECOND FORM. 'bulk': how many values and letters a reading holds, each counted each time it is reached (what is shared counts as often as it is met; a slice's spare places count too). A statement '..UptoSaid' is the law's where the arguments, and the package variables that the reading takes, are together of bulk at most 1048576: NARROWER than '..Said'. Prove '..Said' where nothing that the law and all that it calls make is longer than what came in: it says more and counts as full. Else prove '..UptoSaid'. A law counts once. -/
mutual
def uptoBulk {H : Type} : DataW H → Nat
  | .lit (.string bytes) => bytes.length + 1
  | .lit _ => 1
  | .nil => 1
  | .ptr d => uptoBulk d + 1
  | .slice elems spare => uptoBulkAll elems + uptoBulkAll spare + 1
  | .agg parts => uptoBulkAll parts + 1
  | .iface _ d => uptoBulk d + 1
  | .map entries => uptoBulkEntries entries + 1
  | .held _ => 1
def uptoBulkAll {H : Type} : List (DataW H) → Nat
  | [] => 0
  | d :: r => uptoBulk d + uptoBulkAll r
def uptoBulkEntries {H : Type} : List (Lit × DataW H) → Nat
  | [] => 0
  | x :: r => uptoBulkEntry x + uptoBulkEntries r
def uptoBulkEntry {H : Type} : Lit × DataW H → Nat
  | (.string bytes, d) => bytes.length + uptoBulk d + 1
  | (_, d) => uptoBulk d + 1
 end
def uptoSmall : (H : Type) → List (DataW H) → Bool := fun _ ds => decide (uptoBulkAll ds ≤ 1048576)
def OpenSpec.upto (s : _root_.Go.ChangeSpec) : _root_.Go.OpenSpec := { _root_.Go.OpenSpec.ofChange s with cond := some uptoSmall }

/-- 'coffeehouselaw2.FindTells', WHERE WHAT IT READS IS OF BULK AT MOST 1048576: true; the input reads as it did. -/
def findTellsUptoRow : OpenClaim := { program := "ytkolpbjpgobkcaagreatdoor", sum := "53354def2f039b6c762bce76722197bda31e12daddb1aec52303c575d9da6010", func := "coffeehouse/coffeehouselaw2.FindTells", spec := "findTells", inPlace := ["internal/bytealg.IndexByteString"], unfollowed := true, recurses := true, named := ["coffeehouse/ins.operations"], apart := false, laid := [("coffeehouse/ins.operations", laid_coffeehouse_ins_operations)], narrowed := true }
def FindTellsUptoSaid : Prop := findTellsUptoRow.holds Tryz.pinned (OpenSpec.upto findTellsSpec)

end Rows
end Go.Proofs.YtkolpbjpgobkcaaGreatDoor
