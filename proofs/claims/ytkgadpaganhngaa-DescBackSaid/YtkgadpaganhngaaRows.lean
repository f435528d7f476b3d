/-
  No cell of these rows narrows 'for every input' (looked for: loops, veiled, ifaces, maps, wideKeys, modest, calm, conditions, laid).
  DERIVED. THE GIVEN ROWS OF THIS SEAT. 8 by the template 'for every input the law returns true; each argument reads behind the call as it read before'; 0 by the template 'total and deterministic' (their statements: YtkgadpaganhngaaTotals.lean).
  GIVEN WITH THE SEED: the statements are not yours to turn. If you find one false, say at which input.
  Laid BY PROGRAM, IN A SANDBOX (cutbox-rows.mjs): the forced cells as the released guide's own fill.sh prints them over the translation 7c8b8b9f186a7ed4… (all of the seat's roots in one cut). By AI agents, Wed Nov 11 2026. No macro, syntax, notation, axiom, sorry.
-/
import Derived.Test.YtkgadpaganhngaaChecked
import GoSem.Claim
import GoSem.ClaimJoined
import GoSem.ClaimMapViews
import Derived.JoinedTies
import Derived.KernelRfl
namespace Go.Proofs.Ytkgadpaganhngaa
/- THE CELL 'sum', in the pinned program and in every row, IS THE sha256 OF THE DUMP (.gsa) THAT YtkgadpaganhngaaProg.lean LOADS. Nothing in Lean hashes anything: it is a label: what it is worth is what the hold of that sum in a sandbox is worth. -/
noncomputable def Try.pinned : Pinned := { name := "ytkgadpaganhngaa", sum := "7c8b8b9f186a7ed481f97fe2d5d5b7930cadf0a2f264421c1dc1b7c0b99ce41c", checked := Try.checked }
namespace Rows
def none {H : Type} : Left H := { results := [], args := [] }

/-- 'coffeehouselaw1.NameTells': WHATEVER THE INPUT: true; the input reads as it did. -/
def nameTellsSpec : ChangeSpec := { name := "nameTells", fn := fun _ => fun
  | [d] => { results := [.lit (.bool true)], args := [d] }
  | _ => none }
def nameTellsRow : OpenClaim := { program := "ytkgadpaganhngaa", sum := "7c8b8b9f186a7ed481f97fe2d5d5b7930cadf0a2f264421c1dc1b7c0b99ce41c", func := "coffeehouse/coffeehouselaw1.NameTells", spec := "nameTells", apart := false }
def NameTellsSaid : Prop := nameTellsRow.holds Try.pinned (OpenSpec.ofChange nameTellsSpec)

/-- ITS FALSE NEIGHBOUR: 'it returns false'. Refute it at one input. -/
def nameTellsWrong : ChangeSpec := { name := "nameTells", fn := fun _ => fun
  | [d] => { results := [.lit (.bool false)], args := [d] }
  | _ => none }
def NameTellsWrongFalsely : Prop := nameTellsRow.holds Try.pinned (OpenSpec.ofChange nameTellsWrong)

/-- 'coffeehouselaw1.NameJoined': WHATEVER THE INPUT: true; the input reads as it did. -/
def nameJoinedSpec : ChangeSpec := { name := "nameJoined", fn := fun _ => fun
  | [d1, d2, d3] => { results := [.lit (.bool true)], args := [d1, d2, d3] }
  | _ => none }
def nameJoinedRow : OpenClaim := { program := "ytkgadpaganhngaa", sum := "7c8b8b9f186a7ed481f97fe2d5d5b7930cadf0a2f264421c1dc1b7c0b99ce41c", func := "coffeehouse/coffeehouselaw1.NameJoined", spec := "nameJoined", apart := false }
def NameJoinedSaid : Prop := nameJoinedRow.holds Try.pinned (OpenSpec.ofChange nameJoinedSpec)

/-- ITS FALSE NEIGHBOUR: 'it returns false'. Refute it at one input. -/
def nameJoinedWrong : ChangeSpec := { name := "nameJoined", fn := fun _ => fun
  | [d1, d2, d3] => { results := [.lit (.bool false)], args := [d1, d2, d3] }
  | _ => none }
def NameJoinedWrongFalsely : Prop := nameJoinedRow.holds Try.pinned (OpenSpec.ofChange nameJoinedWrong)

/-- 'coffeehouselaw1.DescTells': WHATEVER THE INPUT: true; the input reads as it did. -/
def descTellsSpec : ChangeSpec := { name := "descTells", fn := fun _ => fun
  | [d] => { results := [.lit (.bool true)], args := [d] }
  | _ => none }
def descTellsRow : OpenClaim := { program := "ytkgadpaganhngaa", sum := "7c8b8b9f186a7ed481f97fe2d5d5b7930cadf0a2f264421c1dc1b7c0b99ce41c", func := "coffeehouse/coffeehouselaw1.DescTells", spec := "descTells", inPlace := ["internal/bytealg.IndexByteString"], apart := false }
def DescTellsSaid : Prop := descTellsRow.holds Try.pinned (OpenSpec.ofChange descTellsSpec)

/-- ITS FALSE NEIGHBOUR: 'it returns false'. Refute it at one input. -/
def descTellsWrong : ChangeSpec := { name := "descTells", fn := fun _ => fun
  | [d] => { results := [.lit (.bool false)], args := [d] }
  | _ => none }
def DescTellsWrongFalsely : Prop := descTellsRow.holds Try.pinned (OpenSpec.ofChange descTellsWrong)

/-- 'coffeehouselaw1.DescMakes': WHATEVER THE INPUT: true; the input reads as it did. -/
def descMakesSpec : ChangeSpec := { name := "descMakes", fn := fun _ => fun
  | [d1, d2] => { results := [.lit (.bool true)], args := [d1, d2] }
  | _ => none }
def descMakesRow : OpenClaim := { program := "ytkgadpaganhngaa", sum := "7c8b8b9f186a7ed481f97fe2d5d5b7930cadf0a2f264421c1dc1b7c0b99ce41c", func := "coffeehouse/coffeehouselaw1.DescMakes", spec := "descMakes", inPlace := ["internal/bytealg.IndexByteString", "internal/abi.NoEscape", "internal/bytealg.MakeNoZero"], apart := false }
def DescMakesSaid : Prop := descMakesRow.holds Try.pinned (OpenSpec.ofChange descMakesSpec)

/-- ITS FALSE NEIGHBOUR: 'it returns false'. Refute it at one input. -/
def descMakesWrong : ChangeSpec := { name := "descMakes", fn := fun _ => fun
  | [d1, d2] => { results := [.lit (.bool false)], args := [d1, d2] }
  | _ => none }
def DescMakesWrongFalsely : Prop := descMakesRow.holds Try.pinned (OpenSpec.ofChange descMakesWrong)

/-- 'coffeehouselaw1.DescBack': WHATEVER THE INPUT: true; the input reads as it did. -/
def descBackSpec : ChangeSpec := { name := "descBack", fn := fun _ => fun
  | [d] => { results := [.lit (.bool true)], args := [d] }
  | _ => none }
def descBackRow : OpenClaim := { program := "ytkgadpaganhngaa", sum := "7c8b8b9f186a7ed481f97fe2d5d5b7930cadf0a2f264421c1dc1b7c0b99ce41c", func := "coffeehouse/coffeehouselaw1.DescBack", spec := "descBack", inPlace := ["internal/bytealg.IndexByteString", "internal/abi.NoEscape", "internal/bytealg.MakeNoZero"], apart := false }
def DescBackSaid : Prop := descBackRow.holds Try.pinned (OpenSpec.ofChange descBackSpec)

/-- ITS FALSE NEIGHBOUR: 'it returns false'. Refute it at one input. -/
def descBackWrong : ChangeSpec := { name := "descBack", fn := fun _ => fun
  | [d] => { results := [.lit (.bool false)], args := [d] }
  | _ => none }
def DescBackWrongFalsely : Prop := descBackRow.holds Try.pinned (OpenSpec.ofChange descBackWrong)

/-- 'coffeehouselaw6.NameLetters': WHATEVER THE INPUT: true; the input reads as it did. -/
def nameLettersSpec : ChangeSpec := { name := "nameLetters", fn := fun _ => fun
  | [d1, d2, d3] => { results := [.lit (.bool true)], args := [d1, d2, d3] }
  | _ => none }
def nameLettersRow : OpenClaim := { program := "ytkgadpaganhngaa", sum := "7c8b8b9f186a7ed481f97fe2d5d5b7930cadf0a2f264421c1dc1b7c0b99ce41c", func := "coffeehouse/coffeehouselaw6.NameLetters", spec := "nameLetters", apart := false }
def NameLettersSaid : Prop := nameLettersRow.holds Try.pinned (OpenSpec.ofChange nameLettersSpec)

/-- ITS FALSE NEIGHBOUR: 'it returns false'. Refute it at one input. -/
def nameLettersWrong : ChangeSpec := { name := "nameLetters", fn := fun _ => fun
  | [d1, d2, d3] => { results := [.lit (.bool false)], args := [d1, d2, d3] }
  | _ => none }
def NameLettersWrongFalsely : Prop := nameLettersRow.holds Try.pinned (OpenSpec.ofChange nameLettersWrong)

/-- 'coffeehouselaw6.DescArrays': WHATEVER THE INPUT: true; the input reads as it did. -/
def descArraysSpec : ChangeSpec := { name := "descArrays", fn := fun _ => fun
  | [d1, d2] => { results := [.lit (.bool true)], args := [d1, d2] }
  | _ => none }
def descArraysRow : OpenClaim := { program := "ytkgadpaganhngaa", sum := "7c8b8b9f186a7ed481f97fe2d5d5b7930cadf0a2f264421c1dc1b7c0b99ce41c", func := "coffeehouse/coffeehouselaw6.DescArrays", spec := "descArrays", inPlace := ["internal/bytealg.IndexByteString"], apart := false }
def DescArraysSaid : Prop := descArraysRow.holds Try.pinned (OpenSpec.ofChange descArraysSpec)

/-- ITS FALSE NEIGHBOUR: 'it returns false'. Refute it at one input. -/
def descArraysWrong : ChangeSpec := { name := "descArrays", fn := fun _ => fun
  | [d1, d2] => { results := [.lit (.bool false)], args := [d1, d2] }
  | _ => none }
def DescArraysWrongFalsely : Prop := descArraysRow.holds Try.pinned (OpenSpec.ofChange descArraysWrong)

/-- 'coffeehouselaw6.DescJoined': WHATEVER THE INPUT: true; the input reads as it did. -/
def descJoinedSpec : ChangeSpec := { name := "descJoined", fn := fun _ => fun
  | [d1, d2] => { results := [.lit (.bool true)], args := [d1, d2] }
  | _ => none }
def descJoinedRow : OpenClaim := { program := "ytkgadpaganhngaa", sum := "7c8b8b9f186a7ed481f97fe2d5d5b7930cadf0a2f264421c1dc1b7c0b99ce41c", func := "coffeehouse/coffeehouselaw6.DescJoined", spec := "descJoined", inPlace := ["internal/bytealg.IndexByteString", "internal/abi.NoEscape", "internal/bytealg.MakeNoZero"], apart := false }
def DescJoinedSaid : Prop := descJoinedRow.holds Try.pinned (OpenSpec.ofChange descJoinedSpec)

/-- ITS FALSE NEIGHBOUR: 'it returns false'. Refute it at one input. -/
def descJoinedWrong : ChangeSpec := { name := "descJoined", fn := fun _ => fun
  | [d1, d2] => { results := [.lit (.bool false)], args := [d1, d2] }
  | _ => none }
def DescJoinedWrongFalsely : Prop := descJoinedRow.holds Try.pinned (OpenSpec.ofChange descJoinedWrong)

/- THE SECOND FORM. 'bulk': how many values and letters a reading holds, each counted each time it is reached (what is shared counts as often as it is met; a slice's spare places count too). A statement '..UptoSaid' is the law's where the arguments, and the package variables that the reading takes, are together of bulk at most 1048576: NARROWER than '..Said'. Prove '..Said' where nothing that the law and all that it calls make is longer than what came in: it says more and counts as full. Else prove '..UptoSaid'. A law counts once. -/
mutual
def uptoBulk {H : Type} : DataW H → Nat
  | .lit (.string bytes) => bytes.length + 1
  | .lit _ => 1
  | .nil => 1
  | .ptr d => uptoBulk d + 1
  | .slice elems spare => uptoBulkAll elems + uptoBulkAll spare + 1
  | .agg parts => uptoBulkAll parts + 1
  | .iface _ d => uptoBulk d + 1
  | .map entries => uptoBulkEntries entries + 1
  | .held _ => 1
def uptoBulkAll {H : Type} : List (DataW H) → Nat
  | [] => 0
  | d :: r => uptoBulk d + uptoBulkAll r
def uptoBulkEntries {H : Type} : List (Lit × DataW H) → Nat
  | [] => 0
  | x :: r => uptoBulkEntry x + uptoBulkEntries r
def uptoBulkEntry {H : Type} : Lit × DataW H → Nat
  | (.string bytes, d) => bytes.length + uptoBulk d + 1
  | (_, d) => uptoBulk d + 1
 end
def uptoSmall : (H : Type) → List (DataW H) → Bool := fun _ ds => decide (uptoBulkAll ds ≤ 1048576)
def OpenSpec.upto (s : _root_.Go.ChangeSpec) : _root_.Go.OpenSpec := { _root_.Go.OpenSpec.ofChange s with cond := some uptoSmall }

/-- 'coffeehouselaw1.NameTells', WHERE WHAT IT READS IS OF BULK AT MOST 1048576: true; the input reads as it did. -/
def nameTellsUptoRow : OpenClaim := { program := "ytkgadpaganhngaa", sum := "7c8b8b9f186a7ed481f97fe2d5d5b7930cadf0a2f264421c1dc1b7c0b99ce41c", func := "coffeehouse/coffeehouselaw1.NameTells", spec := "nameTells", apart := false, narrowed := true }
def NameTellsUptoSaid : Prop := nameTellsUptoRow.holds Try.pinned (OpenSpec.upto nameTellsSpec)

/-- 'coffeehouselaw1.NameJoined', WHERE WHAT IT READS IS OF BULK AT MOST 1048576: true; the input reads as it did. -/
def nameJoinedUptoRow : OpenClaim := { program := "ytkgadpaganhngaa", sum := "7c8b8b9f186a7ed481f97fe2d5d5b7930cadf0a2f264421c1dc1b7c0b99ce41c", func := "coffeehouse/coffeehouselaw1.NameJoined", spec := "nameJoined", apart := false, narrowed := true }
def NameJoinedUptoSaid : Prop := nameJoinedUptoRow.holds Try.pinned (OpenSpec.upto nameJoinedSpec)

/-- 'coffeehouselaw1.DescTells', WHERE WHAT IT READS IS OF BULK AT MOST 1048576: true; the input reads as it did. -/
def descTellsUptoRow : OpenClaim := { program := "ytkgadpaganhngaa", sum := "7c8b8b9f186a7ed481f97fe2d5d5b7930cadf0a2f264421c1dc1b7c0b99ce41c", func := "coffeehouse/coffeehouselaw1.DescTells", spec := "descTells", inPlace := ["internal/bytealg.IndexByteString"], apart := false, narrowed := true }
def DescTellsUptoSaid : Prop := descTellsUptoRow.holds Try.pinned (OpenSpec.upto descTellsSpec)

/-- 'coffeehouselaw1.DescMakes', WHERE WHAT IT READS IS OF BULK AT MOST 1048576: true; the input reads as it did. -/
def descMakesUptoRow : OpenClaim := { program := "ytkgadpaganhngaa", sum := "7c8b8b9f186a7ed481f97fe2d5d5b7930cadf0a2f264421c1dc1b7c0b99ce41c", func := "coffeehouse/coffeehouselaw1.DescMakes", spec := "descMakes", inPlace := ["internal/bytealg.IndexByteString", "internal/abi.NoEscape", "internal/bytealg.MakeNoZero"], apart := false, narrowed := true }
def DescMakesUptoSaid : Prop := descMakesUptoRow.holds Try.pinned (OpenSpec.upto descMakesSpec)

/-- 'coffeehouselaw1.DescBack', WHERE WHAT IT READS IS OF BULK AT MOST 1048576: true; the input reads as it did. -/
def descBackUptoRow : OpenClaim := { program := "ytkgadpaganhngaa", sum := "7c8b8b9f186a7ed481f97fe2d5d5b7930cadf0a2f264421c1dc1b7c0b99ce41c", func := "coffeehouse/coffeehouselaw1.DescBack", spec := "descBack", inPlace := ["internal/bytealg.IndexByteString", "internal/abi.NoEscape", "internal/bytealg.MakeNoZero"], apart := false, narrowed := true }
def DescBackUptoSaid : Prop := descBackUptoRow.holds Try.pinned (OpenSpec.upto descBackSpec)

/-- 'coffeehouselaw6.NameLetters', WHERE WHAT IT READS IS OF BULK AT MOST 1048576: true; the input reads as it did. -/
def nameLettersUptoRow : OpenClaim := { program := "ytkgadpaganhngaa", sum := "7c8b8b9f186a7ed481f97fe2d5d5b7930cadf0a2f264421c1dc1b7c0b99ce41c", func := "coffeehouse/coffeehouselaw6.NameLetters", spec := "nameLetters", apart := false, narrowed := true }
def NameLettersUptoSaid : Prop := nameLettersUptoRow.holds Try.pinned (OpenSpec.upto nameLettersSpec)

/-- 'coffeehouselaw6.DescArrays', WHERE WHAT IT READS IS OF BULK AT MOST 1048576: true; the input reads as it did. -/
def descArraysUptoRow : OpenClaim := { program := "ytkgadpaganhngaa", sum := "7c8b8b9f186a7ed481f97fe2d5d5b7930cadf0a2f264421c1dc1b7c0b99ce41c", func := "coffeehouse/coffeehouselaw6.DescArrays", spec := "descArrays", inPlace := ["internal/bytealg.IndexByteString"], apart := false, narrowed := true }
def DescArraysUptoSaid : Prop := descArraysUptoRow.holds Try.pinned (OpenSpec.upto descArraysSpec)

/-- 'coffeehouselaw6.DescJoined', WHERE WHAT IT READS IS OF BULK AT MOST 1048576: true; the input reads as it did. -/
def descJoinedUptoRow : OpenClaim := { program := "ytkgadpaganhngaa", sum := "7c8b8b9f186a7ed481f97fe2d5d5b7930cadf0a2f264421c1dc1b7c0b99ce41c", func := "coffeehouse/coffeehouselaw6.DescJoined", spec := "descJoined", inPlace := ["internal/bytealg.IndexByteString", "internal/abi.NoEscape", "internal/bytealg.MakeNoZero"], apart := false, narrowed := true }
def DescJoinedUptoSaid : Prop := descJoinedUptoRow.holds Try.pinned (OpenSpec.upto descJoinedSpec)

end Rows
end Go.Proofs.Ytkgadpaganhngaa
