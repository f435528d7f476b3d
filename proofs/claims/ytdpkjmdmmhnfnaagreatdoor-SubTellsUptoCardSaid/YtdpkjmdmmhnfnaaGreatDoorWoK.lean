/- What package world must say. -/
import Derived.Test.YtdpkjmdmmhnfnaaGreatDoorWoE
import Derived.Test.YtdpkjmdmmhnfnaaGreatDoorGH
namespace Go.Proofs.YtdpkjmdmmhnfnaaGreatDoor
open Go.ChangeShapes Go.WideShapes Go.ChangeAt Go.RowKit
set_option linter.unusedVariables false

/-- world.Check returns what is wrong with every list of classes. -/
def WorldChecks : Prop := ∀ (l : List ClassD) (q : Nat) (A : Option Addr) (n c : Nat) (w : World), WorldIs l q → Tab w → ClassRow w A n c l → (A = none → n = 0 ∧ c = 0) → (∀ x ∈ l, x.upto 140737488351232) → (∀ x ∈ l, x.wf) → n ≤ 140737488351232 →
  Calls Tryz.prog 22 #[.slice A n c] w fun e w' => e = .returned (errV q) ∧ Below w.heap.size w w'
/-- A list of names that is made by the call, and an error; of the names: rel. -/
def Lists (w : World) (q : Nat) (rel : List (List UInt8) → Prop) (e : Ending) (w' : World) : Prop :=
  ∃ v s, e = .returned (.tuple #[v, errV q]) ∧ Own w' w.heap.size v s ∧ (q = 0 → rel s) ∧ (q ≠ 0 → s = []) ∧ s.length ≤ 13 ∧ Below w.heap.size w w'
def WorldSupers : Prop := ∀ (l : List ClassD) (q : Nat) (y : List UInt8) (A : Option Addr) (n c : Nat) (w : World), WorldIs l q → Tab w → ClassRow w A n c l → (A = none → n = 0 ∧ c = 0) → (∀ x ∈ l, x.upto 140737488351232) → (∀ x ∈ l, x.wf) → n ≤ 140737488351232 → y.length ≤ 140737488351232 →
  Calls Tryz.prog 30 #[.slice A n c, .string (bs y)] w (Lists w (namedQ l q y) (Chain l y))
def WorldAlls : Prop := ∀ (l : List ClassD) (q : Nat) (y : List UInt8) (A : Option Addr) (n c : Nat) (w : World), WorldIs l q → Tab w → ClassRow w A n c l → (A = none → n = 0 ∧ c = 0) → (∀ x ∈ l, x.upto 140737488351232) → (∀ x ∈ l, x.wf) → n ≤ 140737488351232 → y.length ≤ 140737488351232 →
  Calls Tryz.prog 18 #[.slice A n c, .string (bs y)] w (Lists w (namedQ l q y) (Sorted l y))
theorem namedQ_zero {l : List ClassD} {q : Nat} {y : List UInt8} : namedQ l q y = 0 ↔ q = 0 ∧ knownB l y = true := by
  unfold namedQ
  by_cases h : q = 0
  · subst h
    cases knownB l y <;> simp
  · simp [h]
end Go.Proofs.YtdpkjmdmmhnfnaaGreatDoor
