/- What package sub must say; law2.catIs. -/
import Derived.Test.YtnmfcckahglbbaaGreatDoorKiG
import Derived.Test.YtnmfcckahglbbaaGreatDoorGX
namespace Go.Proofs.YtnmfcckahglbbaaGreatDoor
open Go.ChangeShapes Go.WideShapes Go.ChangeAt Go.RowKit
set_option linter.unusedVariables false
attribute [local go_sem] eqGuard_errV_nil eqGuard_errV_iface eql_errV_nil neq_errV_nil eql_errV_form

/-- Which texts of kinds fit which. -/
def FitsT (l : List ClassD) (a b : List UInt8) : Prop := ∃ x y : KindD, x.ok ∧ y.ok ∧ x.text = a ∧ y.text = b ∧ FitsD l x y
theorem fitsT_iff {l : List ClassD} {x y : KindD} (hx : x.ok) (hy : y.ok) : FitsT l x.text y.text ↔ FitsD l x y := by
  constructor
  · rintro ⟨a, b, ha, hb, e1, e2, h⟩
    rw [text_inj ha hx e1, text_inj hb hy e2] at h
    exact h
  · exact fun h => ⟨x, y, hx, hy, rfl, rfl, h⟩
/-- What is wrong with two classes' names. -/
def isQ (l : List ClassD) (q : Nat) (a b : List UInt8) : Nat := if namedQ l q a ≠ 0 then namedQ l q a else namedQ l q b
def SubFits : Prop := ∀ (l : List ClassD) (q : Nat) (a b : List UInt8) (β : Bool) (A : Option Addr) (n c : Nat) (w : World), WorldIs l q → (β = true ↔ kindsQ l q a b = 0 ∧ FitsT l a b) → Tab w → ClassRow w A n c l → (A = none → n = 0 ∧ c = 0) →
  (∀ x ∈ l, x.upto 140737488351232) → (∀ x ∈ l, x.wf) → n ≤ 140737488351232 → a.length ≤ 140737488355328 → b.length ≤ 140737488355328 →
  Calls Tryz.prog 13 #[.slice A n c, .string (bs a), .string (bs b)] w fun e w' => e = .returned (.tuple #[.bool β, errV (kindsQ l q a b)]) ∧ Below w.heap.size w w'
theorem isQ_zero {l : List ClassD} {q : Nat} {a b : List UInt8} : isQ l q a b = 0 ↔ q = 0 ∧ knownB l a = true ∧ knownB l b = true := by
  unfold isQ
  by_cases h : namedQ l q a = 0
  · rw [if_neg (by simpa using h), namedQ_zero]
    have := namedQ_zero.1 h
    exact ⟨fun h' => ⟨h'.1, this.2, h'.2⟩, fun h' => ⟨h'.1, h'.2.2⟩⟩
  · rw [if_pos h]
    exact ⟨fun h' => absurd h' h, fun h' => absurd (namedQ_zero.2 ⟨h'.1, h'.2.1⟩) h⟩
end Go.Proofs.YtnmfcckahglbbaaGreatDoor
