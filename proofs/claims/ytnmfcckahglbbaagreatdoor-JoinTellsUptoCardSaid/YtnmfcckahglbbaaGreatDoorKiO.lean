/- The walk of coffeehouselaw2.SubOrder, from what package sub says. -/
import Derived.Test.YtnmfcckahglbbaaGreatDoorKiK
namespace Go.Proofs.YtnmfcckahglbbaaGreatDoor
open Go.ChangeShapes Go.WideShapes Go.ChangeAt Go.RowKit
set_option linter.unusedVariables false
attribute [local go_sem] eqGuard_errV_nil eqGuard_errV_iface eql_errV_nil neq_errV_nil eql_errV_form

theorem bool_is (P : Prop) : ∃ β : Bool, β = true ↔ P := by
  classical exact ⟨decide P, by simp⟩
theorem kindsQ_zero {l : List ClassD} {q : Nat} {a b : List UInt8} : kindsQ l q a b = 0 ↔ q = 0 ∧ kindE l a = 0 ∧ kindE l b = 0 := by
  unfold kindsQ
  rcases kindE_le l a with h | h | h <;> rcases kindE_le l b with h' | h' | h' <;> by_cases hq : q = 0 <;> simp [h, h', hq]
/-- What the order's facts are. -/
theorem order_facts {l : List ClassD} {q : Nat} (hq : WorldIs l q) {a b c : List UInt8} {aa ab ba bc ac : Bool}
    (haa : aa = true ↔ kindsQ l q a a = 0 ∧ FitsT l a a) (hab : ab = true ↔ kindsQ l q a b = 0 ∧ FitsT l a b) (hba : ba = true ↔ kindsQ l q b a = 0 ∧ FitsT l b a)
    (hbc : bc = true ↔ kindsQ l q b c = 0 ∧ FitsT l b c) (hac : ac = true ↔ kindsQ l q a c = 0 ∧ FitsT l a c)
    (h1 : kindsQ l q a a = 0) (h2 : kindsQ l q a b = 0) (h4 : kindsQ l q b c = 0) :
    aa = true ∧ (ab = true → bc = true → ac = true) ∧ (ab = true → ba = true → a = b) := by
  obtain ⟨hq0, ha, hb⟩ := kindsQ_zero.1 h2
  obtain ⟨-, -, hc⟩ := kindsQ_zero.1 h4
  have hV : Valid l := worldIs_zero (by rw [hq0] at hq; exact hq)
  obtain ⟨x, hx, rfl⟩ := kind_is (w := l) (l := a) (by omega)
  obtain ⟨y, hy, rfl⟩ := kind_is (w := l) (l := b) (by omega)
  obtain ⟨z, hz, rfl⟩ := kind_is (w := l) (l := c) (by omega)
  rw [fitsT_iff hx hx] at haa
  rw [fitsT_iff hx hy] at hab
  rw [fitsT_iff hy hx] at hba
  rw [fitsT_iff hy hz] at hbc
  rw [fitsT_iff hx hz] at hac
  refine ⟨haa.2 ⟨h1, .refl l x⟩, fun h h' => hac.2 ⟨kindsQ_zero.2 ⟨hq0, ha, hc⟩, (hab.1 h).2.trans (hbc.1 h').2⟩, fun h h' => ?_⟩
  rw [FitsD.anti hV (hab.1 h).2 (hba.1 h').2]
end Go.Proofs.YtnmfcckahglbbaaGreatDoor
