/- What package sub must say; law2.catIs. -/
import Derived.Test.YtdpkjmdmmhnfnaaGreatDoorKiG
import Derived.Test.YtdpkjmdmmhnfnaaGreatDoorWoB
namespace Go.Proofs.YtdpkjmdmmhnfnaaGreatDoor
open Go.ChangeShapes Go.WideShapes Go.ChangeAt Go.RowKit
set_option linter.unusedVariables false
attribute [local go_sem] eqGuard_errV_nil eqGuard_errV_iface eql_errV_nil neq_errV_nil eql_errV_form

/-- Which texts of kinds fit which. -/
def FitsT (l : List ClassD) (a b : List UInt8) : Prop := ∃ x y : KindD, x.ok ∧ y.ok ∧ x.text = a ∧ y.text = b ∧ FitsD l x y
theorem fitsT_iff {l : List ClassD} {x y : KindD} (hx : x.ok) (hy : y.ok) : FitsT l x.text y.text ↔ FitsD l x y := by
  constructor
  · rintro ⟨a, b, ha, hb, e1, e2, h⟩
    rw [text_inj ha hx e1, text_inj hb hy e2] at h
    exact h
  · exact fun h => ⟨x, y, hx, hy, rfl, rfl, h⟩
/-- What is wrong with two classes' names. -/
def isQ (l : List ClassD) (q : Nat) (a b : List UInt8) : Nat := if namedQ l q a ≠ 0 then namedQ l q a else namedQ l q b
def SubFits : Prop := ∀ (l : List ClassD) (q : Nat) (a b : List UInt8) (β : Bool) (A : Option Addr) (n c : Nat) (w : World), WorldIs l q → (β = true ↔ kindsQ l q a b = 0 ∧ FitsT l a b) → Tab w → ClassRow w A n c l → (A = none → n = 0 ∧ c = 0) →
  (∀ x ∈ l, x.upto 140737488351232) → (∀ x ∈ l, x.wf) → n ≤ 140737488351232 → a.length ≤ 140737488355328 → b.length ≤ 140737488355328 →
  Calls Tryz.prog 9 #[.slice A n c, .string (bs a), .string (bs b)] w fun e w' => e = .returned (.tuple #[.bool β, errV (kindsQ l q a b)]) ∧ Below w.heap.size w w'
def SubIs : Prop := ∀ (l : List ClassD) (q : Nat) (a b : List UInt8) (β : Bool) (A : Option Addr) (n c : Nat) (w : World), WorldIs l q → (β = true ↔ isQ l q a b = 0 ∧ (b = a ∨ Up l a b)) → Tab w → ClassRow w A n c l → (A = none → n = 0 ∧ c = 0) →
  (∀ x ∈ l, x.upto 140737488351232) → (∀ x ∈ l, x.wf) → n ≤ 140737488351232 → a.length ≤ 140737488351232 → b.length ≤ 140737488351232 →
  Calls Tryz.prog 13 #[.slice A n c, .string (bs a), .string (bs b)] w fun e w' => e = .returned (.tuple #[.bool β, errV (isQ l q a b)]) ∧ Below w.heap.size w w'
theorem isQ_zero {l : List ClassD} {q : Nat} {a b : List UInt8} : isQ l q a b = 0 ↔ q = 0 ∧ knownB l a = true ∧ knownB l b = true := by
  unfold isQ
  by_cases h : namedQ l q a = 0
  · rw [if_neg (by simpa using h), namedQ_zero]
    have := namedQ_zero.1 h
    exact ⟨fun h' => ⟨h'.1, this.2, h'.2⟩, fun h' => ⟨h'.1, h'.2.2⟩⟩
  · rw [if_pos h]
    exact ⟨fun h' => absurd h' h, fun h' => absurd (namedQ_zero.2 ⟨h'.1, h'.2.1⟩) h⟩
theorem cat_is (K : SubIs) (b : Nat) (W : World) (T : Tab W) (R : ClassRow W (some ⟨b, 0, none⟩) 2 2 beastL) :
    Calls Tryz.prog 13 #[.slice (some ⟨b, 0, none⟩) 2 2, .string ⟨#[67, 97, 116]⟩, .string ⟨#[66, 101, 97, 115, 116]⟩] W fun e w' => e = .returned (.tuple #[.bool true, .nilIface]) ∧ Below W.heap.size W w' :=
  (K beastL 0 catB beastB true (some ⟨b, 0, none⟩) 2 2 W beast_is ⟨fun _ => ⟨by decide, .inr (.one (by decide))⟩, fun _ => rfl⟩ T R (fun h => by cases h) upto_beast wf_beast (by decide) (by decide) (by decide)).mono fun e w' ⟨h1, h2⟩ => ⟨by rw [h1]; rfl, h2⟩
theorem cat_not (K : SubIs) (b : Nat) (W : World) (T : Tab W) (R : ClassRow W (some ⟨b, 0, none⟩) 2 2 beastL) :
    Calls Tryz.prog 13 #[.slice (some ⟨b, 0, none⟩) 2 2, .string ⟨#[66, 101, 97, 115, 116]⟩, .string ⟨#[67, 97, 116]⟩] W fun e w' => e = .returned (.tuple #[.bool false, .nilIface]) ∧ Below W.heap.size W w' :=
  (K beastL 0 beastB catB false (some ⟨b, 0, none⟩) 2 2 W beast_is ⟨fun h => (by cases h), fun h => by
    rcases h.2 with h | h
    · exact absurd h (by decide)
    · exact absurd (beast_up h) (by decide)⟩ T R (fun h => by cases h) upto_beast wf_beast (by decide) (by decide) (by decide)).mono fun e w' ⟨h1, h2⟩ => ⟨by rw [h1]; rfl, h2⟩
set_option maxRecDepth 20000 in
set_option maxHeartbeats 2000000 in
theorem catIs_any (K : SubIs) (w : World) (T : Tab w) : Calls Tryz.prog 7 #[] w fun e w' => e = .returned (.bool true) ∧ Below w.heap.size w w' := by
  have H1 := Lib.hid (fun b W T R => cat_is K b W T R)
  have H2 := Lib.hid (fun b W T R => cat_not K b W T R)
  have HT := Lib.hid T
  clear K T
  go_enter Tryz.func7, Tryz.ntmps7
  go_wp2_with (first
    | (go_at_call 13; (with_reducible refine (H1.out _ _ (HT.out.below HB1.out) HR1.out).mono ?_); rintro e w2 ⟨rfl, hb⟩
       have HB2 := Lib.hid (bnext HB1.out hb)
       clear hb)
    | (go_at_call 13; (with_reducible refine (H2.out _ _ (HT.out.below HB3.out) HR3.out).mono ?_); rintro e w4 ⟨rfl, hb⟩
       have HB4 := Lib.hid (bnext HB3.out hb)
       clear hb)
    | (go_at_call 19; (with_reducible refine (beasts_any w).mono ?_); rintro e w1 ⟨rfl, hr, hb⟩
       have HR1 := Lib.hid hr
       have HB1 := Lib.hid hb
       clear hr hb)
    | (go_at_call 19; (with_reducible refine (beasts_any _).mono ?_); rintro e w3 ⟨rfl, hr, hb⟩
       have HR3 := Lib.hid hr
       have HB3 := Lib.hid (bnext HB2.out hb)
       clear hr hb))
  go_ret
  exact ⟨rfl, HB4.out⟩
end Go.Proofs.YtdpkjmdmmhnfnaaGreatDoor
