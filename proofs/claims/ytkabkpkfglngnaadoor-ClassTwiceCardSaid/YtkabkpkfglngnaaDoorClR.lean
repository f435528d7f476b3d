/- How the parts of a class lie in the memory, and classes in a list. -/
import Derived.Test.YtkabkpkfglngnaaDoorClM
import Derived.Test.YtkabkpkfglngnaaDoorCoR
import Derived.Test.YtkabkpkfglngnaaDoorStD
namespace Go.Proofs.YtkabkpkfglngnaaDoor
open Go.ChangeShapes Go.WideShapes Go.ChangeAt Go.RowKit
set_option linter.unusedVariables false

def StrAt (w : World) (b o : Nat) (x : List UInt8) : Prop := w.cell? ⟨b, o, none⟩ = some (.string (bs x))
def FieldAt (w : World) (b o : Nat) (x : FieldD) : Prop := w.cell? ⟨b, o, none⟩ = some (.string (bs x.nm)) ∧ w.cell? ⟨b, o + 1, none⟩ = some (.string (bs x.ty))
def HandAt (w : World) (b o : Nat) (x : HandD) : Prop :=
  w.cell? ⟨b, o, none⟩ = some (.int .i64 x.fr) ∧ w.cell? ⟨b, o + 1, none⟩ = some (.int .i64 x.tu) ∧ w.cell? ⟨b, o + 2, none⟩ = some (.int .i64 x.pos) ∧ w.cell? ⟨b, o + 3, none⟩ = some (.string (bs x.cl))
/-- A slice in a cell, and the list that it is. -/
def SlotAt {α : Type} (R : World → Option Addr → Nat → Nat → List α → Prop) (w : World) (b o : Nat) (l : List α) : Prop :=
  ∃ A n c, w.cell? ⟨b, o, none⟩ = some (.slice A n c) ∧ R w A n c l ∧ (A = none → n = 0 ∧ c = 0)
def HandRow (w : World) (A : Option Addr) (n c : Nat) (l : List HandD) : Prop := SRow HandAt 4 w A n c l
def MethAt (w : World) (b o : Nat) (m : MethD) : Prop :=
  w.cell? ⟨b, o, none⟩ = some (.string (bs m.nm)) ∧ w.cell? ⟨b, o + 1, none⟩ = some (.string (bs m.ty)) ∧ w.cell? ⟨b, o + 2, none⟩ = some (.bool m.st) ∧ w.cell? ⟨b, o + 3, none⟩ = some (.bool m.ab) ∧
  w.cell? ⟨b, o + 4, none⟩ = some (.bool m.pr) ∧ w.cell? ⟨b, o + 5, none⟩ = some (.int .i64 m.lo) ∧ SlotAt InsRow w b (o + 6) m.code ∧ SlotAt HandRow w b (o + 7) m.hs
def StrRow (w : World) (A : Option Addr) (n c : Nat) (l : List (List UInt8)) : Prop := SRow StrAt 1 w A n c l
def FieldRow (w : World) (A : Option Addr) (n c : Nat) (l : List FieldD) : Prop := SRow FieldAt 2 w A n c l
def MethRow (w : World) (A : Option Addr) (n c : Nat) (l : List MethD) : Prop := SRow MethAt 8 w A n c l
def ClassAt (w : World) (b o : Nat) (c : ClassD) : Prop :=
  w.cell? ⟨b, o, none⟩ = some (.string (bs c.nm)) ∧ w.cell? ⟨b, o + 1, none⟩ = some (.string (bs c.su)) ∧ SlotAt StrRow w b (o + 2) c.faces ∧ w.cell? ⟨b, o + 3, none⟩ = some (.bool c.face) ∧
  SlotAt FieldRow w b (o + 4) c.fields ∧ SlotAt MethRow w b (o + 5) c.meths
/-- The value of a class: its texts, and the slices of its lists. -/
def classV (c : ClassD) (A : Option Addr) (i j : Nat) (B : Option Addr) (k l : Nat) (C : Option Addr) (m n : Nat) : Value := .agg #[.string (bs c.nm), .string (bs c.su), .slice A i j, .bool c.face, .slice B k l, .slice C m n]
def ClassRow (w : World) (A : Option Addr) (n c : Nat) (l : List ClassD) : Prop := SRow ClassAt 6 w A n c l

section
variable {w w' : World}
theorem str_stays : Stays StrAt := fun h hb hB => (hB.cell (by exact hb)).trans h
theorem field_stays : Stays FieldAt := fun h hb hB => ⟨(hB.cell (by exact hb)).trans h.1, (hB.cell (by exact hb)).trans h.2⟩
theorem hand_stays : Stays HandAt := fun h hb hB => ⟨(hB.cell (by exact hb)).trans h.1, (hB.cell (by exact hb)).trans h.2.1, (hB.cell (by exact hb)).trans h.2.2.1, (hB.cell (by exact hb)).trans h.2.2.2⟩
theorem slot_stays {α : Type} {R : World → Option Addr → Nat → Nat → List α → Prop} (hR : ∀ {w w' : World} {A n c l}, R w A n c l → Below w.heap.size w w' → R w' A n c l) : Stays (SlotAt R) := fun h hb hB => by
  obtain ⟨A, n, c, h1, h2, h3⟩ := h
  exact ⟨A, n, c, (hB.cell (by exact hb)).trans h1, hR h2 hB, h3⟩
theorem HandRow.below {A n c l} (h : HandRow w A n c l) (hb : Below w.heap.size w w') : HandRow w' A n c l := SRow.below hand_stays h hb
theorem StrRow.below {A n c l} (h : StrRow w A n c l) (hb : Below w.heap.size w w') : StrRow w' A n c l := SRow.below str_stays h hb
theorem FieldRow.below {A n c l} (h : FieldRow w A n c l) (hb : Below w.heap.size w w') : FieldRow w' A n c l := SRow.below field_stays h hb
theorem meth_stays : Stays MethAt := fun h hb hB => by
  obtain ⟨h0, h1, h2, h3, h4, h5, h6, h7⟩ := h
  exact ⟨(hB.cell (by exact hb)).trans h0, (hB.cell (by exact hb)).trans h1, (hB.cell (by exact hb)).trans h2, (hB.cell (by exact hb)).trans h3, (hB.cell (by exact hb)).trans h4, (hB.cell (by exact hb)).trans h5,
    slot_stays (R := InsRow) InsRow.below h6 hb hB, slot_stays (R := HandRow) HandRow.below h7 hb hB⟩
theorem MethRow.below {A n c l} (h : MethRow w A n c l) (hb : Below w.heap.size w w') : MethRow w' A n c l := SRow.below meth_stays h hb
theorem class_stays : Stays ClassAt := fun h hb hB => by
  obtain ⟨h0, h1, h2, h3, h4, h5⟩ := h
  exact ⟨(hB.cell (by exact hb)).trans h0, (hB.cell (by exact hb)).trans h1, slot_stays (R := StrRow) StrRow.below h2 hb hB, (hB.cell (by exact hb)).trans h3, slot_stays (R := FieldRow) FieldRow.below h4 hb hB, slot_stays (R := MethRow) MethRow.below h5 hb hB⟩
theorem ClassRow.below {A n c l} (h : ClassRow w A n c l) (hb : Below w.heap.size w w') : ClassRow w' A n c l := SRow.below class_stays h hb
theorem StrRow.row {A n c l} (h : StrRow w A n c l) : Row w A n c (l.map strV) :=
  ⟨by rw [List.length_map]; exact h.1, h.2.1, fun hn => by
    obtain ⟨b, o, e, hb, hc⟩ := h.2.2 hn
    refine ⟨b, o, e, hb, fun j u hu => ?_⟩
    rw [List.getElem?_map, Option.map_eq_some_iff] at hu
    obtain ⟨x, hx, rfl⟩ := hu
    have := hc j x hx
    rw [Nat.mul_one] at this
    exact this⟩
end
end Go.Proofs.YtkabkpkfglngnaaDoor
