/- The reference's Upward: all that is above a class. -/
import Derived.Test.YthcjdkjjjlpjaaaDoorWoA
import Derived.Test.YthcjdkjjjlpjaaaDoorGE
namespace Go.Proofs.YthcjdkjjjlpjaaaDoor
open Go.ChangeShapes Go.WideShapes Go.ChangeAt Go.RowKit
set_option linter.unusedVariables false

/-- The list that is being gathered: all above the first j of them are in it. -/
def Gathered (l : List ClassD) (y : List UInt8) (out : List (List UInt8)) (j : Nat) : Prop :=
  out.Nodup ∧ (∀ x ∈ out, Up l y x) ∧ (∀ x ∈ upsOf l y, x ∈ out) ∧ ∀ (t : Nat) (ht : t < out.length), t < j → ∀ x ∈ upsOf l out[t], x ∈ out
theorem Gathered.len {l : List ClassD} {y : List UInt8} {out : List (List UInt8)} {j : Nat} (h : Gathered l y out j) (hJ : Joined l) : out.length ≤ 12 :=
  Nat.le_trans (nodup_le h.1 fun x hx => known_iff.1 (hJ.upKnown (h.2.1 x hx))) (names_len hJ.1)
theorem gathered_start {l : List ClassD} (hJ : Joined l) (y : List UInt8) : Gathered l y (upsOf l y) 0 :=
  ⟨(hJ.nodup y).1, fun x hx => .one hx, fun x hx => hx, fun t ht h => by omega⟩
theorem Gathered.put {l : List ClassD} {y x : List UInt8} {out : List (List UInt8)} {j : Nat} (h : Gathered l y out j) (hx : x ∉ out) (hj : j < out.length) (hu : x ∈ upsOf l out[j]) : Gathered l y (out ++ [x]) j := by
  obtain ⟨h1, h2, h3, h4⟩ := h
  refine ⟨nodup_more h1 hx, fun z hz => ?_, fun z hz => List.mem_append_left _ (h3 z hz), fun t ht htj z hz => ?_⟩
  · rcases List.mem_append.1 hz with hz | hz
    · exact h2 z hz
    · obtain rfl := List.mem_singleton.1 hz
      exact (h2 _ (List.getElem_mem hj)).more hu
  · rw [List.getElem_append_left (by omega)] at hz
    exact List.mem_append_left _ (h4 t (by omega) htj z hz)
theorem Gathered.next {l : List ClassD} {y : List UInt8} {out : List (List UInt8)} {j : Nat} (h : Gathered l y out j) (hj : j < out.length) (hu : ∀ x ∈ upsOf l out[j], x ∈ out) : Gathered l y out (j + 1) := by
  obtain ⟨h1, h2, h3, h4⟩ := h
  refine ⟨h1, h2, h3, fun t ht htj => ?_⟩
  by_cases e : t = j
  · subst e; exact hu
  · exact h4 t ht (by omega)
theorem Gathered.all {l : List ClassD} {y : List UInt8} {out : List (List UInt8)} {j : Nat} (h : Gathered l y out j) (hj : out.length ≤ j) (x : List UInt8) : x ∈ out ↔ Up l y x := by
  obtain ⟨h1, h2, h3, h4⟩ := h
  refine ⟨h2 x, fun hu => hu.within h3 fun z hz u hu => ?_⟩
  obtain ⟨t, ht, rfl⟩ := List.getElem_of_mem hz
  exact h4 t ht (by omega) u hu
/-- What Upward says. -/
def UpSays (w : World) (l : List ClassD) (y : List UInt8) (e : Ending) (w' : World) : Prop := ∃ out, out.Nodup ∧ (∀ x, x ∈ out ↔ Up l y x) ∧ out.length ≤ 12 ∧ Gives w out e w'

end Go.Proofs.YthcjdkjjjlpjaaaDoor
