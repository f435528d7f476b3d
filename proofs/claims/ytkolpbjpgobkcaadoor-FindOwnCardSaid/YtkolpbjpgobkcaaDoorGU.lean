/- The reference's Upward: all that is above a class. The reference's joinedFault. -/
import Derived.Test.YtkolpbjpgobkcaaDoorGW
import Derived.Test.YtkolpbjpgobkcaaDoorGE
import Derived.Test.YtkolpbjpgobkcaaDoorClF
namespace Go.Proofs.YtkolpbjpgobkcaaDoor
open Go.ChangeShapes Go.WideShapes Go.ChangeAt Go.RowKit
set_option linter.unusedVariables false

/-- The list that is being gathered: all above the first j of them are in it. -/
def Gathered (l : List ClassD) (y : List UInt8) (out : List (List UInt8)) (j : Nat) : Prop :=
  out.Nodup ∧ (∀ x ∈ out, Up l y x) ∧ (∀ x ∈ upsOf l y, x ∈ out) ∧ ∀ (t : Nat) (ht : t < out.length), t < j → ∀ x ∈ upsOf l out[t], x ∈ out
theorem Gathered.len {l : List ClassD} {y : List UInt8} {out : List (List UInt8)} {j : Nat} (h : Gathered l y out j) (hJ : Joined l) : out.length ≤ 12 :=
  Nat.le_trans (nodup_le h.1 fun x hx => known_iff.1 (hJ.upKnown (h.2.1 x hx))) (names_len hJ.1)
theorem gathered_start {l : List ClassD} (hJ : Joined l) (y : List UInt8) : Gathered l y (upsOf l y) 0 :=
  ⟨(hJ.nodup y).1, fun x hx => .one hx, fun x hx => hx, fun t ht h => by omega⟩
theorem Gathered.put {l : List ClassD} {y x : List UInt8} {out : List (List UInt8)} {j : Nat} (h : Gathered l y out j) (hx : x ∉ out) (hj : j < out.length) (hu : x ∈ upsOf l out[j]) : Gathered l y (out ++ [x]) j := by
  obtain ⟨h1, h2, h3, h4⟩ := h
  refine ⟨nodup_more h1 hx, fun z hz => ?_, fun z hz => List.mem_append_left _ (h3 z hz), fun t ht htj z hz => ?_⟩
  · rcases List.mem_append.1 hz with hz | hz
    · exact h2 z hz
    · obtain rfl := List.mem_singleton.1 hz
      exact (h2 _ (List.getElem_mem hj)).more hu
  · rw [List.getElem_append_left (by omega)] at hz
    exact List.mem_append_left _ (h4 t (by omega) htj z hz)
theorem Gathered.next {l : List ClassD} {y : List UInt8} {out : List (List UInt8)} {j : Nat} (h : Gathered l y out j) (hj : j < out.length) (hu : ∀ x ∈ upsOf l out[j], x ∈ out) : Gathered l y out (j + 1) := by
  obtain ⟨h1, h2, h3, h4⟩ := h
  refine ⟨h1, h2, h3, fun t ht htj => ?_⟩
  by_cases e : t = j
  · subst e; exact hu
  · exact h4 t ht (by omega)
theorem Gathered.all {l : List ClassD} {y : List UInt8} {out : List (List UInt8)} {j : Nat} (h : Gathered l y out j) (hj : out.length ≤ j) (x : List UInt8) : x ∈ out ↔ Up l y x := by
  obtain ⟨h1, h2, h3, h4⟩ := h
  refine ⟨h2 x, fun hu => hu.within h3 fun z hz u hu => ?_⟩
  obtain ⟨t, ht, rfl⟩ := List.getElem_of_mem hz
  exact h4 t ht (by omega) u hu
/-- What Upward says. -/
def UpSays (w : World) (l : List ClassD) (y : List UInt8) (e : Ending) (w' : World) : Prop := ∃ out, out.Nodup ∧ (∀ x, x ∈ out ↔ Up l y x) ∧ out.length ≤ 12 ∧ Gives w out e w'

end Go.Proofs.YtkolpbjpgobkcaaDoor
namespace Go.Proofs.YtkolpbjpgobkcaaDoor
open Go.ChangeShapes Go.WideShapes Go.ChangeAt Go.RowKit
set_option linter.unusedVariables false

/-- A new block of one text, as a row of the call's own. -/
theorem own_lit (w : World) (base : Nat) (x : List UInt8) (hb : base ≤ w.heap.size) : Own (w.alloc (.cells #[.string (bs x)] 9)) base (.slice (some ⟨w.heap.size, 0, none⟩) 1 1) [x] :=
  ⟨rfl, .inr ⟨w.heap.size, 1, #[.string (bs x)], rfl, hb, heap_alloc_new w _, Nat.le_refl _, by unfold maxLen; omega, rfl, rfl⟩⟩
theorem own_lit2 (w : World) (o : Obj) (base : Nat) (x : List UInt8) (hb : base ≤ w.heap.size) : Own ((w.alloc o).alloc (.cells #[.string (bs x)] 9)) base (.slice (some ⟨w.heap.size + 1, 0, none⟩) 1 1) [x] := by
  have := own_lit (w.alloc o) base x (by simp; omega)
  rwa [show (w.alloc o).heap.size = w.heap.size + 1 by simp] at this
section
variable {l : List ClassD} {c : ClassD}
theorem linkF_bare (h : c.su = []) : linkF l c = 1 := by unfold linkF; rw [if_pos h]
theorem linkF_none (h : c.su ≠ []) {k : Nat} (hk : k < (c.su :: c.faces).length) (h1 : knownB l (c.su :: c.faces)[k] = false) : linkF l c = 3 := by
  unfold linkF
  rw [if_neg h, if_pos]
  rw [List.all_eq_false]
  exact ⟨_, List.getElem_mem hk, by rw [h1]; simp⟩
theorem linkF_type (h : c.su ≠ []) (h0 : ∀ x ∈ c.su :: c.faces, knownB l x = true) {k : Nat} (hk : k < (c.su :: c.faces).length) (h1 : faceB l (c.su :: c.faces)[k] ≠ decide (0 < k)) : linkF l c = 7 := by
  unfold linkF
  rw [if_neg h, if_neg (by rw [List.all_eq_true.2 h0]; simp), if_pos]
  cases k with
  | zero =>
    have : faceB l c.su = true := by simpa using h1
    rw [this, Bool.true_or]
  | succ k =>
    have h2 : faceB l (c.faces[k]'(by simpa using hk)) = false := by simpa using h1
    rw [Bool.or_eq_true]
    exact .inr (List.any_eq_true.2 ⟨_, List.getElem_mem _, by rw [h2]; rfl⟩)
theorem linkF_end (h : c.su ≠ []) (h0 : ∀ x ∈ c.su :: c.faces, knownB l x = true) (h1 : ∀ (k : Nat) (hk : k < (c.su :: c.faces).length), faceB l (c.su :: c.faces)[k] = decide (0 < k)) : linkF l c = if (c.face && c.su != objB) = true then 7 else 0 := by
  unfold linkF
  rw [if_neg h, if_neg (by rw [List.all_eq_true.2 h0]; simp), if_neg]
  have h2 : faceB l c.su = false := by have := h1 0 (by simp); simpa using this
  rw [h2, Bool.false_or, Bool.not_eq_true, List.any_eq_false]
  intro x hx
  obtain ⟨k, hk, rfl⟩ := List.getElem_of_mem hx
  have := h1 (k + 1) (by simpa using hk)
  simp only [List.getElem_cons_succ] at this
  rw [this]
  simp
end

end Go.Proofs.YtkolpbjpgobkcaaDoor
