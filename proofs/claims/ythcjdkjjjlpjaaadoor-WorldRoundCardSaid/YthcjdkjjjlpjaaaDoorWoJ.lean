/- The reference's joinedFault. -/
import Derived.Test.YthcjdkjjjlpjaaaDoorWoA
import Derived.Test.YthcjdkjjjlpjaaaDoorGE
namespace Go.Proofs.YthcjdkjjjlpjaaaDoor
open Go.ChangeShapes Go.WideShapes Go.ChangeAt Go.RowKit
set_option linter.unusedVariables false

/-- A new block of one text, as a row of the call's own. -/
theorem own_lit (w : World) (base : Nat) (x : List UInt8) (hb : base ≤ w.heap.size) : Own (w.alloc (.cells #[.string (bs x)] 9)) base (.slice (some ⟨w.heap.size, 0, none⟩) 1 1) [x] :=
  ⟨rfl, .inr ⟨w.heap.size, 1, #[.string (bs x)], rfl, hb, heap_alloc_new w _, Nat.le_refl _, by unfold maxLen; omega, rfl, rfl⟩⟩
theorem own_lit2 (w : World) (o : Obj) (base : Nat) (x : List UInt8) (hb : base ≤ w.heap.size) : Own ((w.alloc o).alloc (.cells #[.string (bs x)] 9)) base (.slice (some ⟨w.heap.size + 1, 0, none⟩) 1 1) [x] := by
  have := own_lit (w.alloc o) base x (by simp; omega)
  rwa [show (w.alloc o).heap.size = w.heap.size + 1 by simp] at this
section
variable {l : List ClassD} {c : ClassD}
theorem linkF_bare (h : c.su = []) : linkF l c = 1 := by unfold linkF; rw [if_pos h]
theorem linkF_none (h : c.su ≠ []) {k : Nat} (hk : k < (c.su :: c.faces).length) (h1 : knownB l (c.su :: c.faces)[k] = false) : linkF l c = 3 := by
  unfold linkF
  rw [if_neg h, if_pos]
  rw [List.all_eq_false]
  exact ⟨_, List.getElem_mem hk, by rw [h1]; simp⟩
theorem linkF_type (h : c.su ≠ []) (h0 : ∀ x ∈ c.su :: c.faces, knownB l x = true) {k : Nat} (hk : k < (c.su :: c.faces).length) (h1 : faceB l (c.su :: c.faces)[k] ≠ decide (0 < k)) : linkF l c = 7 := by
  unfold linkF
  rw [if_neg h, if_neg (by rw [List.all_eq_true.2 h0]; simp), if_pos]
  cases k with
  | zero =>
    have : faceB l c.su = true := by simpa using h1
    rw [this, Bool.true_or]
  | succ k =>
    have h2 : faceB l (c.faces[k]'(by simpa using hk)) = false := by simpa using h1
    rw [Bool.or_eq_true]
    exact .inr (List.any_eq_true.2 ⟨_, List.getElem_mem _, by rw [h2]; rfl⟩)
theorem linkF_end (h : c.su ≠ []) (h0 : ∀ x ∈ c.su :: c.faces, knownB l x = true) (h1 : ∀ (k : Nat) (hk : k < (c.su :: c.faces).length), faceB l (c.su :: c.faces)[k] = decide (0 < k)) : linkF l c = if (c.face && c.su != objB) = true then 7 else 0 := by
  unfold linkF
  rw [if_neg h, if_neg (by rw [List.all_eq_true.2 h0]; simp), if_neg]
  have h2 : faceB l c.su = false := by have := h1 0 (by simp); simpa using this
  rw [h2, Bool.false_or, Bool.not_eq_true, List.any_eq_false]
  intro x hx
  obtain ⟨k, hk, rfl⟩ := List.getElem_of_mem hx
  have := h1 (k + 1) (by simpa using hk)
  simp only [List.getElem_cons_succ] at this
  rw [this]
  simp
end

end Go.Proofs.YthcjdkjjjlpjaaaDoor
