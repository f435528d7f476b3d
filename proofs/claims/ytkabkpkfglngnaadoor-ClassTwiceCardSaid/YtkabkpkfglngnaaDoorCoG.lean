/- Right instructions: their words are short; the first fault of a list's instructions. No program. -/
import Derived.Test.YtkabkpkfglngnaaDoorInM2
namespace Go.Proofs.YtkabkpkfglngnaaDoor
open Go.RowKit
set_option linter.unusedVariables false

/-- A right instruction. -/
def InsD.good (x : InsD) : Prop := x.wf ∧ insF x = 0

theorem good_len {x : InsD} (hx : x.good) : x.ty.length ≤ 160 ∧ x.cl.length ≤ 20 ∧ x.nm.length ≤ 20 := by
  obtain ⟨hw, h⟩ := hx
  obtain ⟨k, hx, h0, hk, ho, hr, ht, hn⟩ := insF_zero h
  unfold namedB at hn
  unfold onlyB at ho
  simp only [Bool.and_eq_true, Bool.or_eq_true] at hn ho
  obtain ⟨⟨⟨_, ot⟩, oc⟩, on⟩ := ho
  have e0 : ∀ {l : List UInt8} {n : Nat}, (l == []) = true → l.length ≤ n := fun h => by rw [eq_of_beq h]; exact Nat.zero_le _
  refine ⟨?_, ?_, ?_⟩
  · rcases ot with h | h
    · exact e0 h
    · exact (typed_form hx hk h ht).2
  · rcases oc with h | h
    · exact e0 h
    · exact name_len (by have := hn.1; rw [h] at this; simpa using this)
  · rcases on with h | h
    · exact e0 h
    · exact name_len (by have := hn.2; rw [h] at this; simpa using this)
theorem good_fits {x : InsD} (hx : x.good) : x.fits := by
  obtain ⟨h1, h2, h3⟩ := good_len hx
  exact ⟨by omega, by omega, by omega⟩

/-- The first fault of a list's instructions. -/
def firstF : List InsD → Nat
  | [] => 0
  | x :: r => if insF x = 0 then firstF r else insF x
theorem firstF_zero : ∀ {l : List InsD}, firstF l = 0 → ∀ x ∈ l, insF x = 0
  | [], _, x, hx => by cases hx
  | y :: r, h, x, hx => by
    unfold firstF at h
    split at h
    · rename_i h0
      rcases List.mem_cons.1 hx with rfl | hx
      · exact h0
      · exact firstF_zero h x hx
    · rename_i h0; exact absurd h h0
theorem firstF_skip : ∀ {l : List InsD} (r : List InsD), (∀ x ∈ l, insF x = 0) → firstF (l ++ r) = firstF r
  | [], r, _ => rfl
  | y :: t, r, h => by
    show (if insF y = 0 then firstF (t ++ r) else insF y) = _
    rw [if_pos (h y (List.mem_cons_self ..))]
    exact firstF_skip r (fun x hx => h x (List.mem_cons_of_mem _ hx))
theorem firstF_nil {l : List InsD} (h : ∀ x ∈ l, insF x = 0) : firstF l = 0 := by
  have := firstF_skip [] h
  rwa [List.append_nil] at this
/-- The first fault, where those ahead have none. -/
theorem firstF_at {l : List InsD} {j : Nat} (hj : j < l.length) (h : ∀ x ∈ l.take j, insF x = 0) (hf : insF l[j] ≠ 0) : firstF l = insF l[j] := by
  have e : l.take j ++ (l[j] :: l.drop (j + 1)) = l := by
    rw [← List.drop_eq_getElem_cons hj, List.take_append_drop]
  have := firstF_skip (l[j] :: l.drop (j + 1)) h
  rw [e] at this
  rw [this]
  show (if insF l[j] = 0 then _ else _) = _
  rw [if_neg hf]
theorem first_bad {l : List InsD} (h : firstF l ≠ 0) : ∃ j, ∃ hj : j < l.length, (∀ x ∈ l.take j, insF x = 0) ∧ insF l[j] ≠ 0 ∧ firstF l = insF l[j] := by
  induction l with
  | nil => exact absurd rfl h
  | cons x r ih =>
    by_cases hx : insF x = 0
    · have e : firstF (x :: r) = firstF r := by show (if insF x = 0 then _ else _) = _; rw [if_pos hx]
      obtain ⟨j, hj, h1, h2, h3⟩ := ih (by rw [← e]; exact h)
      refine ⟨j + 1, by simpa using hj, fun y hy => ?_, by simpa using h2, by rw [e, h3]; simp⟩
      rw [List.take_succ_cons] at hy
      rcases List.mem_cons.1 hy with rfl | hy
      · exact hx
      · exact h1 y hy
    · exact ⟨0, by simp, fun y hy => (by cases hy), hx, by show (if insF x = 0 then _ else _) = _; rw [if_neg hx]; rfl⟩
end Go.Proofs.YtkabkpkfglngnaaDoor
