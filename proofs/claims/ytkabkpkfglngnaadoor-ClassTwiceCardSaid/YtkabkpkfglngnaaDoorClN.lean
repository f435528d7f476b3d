/- What classF says, part by part; lists none of whose first elements has a fault. No program. -/
import Derived.Test.YtkabkpkfglngnaaDoorClM
namespace Go.Proofs.YtkabkpkfglngnaaDoor
open Go.RowKit
set_option linter.unusedVariables false

section
variable {c : ClassD}
def headB_ (c : ClassD) : Bool := nameB c.nm && (c.su == [] || nameB c.su)
theorem classF_name (h : headB_ c = false) : classF c = 1 := by unfold classF; exact if_pos h
theorem classF_face (h : headB_ c = true) (hf : firstAt faceF c.faces ≠ 0) : classF c = firstAt faceF c.faces := by unfold headB_ at h; unfold classF; rw [h, if_neg (by simp), if_pos hf]
theorem classF_full (h : headB_ c = true) (hf : firstAt faceF c.faces = 0) (h8 : 8 < c.faces.length ∨ 8 < c.fields.length ∨ 8 < c.meths.length) : classF c = 4 := by
  unfold headB_ at h; unfold classF; rw [h, if_neg (by simp), if_neg (by rw [hf]; simp), if_pos h8]
theorem classF_field (h : headB_ c = true) (hf : firstAt faceF c.faces = 0) (h8 : ¬ (8 < c.faces.length ∨ 8 < c.fields.length ∨ 8 < c.meths.length)) (hd : firstAt fieldF c.fields ≠ 0) : classF c = firstAt fieldF c.fields := by
  unfold headB_ at h; unfold classF; rw [h, if_neg (by simp), if_neg (by rw [hf]; simp), if_neg h8, if_pos hd]
theorem classF_meth (h : headB_ c = true) (hf : firstAt faceF c.faces = 0) (h8 : ¬ (8 < c.faces.length ∨ 8 < c.fields.length ∨ 8 < c.meths.length)) (hd : firstAt fieldF c.fields = 0) (hm : firstAt mtdF c.meths ≠ 0) : classF c = firstAt mtdF c.meths := by
  unfold headB_ at h; unfold classF; rw [h, if_neg (by simp), if_neg (by rw [hf]; simp), if_neg h8, if_neg (by rw [hd]; simp), if_pos hm]
theorem classF_end (h : headB_ c = true) (hf : firstAt faceF c.faces = 0) (h8 : ¬ (8 < c.faces.length ∨ 8 < c.fields.length ∨ 8 < c.meths.length)) (hd : firstAt fieldF c.fields = 0) (hm : firstAt mtdF c.meths = 0) : classF c = if (c.face && c.fields.length != 0) = true then 8 else 0 := by
  unfold headB_ at h; unfold classF; rw [h, if_neg (by simp), if_neg (by rw [hf]; simp), if_neg h8, if_neg (by rw [hd]; simp), if_neg (by rw [hm]; simp)]
end
/-- None of the first j elements has a fault. -/
def CleanTo {α : Type} (f : List α → α → Nat) (l : List α) (j : Nat) : Prop := ∀ (i : Nat) (hi : i < l.length), i < j → f (l.take i) l[i] = 0
theorem CleanTo.start {α : Type} (f : List α → α → Nat) (l : List α) : CleanTo f l 0 := fun i hi h => by omega
theorem CleanTo.next {α : Type} {f : List α → α → Nat} {l : List α} {j : Nat} (h : CleanTo f l j) (hj : j < l.length) (h0 : f (l.take j) l[j] = 0) : CleanTo f l (j + 1) := fun i hi hij => by
  by_cases e : i = j
  · subst e; exact h0
  · exact h i hi (by omega)
theorem CleanTo.fault {α : Type} {f : List α → α → Nat} {l : List α} {j : Nat} (h : CleanTo f l j) (hj : j < l.length) (hf : f (l.take j) l[j] ≠ 0) : firstAt f l = f (l.take j) l[j] := firstAt_at hj (fun i hi => h i (by omega) hi) hf
theorem CleanTo.all {α : Type} {f : List α → α → Nat} {l : List α} {n : Nat} (h : CleanTo f l n) (hn : l.length = n) : firstAt f l = 0 := firstAt_zero fun j hj => h j hj (by omega)

theorem head_cases {c : ClassD} : (nameB c.nm = false ∧ headB_ c = false) ∨ (nameB c.nm = true ∧ c.su = [] ∧ headB_ c = true) ∨ (nameB c.nm = true ∧ c.su ≠ [] ∧ nameB c.su = false ∧ headB_ c = false) ∨ (nameB c.nm = true ∧ c.su ≠ [] ∧ nameB c.su = true ∧ headB_ c = true) := by
  unfold headB_
  cases h1 : nameB c.nm with
  | false => exact .inl ⟨rfl, rfl⟩
  | true =>
    by_cases h2 : c.su = []
    · exact .inr (.inl ⟨rfl, h2, by simp [h2]⟩)
    · cases h3 : nameB c.su with
      | false => exact .inr (.inr (.inl ⟨rfl, h2, rfl, by simp [h2]⟩))
      | true => exact .inr (.inr (.inr ⟨rfl, h2, rfl, by simp⟩))
theorem faceF_name {pre : List (List UInt8)} {x : List UInt8} (h : nameB x = false) : faceF pre x = 1 := by unfold faceF; rw [if_pos h]
theorem faceF_twice {pre : List (List UInt8)} {x : List UInt8} (h : nameB x = true) (h2 : pre.any (· == x) = true) : faceF pre x = 5 := by unfold faceF; rw [h, if_neg (by simp), if_pos h2]
theorem faceF_none {pre : List (List UInt8)} {x : List UInt8} (h : nameB x = true) (h2 : pre.any (· == x) = false) : faceF pre x = 0 := by unfold faceF; rw [h, h2, if_neg (by simp), if_neg (by simp)]
theorem fieldF_bad {pre : List FieldD} {x : FieldD} (h : (nameB x.nm && isTypeB x.ty) = false) : fieldF pre x = 1 := by unfold fieldF; rw [if_pos h]
theorem fieldF_twice {pre : List FieldD} {x : FieldD} (h : (nameB x.nm && isTypeB x.ty) = true) (h2 : pre.any (fun y => y.nm == x.nm) = true) : fieldF pre x = 5 := by unfold fieldF; rw [h, if_neg (by simp), if_pos h2]
theorem fieldF_none {pre : List FieldD} {x : FieldD} (h : (nameB x.nm && isTypeB x.ty) = true) (h2 : pre.any (fun y => y.nm == x.nm) = false) : fieldF pre x = 0 := by unfold fieldF; rw [h, h2, if_neg (by simp), if_neg (by simp)]

theorem classF_zero {c : ClassD} : classF c = 0 ↔ headB_ c = true ∧ firstAt faceF c.faces = 0 ∧ ¬ (8 < c.faces.length ∨ 8 < c.fields.length ∨ 8 < c.meths.length) ∧ firstAt fieldF c.fields = 0 ∧ firstAt mtdF c.meths = 0 ∧ (c.face && c.fields.length != 0) = false := by
  constructor
  · intro h
    cases h1 : headB_ c with
    | false => rw [classF_name h1] at h; cases h
    | true =>
      by_cases h2 : firstAt faceF c.faces = 0
      · by_cases h3 : 8 < c.faces.length ∨ 8 < c.fields.length ∨ 8 < c.meths.length
        · rw [classF_full h1 h2 h3] at h; cases h
        · by_cases h4 : firstAt fieldF c.fields = 0
          · by_cases h5 : firstAt mtdF c.meths = 0
            · rw [classF_end h1 h2 h3 h4 h5] at h
              cases h6 : (c.face && c.fields.length != 0) with
              | true => rw [h6] at h; cases h
              | false => exact ⟨rfl, h2, h3, h4, h5, rfl⟩
            · rw [classF_meth h1 h2 h3 h4 h5] at h; exact absurd h h5
          · rw [classF_field h1 h2 h3 h4] at h; exact absurd h h4
      · rw [classF_face h1 h2] at h; exact absurd h h2
  · rintro ⟨h1, h2, h3, h4, h5, h6⟩
    rw [classF_end h1 h2 h3 h4 h5, h6]; rfl
theorem parts_meths {c : ClassD} (h : classF c = 0) (n : Nat) : classF ⟨c.nm, c.su, c.faces, c.face, c.fields, c.meths.take n⟩ = 0 := by
  obtain ⟨h1, h2, h3, h4, h5, h6⟩ := classF_zero.1 h
  exact classF_zero.2 ⟨h1, h2, by show ¬ (8 < c.faces.length ∨ 8 < c.fields.length ∨ 8 < (c.meths.take n).length); rw [List.length_take]; omega, h4, firstAt_take h5 n, h6⟩
theorem parts_fields {c : ClassD} (h : classF c = 0) (n : Nat) : classF ⟨c.nm, c.su, c.faces, c.face, c.fields.take n, c.meths⟩ = 0 := by
  obtain ⟨h1, h2, h3, h4, h5, h6⟩ := classF_zero.1 h
  refine classF_zero.2 ⟨h1, h2, by show ¬ (8 < c.faces.length ∨ 8 < (c.fields.take n).length ∨ 8 < c.meths.length); rw [List.length_take]; omega, firstAt_take h4 n, h5, ?_⟩
  show (c.face && (c.fields.take n).length != 0) = false
  cases hf : c.face with
  | false => rfl
  | true =>
    rw [hf, Bool.true_and, bne_eq_false_iff_eq] at h6
    rw [List.length_take, h6]; simp
theorem parts_faces {c : ClassD} (h : classF c = 0) (n : Nat) : classF ⟨c.nm, c.su, c.faces.take n, c.face, c.fields, c.meths⟩ = 0 := by
  obtain ⟨h1, h2, h3, h4, h5, h6⟩ := classF_zero.1 h
  exact classF_zero.2 ⟨h1, firstAt_take h2 n, by show ¬ (8 < (c.faces.take n).length ∨ 8 < c.fields.length ∨ 8 < c.meths.length); rw [List.length_take]; omega, h4, h5, h6⟩
end Go.Proofs.YtkabkpkfglngnaaDoor
