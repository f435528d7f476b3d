/- Classes with an element twice: what is wrong with them; the cells of interfaces, fields, methods. -/
import Derived.Test.YthcjdkjjjlpjaaaDoorGH
import Derived.Test.YthcjdkjjjlpjaaaDoorGA
namespace Go.Proofs.YthcjdkjjjlpjaaaDoor
open Go.ChangeShapes Go.WideShapes Go.ChangeAt Go.RowKit
set_option linter.unusedVariables false

theorem str_copies : Copies StrAt 1 := fun {w b o x} h => ⟨[.string (bs x)], rfl, by simp [Value.oneCell'], fun i u hu => by
    match i, hu with
    | 0, hu => obtain rfl := Option.some.inj hu; exact h, fun hb hc => hc 0 _ rfl⟩
theorem field_copies : Copies FieldAt 2 := fun {w b o x} h => ⟨[.string (bs x.nm), .string (bs x.ty)], rfl, by simp [Value.oneCell'], fun i u hu => by
    match i, hu with
    | 0, hu => obtain rfl := Option.some.inj hu; exact h.1
    | 1, hu => obtain rfl := Option.some.inj hu; exact h.2, fun hb hc => ⟨hc 0 _ rfl, hc 1 _ rfl⟩⟩
theorem meth_copies : Copies MethAt 8 := fun {w b o m} h => by
  obtain ⟨h0, h1, h2, h3, h4, h5, ⟨A, n, c, h6, r6, k6⟩, ⟨B, k, d, h7, r7, k7⟩⟩ := h
  refine ⟨[.string (bs m.nm), .string (bs m.ty), .bool m.st, .bool m.ab, .bool m.pr, .int .i64 m.lo, .slice A n c, .slice B k d], rfl, by simp [Value.oneCell'], fun i u hu => ?_, fun hb hc => ?_⟩
  · match i, hu with
    | 0, hu => obtain rfl := Option.some.inj hu; exact h0
    | 1, hu => obtain rfl := Option.some.inj hu; exact h1
    | 2, hu => obtain rfl := Option.some.inj hu; exact h2
    | 3, hu => obtain rfl := Option.some.inj hu; exact h3
    | 4, hu => obtain rfl := Option.some.inj hu; exact h4
    | 5, hu => obtain rfl := Option.some.inj hu; exact h5
    | 6, hu => obtain rfl := Option.some.inj hu; exact h6
    | 7, hu => obtain rfl := Option.some.inj hu; exact h7
  · exact ⟨hc 0 _ rfl, hc 1 _ rfl, hc 2 _ rfl, hc 3 _ rfl, hc 4 _ rfl, hc 5 _ rfl, ⟨A, n, c, hc 6 _ rfl, r6.below hb, k6⟩, ⟨B, k, d, hc 7 _ rfl, r7.below hb, k7⟩⟩

theorem at_mem {α : Type} {f : List α → α → Nat} {l : List α} (h : firstAt f l = 0) {x : α} (hx : x ∈ l) : ∃ pre, f pre x = 0 := by
  obtain ⟨j, hj, rfl⟩ := List.getElem_of_mem hx
  exact ⟨_, firstAt_all h j hj⟩
theorem face_ok {pre : List (List UInt8)} {x : List UInt8} (h : faceF pre x = 0) : nameB x = true := by
  cases h1 : nameB x with
  | true => rfl
  | false => rw [faceF_name h1] at h; cases h
theorem field_ok {pre : List FieldD} {x : FieldD} (h : fieldF pre x = 0) : (nameB x.nm && isTypeB x.ty) = true := by
  cases h1 : (nameB x.nm && isTypeB x.ty) with
  | true => rfl
  | false => rw [fieldF_bad h1] at h; cases h
theorem meth_ok {pre : List MethD} {m : MethD} (h : mtdF pre m = 0) : (nameB m.nm && (methodB m.ty).isSome) = true := by
  cases h1 : (nameB m.nm && (methodB m.ty).isSome) with
  | true => rfl
  | false => unfold mtdF at h; rw [if_pos h1] at h; cases h
theorem twice_faces {c : ClassD} (h : classF c = 0) {x : List UInt8} (hx : x ∈ c.faces) : classF ⟨c.nm, c.su, c.faces ++ [x], c.face, c.fields, c.meths⟩ = 5 := by
  obtain ⟨h1, h2, h3, h4, h5, h6⟩ := classF_zero.1 h
  obtain ⟨pre, hp⟩ := at_mem h2 hx
  have e : firstAt faceF (c.faces ++ [x]) = 5 := by rw [firstAt_more x h2, faceF_twice (face_ok hp) (List.any_eq_true.2 ⟨x, hx, by simp⟩)]
  have := classF_face (c := ⟨c.nm, c.su, c.faces ++ [x], c.face, c.fields, c.meths⟩) h1 (by show firstAt faceF (c.faces ++ [x]) ≠ 0; rw [e]; decide)
  rw [this]; exact e
theorem twice_fields {c : ClassD} (h : classF c = 0) {x : FieldD} (hx : x ∈ c.fields) (h8 : c.fields.length < 8) : classF ⟨c.nm, c.su, c.faces, c.face, c.fields ++ [x], c.meths⟩ = 5 := by
  obtain ⟨h1, h2, h3, h4, h5, h6⟩ := classF_zero.1 h
  obtain ⟨pre, hp⟩ := at_mem h4 hx
  have e : firstAt fieldF (c.fields ++ [x]) = 5 := by rw [firstAt_more x h4, fieldF_twice (field_ok hp) (List.any_eq_true.2 ⟨x, hx, by simp⟩)]
  have := classF_field (c := ⟨c.nm, c.su, c.faces, c.face, c.fields ++ [x], c.meths⟩) h1 h2 (by show ¬ (8 < c.faces.length ∨ 8 < (c.fields ++ [x]).length ∨ 8 < c.meths.length); rw [List.length_append, List.length_singleton]; omega) (by show firstAt fieldF (c.fields ++ [x]) ≠ 0; rw [e]; decide)
  rw [this]; exact e
theorem twice_meths {c : ClassD} (h : classF c = 0) {x : MethD} (hx : x ∈ c.meths) (h8 : c.meths.length < 8) : classF ⟨c.nm, c.su, c.faces, c.face, c.fields, c.meths ++ [x]⟩ = 5 := by
  obtain ⟨h1, h2, h3, h4, h5, h6⟩ := classF_zero.1 h
  obtain ⟨pre, hp⟩ := at_mem h5 hx
  have e : firstAt mtdF (c.meths ++ [x]) = 5 := by
    rw [firstAt_more x h5]
    unfold mtdF
    rw [meth_ok hp, if_neg (by simp), if_pos (List.any_eq_true.2 ⟨x, hx, by simp⟩)]
  have := classF_meth (c := ⟨c.nm, c.su, c.faces, c.face, c.fields, c.meths ++ [x]⟩) h1 h2 (by show ¬ (8 < c.faces.length ∨ 8 < c.fields.length ∨ 8 < (c.meths ++ [x]).length); rw [List.length_append, List.length_singleton]; omega) h4 (by show firstAt mtdF (c.meths ++ [x]) ≠ 0; rw [e]; decide)
  rw [this]; exact e
end Go.Proofs.YthcjdkjjjlpjaaaDoor
