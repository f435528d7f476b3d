/- What package find looks for, on data: the first method of a list of classes, the interfaces among all classes. No program. -/
import Derived.Test.YtkolpbjpgobkcaaDoorGJ
import Derived.Test.YtkolpbjpgobkcaaDoorGX
namespace Go.Proofs.YtkolpbjpgobkcaaDoor
open Go.RowKit
set_option linter.unusedVariables false

/-- What given returns: the class of the name in the list itself. -/
def givenD (l : List ClassD) (x : List UInt8) : ClassD := (l.find? (fun c => c.nm == x)).getD zeroC
theorem given_lists {l : List ClassD} (h : Joined l) (x : List UInt8) : (givenD l x).fields = (classD l x).fields ∧ (givenD l x).meths = (classD l x).meths := by
  unfold givenD
  by_cases h1 : x = objB
  · have e : l.find? (fun c => c.nm == x) = none := by
      rw [List.find?_eq_none]
      intro c hc e
      obtain ⟨j, hj, rfl⟩ := List.getElem_of_mem hc
      have := (mem_class h.2.1 hj).2
      rw [eq_of_beq e, h1] at this
      unfold knownB at this
      rw [classOf_obj] at this
      cases this
    rw [e, h1, classD_some classOf_obj]
    exact ⟨rfl, rfl⟩
  · by_cases h2 : x = fltB
    · have e : l.find? (fun c => c.nm == x) = none := by
        rw [List.find?_eq_none]
        intro c hc e
        obtain ⟨j, hj, rfl⟩ := List.getElem_of_mem hc
        have := (mem_class h.2.1 hj).2
        rw [eq_of_beq e, h2] at this
        unfold knownB at this
        rw [classOf_flt] at this
        cases this
      rw [e, h2, classD_some classOf_flt]
      exact ⟨rfl, rfl⟩
    · unfold classD
      rw [classOf_find h1 h2]
      exact ⟨rfl, rfl⟩

/-- The first class of the list that has a method that p takes, and the method. -/
def firstM (l : List ClassD) (p : MethD → Bool) (e : List (List UInt8)) : Option (List UInt8 × MethD) := e.findSome? (fun x => ((classD l x).meths.find? p).map (fun m => (x, m)))
theorem findSome_congr {α β : Type} {f g : α → Option β} : ∀ {l : List α}, (∀ x ∈ l, f x = g x) → l.findSome? f = l.findSome? g
  | [], _ => rfl
  | a :: t, h => by
    rw [List.findSome?_cons, List.findSome?_cons, h a (by simp), findSome_congr fun x hx => h x (by simp [hx])]
/-- Where one element at most is taken by p, a narrower search finds it or none. -/
theorem find_two {α : Type} {p q : α → Bool} (hq : ∀ x, q x = true → p x = true) : ∀ {l : List α} {m : α}, l.Pairwise (fun a b => ¬ (p a = true ∧ p b = true)) → l.find? p = some m → l.find? q = if q m = true then some m else none
  | [], m, _, h => by cases h
  | a :: t, m, hu, h => by
    obtain ⟨h1, h2⟩ := List.pairwise_cons.1 hu
    cases hp : p a with
    | true =>
      rw [List.find?_cons_of_pos (by exact hp)] at h
      obtain rfl := Option.some.inj h
      cases hqa : q a with
      | true => rw [List.find?_cons_of_pos (by exact hqa)]; rfl
      | false =>
        rw [List.find?_cons_of_neg (by rw [hqa]; simp), if_neg (by simp), List.find?_eq_none]
        intro x hx hqx
        exact h1 x hx ⟨hp, hq x hqx⟩
    | false =>
      rw [List.find?_cons_of_neg (by rw [hp]; simp)] at h
      have hqa : q a = false := by
        cases e : q a with
        | false => rfl
        | true => rw [hq a e] at hp; cases hp
      rw [List.find?_cons_of_neg (by rw [hqa]; simp)]
      exact find_two hq h2 h
/-- No two methods of a class have the same name and type. -/
theorem meths_apart {l : List ClassD} (h : Joined l) (x n k : List UInt8) : (classD l x).meths.Pairwise (fun a b => ¬ ((a.nm == n && a.ty == k) = true ∧ (b.nm == n && b.ty == k) = true)) := by
  unfold classD
  cases hc : classOf l x with
  | none => exact List.Pairwise.nil
  | some c =>
    rcases classOf_in hc with ⟨_, rfl⟩ | ⟨_, rfl⟩ | ⟨hm, _⟩
    · exact List.Pairwise.nil
    · exact List.Pairwise.nil
    · obtain ⟨_, _, _, _, h5, _⟩ := classF_zero.1 (h.cls hm)
      show c.meths.Pairwise _
      rw [List.pairwise_iff_getElem]
      rintro i j hi hj hij ⟨e1, e2⟩
      have := firstAt_all h5 j hj
      unfold mtdF at this
      split at this
      · cases this
      · split at this
        · cases this
        · rename_i h6
          rw [Bool.and_eq_true, beq_iff_eq, beq_iff_eq] at e1 e2
          refine h6 (List.any_eq_true.2 ⟨c.meths[i], ?_, by rw [e1.1, e1.2, e2.1, e2.2]; simp⟩)
          rw [List.mem_take_iff_getElem]
          exact ⟨i, by omega, rfl⟩
/-- All that lies above a class is an interface, or one of its superclasses. -/
theorem up_face {l : List ClassD} (hJ : Joined l) {y : List UInt8} {s : List (List UInt8)} (hC : Chain l y s) {x : List UInt8} (h : Up l y x) : x ∈ s ∨ faceB l x = true := by
  have hob := hC.ends hJ
  have step : ∀ z, z ∈ s ∨ faceB l z = true → ∀ t ∈ upsOf l z, t ∈ s ∨ faceB l t = true := by
    intro z hz t ht
    cases hc : classOf l z with
    | none => unfold upsOf at ht; rw [hc] at ht; cases ht
    | some c =>
      rw [upsOf_some hc] at ht
      unfold ClassD.ups at ht
      rcases classOf_in hc with ⟨rfl, rfl⟩ | ⟨rfl, rfl⟩ | ⟨hm, rfl⟩
      · cases ht
      · refine .inl ?_
        have : t = objB := by simpa [fltC, objB] using ht
        rw [this]; exact hob
      · obtain ⟨l1, l2, l3, l4, l5⟩ := link_zero (hJ.link hm)
        rcases List.mem_append.1 ht with ht | ht
        · rw [if_neg l1] at ht
          obtain rfl := List.mem_singleton.1 ht
          rcases hz with hz | hz
          · obtain ⟨pre, u, e, hu⟩ := hC.tail_ _ hz
            cases hu with
            | top h' hs => rw [hc] at h'; obtain rfl := Option.some.inj h'; exact absurd hs l1
            | up h' hs k =>
              rw [hc] at h'; obtain rfl := Option.some.inj h'
              obtain ⟨u', rfl⟩ := k.pos
              exact .inl (by rw [e]; simp)
          · refine .inl ?_
            unfold faceB at hz
            rw [hc] at hz
            rw [l5 hz]; exact hob
        · exact .inr (l4 t ht)
  obtain ⟨u, rfl⟩ := hC.pos
  exact h.within (s := fun z => z ∈ y :: u ∨ faceB l z = true) (step y (.inl (by simp))) step
theorem first_none {l : List ClassD} {p : MethD → Bool} {e : List (List UInt8)} (h : firstM l p e = none) {x : List UInt8} (hx : x ∈ e) : (classD l x).meths.find? p = none := by
  unfold firstM at h
  rw [List.findSome?_eq_none_iff] at h
  have := h x hx
  rwa [Option.map_eq_none_iff] at this
/-- What is found where none of the superclasses has such a method. -/
theorem faces_is {l : List ClassD} (hJ : Joined l) {y : List UInt8} {s e : List (List UInt8)} (hC : Chain l y s) (hS : Sorted l y e) (n k : List UInt8) (h0 : methFirst l n k s = none) :
    foundFirst l n k s e = match firstM l (fun m => (m.nm == n && m.ty == k) && !m.ab) e with
      | some r => some r
      | none => firstM l (fun m => m.nm == n && m.ty == k) e := by
  have hface : ∀ x ∈ e, ∀ m, methIn n k (classD l x) = some m → (classD l x).face = true := by
    intro x hx m hm
    have hor : x ∈ s ∨ faceB l x = true := by
      rcases (hS.2 x).1 hx with rfl | h
      · obtain ⟨u, rfl⟩ := hC.pos
        exact .inl (by simp)
      · exact up_face hJ hC h
    rcases hor with h | h
    · have := first_none (p := fun m => m.nm == n && m.ty == k) h0 h
      unfold methIn at hm
      rw [hm] at this
      cases this
    · rwa [faceB_D] at h
  have h1 : ifaceFirst l n k false e = firstM l (fun m => (m.nm == n && m.ty == k) && !m.ab) e := by
    unfold ifaceFirst firstM
    refine findSome_congr fun x hx => ?_
    cases hm : methIn n k (classD l x) with
    | none =>
      have : (classD l x).meths.find? (fun m => (m.nm == n && m.ty == k) && !m.ab) = none := by
        unfold methIn at hm
        rw [List.find?_eq_none] at hm ⊢
        intro z hz hc
        rw [Bool.and_eq_true] at hc
        exact hm z hz hc.1
      rw [this]; rfl
    | some m =>
      have h2 := find_two (q := fun m => (m.nm == n && m.ty == k) && !m.ab) (fun x h => by rw [Bool.and_eq_true] at h; exact h.1) (meths_apart hJ x n k) hm
      have h3 : (m.nm == n && m.ty == k) = true := List.find?_some (p := fun m : MethD => m.nm == n && m.ty == k) hm
      rw [h2, h3, Bool.true_and]
      show (if ((classD l x).face && m.ab == false) = true then some (x, m) else none) = _
      rw [hface x hx m hm]
      cases m.ab <;> rfl
  unfold foundFirst
  rw [h0, h1]
  cases h4 : firstM l (fun m => (m.nm == n && m.ty == k) && !m.ab) e with
  | some r => rfl
  | none =>
    show ifaceFirst l n k true e = firstM l _ e
    unfold ifaceFirst firstM
    refine findSome_congr fun x hx => ?_
    have h5 := first_none h4 hx
    show _ = Option.map _ (methIn n k (classD l x))
    cases hm : methIn n k (classD l x) with
    | none => rfl
    | some m =>
      have h2 := find_two (q := fun m => (m.nm == n && m.ty == k) && !m.ab) (fun x h => by rw [Bool.and_eq_true] at h; exact h.1) (meths_apart hJ x n k) hm
      have h3 : (m.nm == n && m.ty == k) = true := List.find?_some (p := fun m : MethD => m.nm == n && m.ty == k) hm
      rw [h5, h3, Bool.true_and] at h2
      have h6 : m.ab = true := by
        cases e : m.ab with
        | true => rfl
        | false => rw [e] at h2; cases h2
      show (if ((classD l x).face && m.ab == true) = true then some (x, m) else none) = some (x, m)
      rw [hface x hx m hm, h6]
      rfl
end Go.Proofs.YtkolpbjpgobkcaaDoor
