/- The reference's NamedFault, Supers. -/
import Derived.Test.YtkolpbjpgobkcaaDoorWoF
namespace Go.Proofs.YtkolpbjpgobkcaaDoor
open Go.ChangeShapes Go.WideShapes Go.ChangeAt Go.RowKit
set_option linter.unusedVariables false

/-- What is wrong with a world and a name in it, where q is what is wrong with the world. -/
def namedQ (l : List ClassD) (q : Nat) (y : List UInt8) : Nat := if q ≠ 0 then q else if knownB l y = true then 0 else 3
/-! The classes that a class extends. -/
inductive Chain (l : List ClassD) : List UInt8 → List (List UInt8) → Prop
  | top {n : List UInt8} {c : ClassD} (h : classOf l n = some c) (hs : c.su = []) : Chain l n [n]
  | up {n : List UInt8} {c : ClassD} {t : List (List UInt8)} (h : classOf l n = some c) (hs : c.su ≠ []) (k : Chain l c.su t) : Chain l n (n :: t)
theorem Chain.one {l : List ClassD} {n : List UInt8} {s t : List (List UInt8)} (h : Chain l n s) (k : Chain l n t) : s = t := by
  induction h generalizing t with
  | top h hs =>
    cases k with
    | top _ _ => rfl
    | up h' hs' _ => rw [h] at h'; obtain rfl := Option.some.inj h'; exact absurd hs hs'
  | up h hs _ ih =>
    cases k with
    | top h' hs' => rw [h] at h'; obtain rfl := Option.some.inj h'; exact absurd hs' hs
    | up h' hs' k' => rw [h] at h'; obtain rfl := Option.some.inj h'; rw [ih k']
theorem su_up {l : List ClassD} {n : List UInt8} {c : ClassD} (h : classOf l n = some c) (hs : c.su ≠ []) : c.su ∈ upsOf l n := by
  rw [upsOf_some h]
  unfold ClassD.ups
  rw [if_neg hs]
  simp
theorem Chain.mem {l : List ClassD} {n : List UInt8} {s : List (List UInt8)} (h : Chain l n s) : ∀ x ∈ s, x = n ∨ Up l n x := by
  induction h with
  | top _ _ => intro x hx; exact .inl (List.mem_singleton.1 hx)
  | up h hs _ ih =>
    intro x hx
    rcases List.mem_cons.1 hx with rfl | hx
    · exact .inl rfl
    · rcases ih x hx with rfl | hu
      · exact .inr (.one (su_up h hs))
      · exact .inr (Up.ahead (su_up h hs) hu)
/-- In a right world nothing is above itself. -/
theorem Valid.no_loop {l : List ClassD} (h : Valid l) (n : List UInt8) : ¬ Up l n n := by
  intro hu
  have hk := h.1.upKnown hu
  obtain ⟨c, hc⟩ := known_some hk
  rcases classOf_in hc with ⟨rfl, rfl⟩ | ⟨rfl, rfl⟩ | ⟨hm, rfl⟩
  · have : ∀ x, ¬ Up l objB x := fun x hx => hx.within (s := fun _ => False) (fun z hz => by rw [upsOf_some hc] at hz; cases hz) (fun _ h => h.elim)
    exact this _ hu
  · have h1 : ∀ x, Up l fltB x → x = objB := fun x hx => hx.within (s := fun z => z = objB) (fun z hz => by
      rw [upsOf_some hc] at hz
      simpa [ClassD.ups, fltC, objB] using hz) (fun z hz y hy => by
      subst hz
      rw [upsOf_some classOf_obj] at hy
      cases hy)
    exact absurd (h1 _ hu) (by decide)
  · exact h.2 ⟨c, hm, hu⟩
theorem chain_from {l : List ClassD} (h : Valid l) : ∀ (k : Nat) (n : List UInt8) (pre : List (List UInt8)), knownB l n = true → pre.Nodup → (∀ x ∈ pre, knownB l x = true ∧ Up l x n) → pre.length + k = 12 → ∃ s, Chain l n s ∧ s.length ≤ k
  | 0, n, pre, hk, hn, hp, hlen => by
    exfalso
    have hnot : n ∉ pre := fun hm => h.no_loop n (hp n hm).2
    have := nodup_le (m := namesL l) (List.nodup_cons.2 ⟨hnot, hn⟩) fun x hx => by
      rcases List.mem_cons.1 hx with rfl | hx
      · exact known_iff.1 hk
      · exact known_iff.1 (hp x hx).1
    have h2 := names_len h.1.1
    simp only [List.length_cons] at this
    omega
  | k + 1, n, pre, hk, hn, hp, hlen => by
    have hnot : n ∉ pre := fun hm => h.no_loop n (hp n hm).2
    obtain ⟨c, hc⟩ := known_some hk
    by_cases hs : c.su = []
    · exact ⟨[n], .top hc hs, by simp⟩
    · have hu := su_up hc hs
      obtain ⟨s, h1, h2⟩ := chain_from h k c.su (n :: pre) (h.1.known hu) (List.nodup_cons.2 ⟨hnot, hn⟩) (fun x hx => by
        rcases List.mem_cons.1 hx with rfl | hx
        · exact ⟨hk, .one hu⟩
        · exact ⟨(hp x hx).1, (hp x hx).2.more hu⟩) (by simp only [List.length_cons]; omega)
      exact ⟨n :: s, .up hc hs h1, by simpa using h2⟩
theorem chain_is {l : List ClassD} (h : Valid l) {n : List UInt8} (hk : knownB l n = true) : ∃ s, Chain l n s ∧ s.length ≤ 12 := by
  exact chain_from h 12 n [] hk List.nodup_nil (fun x hx => by cases hx) rfl
theorem Chain.pos {l : List ClassD} {n : List UInt8} {s : List (List UInt8)} (h : Chain l n s) : ∃ t, s = n :: t := by
  cases h with
  | top _ _ => exact ⟨_, rfl⟩
  | up _ _ _ => exact ⟨_, rfl⟩
end Go.Proofs.YtkolpbjpgobkcaaDoor
