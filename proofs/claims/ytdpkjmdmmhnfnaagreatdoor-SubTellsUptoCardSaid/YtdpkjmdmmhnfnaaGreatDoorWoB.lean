/- law2.beasts; what a list with an error says. -/
import Derived.Test.YtdpkjmdmmhnfnaaGreatDoorWoK
namespace Go.Proofs.YtdpkjmdmmhnfnaaGreatDoor
open Go.ChangeShapes Go.WideShapes Go.ChangeAt Go.RowKit
set_option linter.unusedVariables false
attribute [local go_sem] eqGuard_errV_nil eqGuard_errV_iface eql_errV_nil neq_errV_nil eql_errV_form

def catB : List UInt8 := [67, 97, 116]
def beastB : List UInt8 := [66, 101, 97, 115, 116]
def beastL : List ClassD := [⟨catB, beastB, [], false, [], []⟩, ⟨beastB, objB, [], false, [], []⟩]
theorem beast_joined : Joined beastL := ⟨by decide, by decide, by decide⟩
theorem beast_up {x : List UInt8} (h : Up beastL beastB x) : x = objB := h.within (s := fun z => z = objB) (fun z hz => by
    have : upsOf beastL beastB = [objB] := by decide
    rw [this] at hz
    exact List.mem_singleton.1 hz) (fun z hz y hy => by
    subst hz
    have : upsOf beastL objB = [] := by decide
    rw [this] at hy
    cases hy)
theorem cat_up {x : List UInt8} (h : Up beastL catB x) : x = beastB ∨ x = objB := h.within (s := fun z => z = beastB ∨ z = objB) (fun z hz => by
    have : upsOf beastL catB = [beastB] := by decide
    rw [this] at hz
    exact .inl (List.mem_singleton.1 hz)) (fun z hz y hy => by
    rcases hz with rfl | rfl
    · exact .inr (beast_up (.one hy))
    · have : upsOf beastL objB = [] := by decide
      rw [this] at hy
      cases hy)
theorem beast_valid : Valid beastL := ⟨beast_joined, fun ⟨c, hc, h⟩ => by
  rcases List.mem_cons.1 hc with rfl | hc
  · rcases cat_up h with h | h
    · exact absurd h (by decide)
    · exact absurd h (by decide)
  · obtain rfl := List.mem_singleton.1 hc
    exact absurd (beast_up h) (by decide)⟩
theorem beast_is : WorldIs beastL 0 := .inr (.inr (.inr (.inr ⟨beast_valid.1, beast_valid.2, rfl⟩)))
theorem cat_chain : Chain beastL catB [catB, beastB, objB] :=
  .up (c := ⟨catB, beastB, [], false, [], []⟩) (by decide) (by decide) (.up (c := ⟨beastB, objB, [], false, [], []⟩) (by decide) (by decide) (.top (c := objC) (by decide) rfl))
set_option maxRecDepth 20000 in
set_option maxHeartbeats 2000000 in
theorem beasts_any (w : World) : Calls Tryz.prog 19 #[] w fun e w' => e = .returned (.slice (some ⟨w.heap.size, 0, none⟩) 2 2) ∧ ClassRow w' (some ⟨w.heap.size, 0, none⟩) 2 2 beastL ∧ Below w.heap.size w w' := by
  go_enter Tryz.func19, Tryz.ntmps19
  go_wp2
  go_ret
  refine ⟨rfl, ⟨rfl, Nat.le_refl _, fun _ => ⟨_, _, rfl, by simp, fun j x hx => ?_⟩⟩, al1 _ _⟩
  have hs : ∀ (W : World) (b o : Nat), W.cell? ⟨b, o, none⟩ = some (.slice none 0 0) → SlotAt StrRow W b o [] ∧ SlotAt FieldRow W b o [] ∧ SlotAt MethRow W b o [] := fun W b o h =>
    ⟨⟨none, 0, 0, h, SRow.nil_ _ _ _, fun _ => ⟨rfl, rfl⟩⟩, ⟨none, 0, 0, h, SRow.nil_ _ _ _, fun _ => ⟨rfl, rfl⟩⟩, ⟨none, 0, 0, h, SRow.nil_ _ _ _, fun _ => ⟨rfl, rfl⟩⟩⟩
  match j, hx with
  | 0, hx =>
    obtain rfl := Option.some.inj hx
    exact ⟨World.cell?_alloc_mark .., World.cell?_alloc_mark .., (hs _ _ _ (World.cell?_alloc_mark ..)).1, World.cell?_alloc_mark .., (hs _ _ _ (World.cell?_alloc_mark ..)).2.1, (hs _ _ _ (World.cell?_alloc_mark ..)).2.2⟩
  | 1, hx =>
    obtain rfl := Option.some.inj hx
    exact ⟨World.cell?_alloc_mark .., World.cell?_alloc_mark .., (hs _ _ _ (World.cell?_alloc_mark ..)).1, World.cell?_alloc_mark .., (hs _ _ _ (World.cell?_alloc_mark ..)).2.1, (hs _ _ _ (World.cell?_alloc_mark ..)).2.2⟩
  | j + 2, hx => simp [beastL] at hx
/-- A block of three texts. -/
theorem str_lit3 (w : World) (x y z : List UInt8) (t : TypeId) (f : Nat × Nat) : StrRow (w.alloc (.cells #[.string (bs x), .string (bs y), .string (bs z)] t f)) (some ⟨w.heap.size, 0, none⟩) 3 3 [x, y, z] :=
  ⟨rfl, Nat.le_refl _, fun _ => ⟨_, _, rfl, by simp, fun j u hu => by
    match j, hu with
    | 0, hu => obtain rfl := Option.some.inj hu; exact World.cell?_alloc_mark ..
    | 1, hu => obtain rfl := Option.some.inj hu; exact World.cell?_alloc_mark ..
    | 2, hu => obtain rfl := Option.some.inj hu; exact World.cell?_alloc_mark ..
    | j + 3, hu => simp at hu⟩⟩
theorem lists_ok {w w' : World} {q : Nat} {rel : List (List UInt8) → Prop} {e : Ending} (h0 : q = 0) (h : Lists w q rel e w') :
    ∃ A s c, e = .returned (.tuple #[.slice A s.length c, .nilIface]) ∧ Own w' w.heap.size (.slice A s.length c) s ∧ rel s ∧ s.length ≤ 13 ∧ Below w.heap.size w w' := by
  obtain ⟨v, s, h1, h2, h3, _, h5, h6⟩ := h
  obtain ⟨A, c, rfl⟩ := h2.form
  subst h0
  exact ⟨A, s, c, h1, h2, h3 rfl, h5, h6⟩
theorem lists_bad {w w' : World} {q : Nat} {rel : List (List UInt8) → Prop} {e : Ending} (h0 : q ≠ 0) (h : Lists w q rel e w') :
    ∃ A c, e = .returned (.tuple #[.slice A 0 c, errV q]) ∧ Own w' w.heap.size (.slice A 0 c) [] ∧ Below w.heap.size w w' := by
  obtain ⟨v, s, h1, h2, _, h4, _, h6⟩ := h
  obtain rfl := h4 h0
  obtain ⟨A, c, rfl⟩ := h2.form
  exact ⟨A, c, h1, h2, h6⟩
theorem upto_beast : ∀ x ∈ beastL, x.upto 140737488351232 := fun x hx => by
  rcases List.mem_cons.1 hx with rfl | hx
  · refine ⟨by decide, by decide, ⟨fun y hy => (by cases hy), by decide⟩, ⟨fun y hy => (by cases hy), by decide⟩, fun y hy => (by cases hy), by decide⟩
  · obtain rfl := List.mem_singleton.1 hx
    refine ⟨by decide, by decide, ⟨fun y hy => (by cases hy), by decide⟩, ⟨fun y hy => (by cases hy), by decide⟩, fun y hy => (by cases hy), by decide⟩
theorem wf_beast : ∀ x ∈ beastL, x.wf := fun x hx y hy => by
  rcases List.mem_cons.1 hx with rfl | hx
  · cases hy
  · obtain rfl := List.mem_singleton.1 hx
    cases hy
end Go.Proofs.YtdpkjmdmmhnfnaaGreatDoor
