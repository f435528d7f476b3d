/- What package find must say. -/
import Derived.Test.YtkolpbjpgobkcaaGreatDoorFiF
import Derived.Test.YtkolpbjpgobkcaaGreatDoorGX
namespace Go.Proofs.YtkolpbjpgobkcaaGreatDoor
open Go.ChangeShapes Go.WideShapes Go.ChangeAt Go.RowKit
set_option linter.unusedVariables false

/-- What is wrong with a search in the class y that finds o. -/
def foundQ {α : Type} (l : List ClassD) (q : Nat) (y : List UInt8) (o : Option α) : Nat := if namedQ l q y ≠ 0 then namedQ l q y else if o.isSome = true then 0 else 3
def FieldIs (l : List ClassD) (q : Nat) (y z : List UInt8) (o : Option (List UInt8 × FieldD)) : Prop :=
  (namedQ l q y = 0 → ∃ s, Chain l y s ∧ o = fieldFirst l z s) ∧ (namedQ l q y ≠ 0 → o = none)
def MethIs (l : List ClassD) (q : Nat) (y z u : List UInt8) (o : Option (List UInt8 × MethD)) : Prop :=
  (namedQ l q y = 0 → ∃ s e, Chain l y s ∧ Sorted l y e ∧ o = foundFirst l z u s e) ∧ (namedQ l q y ≠ 0 → o = none)
def zeroF : FieldD := ⟨[], []⟩
/-- The value of a method without its code and its handlers. -/
def MethBare (m : MethD) (v : Value) : Prop := ∃ A c B d, v = .agg #[.string (bs m.nm), .string (bs m.ty), .bool m.st, .bool m.ab, .bool m.pr, .int .i64 m.lo, .slice A 0 c, .slice B 0 d]
def FindFields : Prop := ∀ (l : List ClassD) (q : Nat) (y z : List UInt8) (o : Option (List UInt8 × FieldD)) (A : Option Addr) (n c : Nat) (w : World), WorldIs l q → FieldIs l q y z o → Tab w → ClassRow w A n c l → (A = none → n = 0 ∧ c = 0) →
  (∀ x ∈ l, x.upto 140737488351232) → (∀ x ∈ l, x.wf) → n ≤ 140737488351232 → y.length ≤ 140737488351232 → z.length ≤ 140737488351232 →
  Calls Tryz.prog 6 #[.slice A n c, .string (bs y), .string (bs z)] w fun e w' => e = .returned (.tuple #[.string (bs ((o.map (·.1)).getD [])), fieldV ((o.map (·.2)).getD zeroF), errV (foundQ l q y o)]) ∧ Below w.heap.size w w'
def FindMeths : Prop := ∀ (l : List ClassD) (q : Nat) (y z u : List UInt8) (o : Option (List UInt8 × MethD)) (A : Option Addr) (n c : Nat) (w : World), WorldIs l q → MethIs l q y z u o → Tab w → ClassRow w A n c l → (A = none → n = 0 ∧ c = 0) →
  (∀ x ∈ l, x.upto 140737488351232) → (∀ x ∈ l, x.wf) → n ≤ 140737488351232 → y.length ≤ 140737488351232 → z.length ≤ 140737488351232 → u.length ≤ 140737488351232 →
  Calls Tryz.prog 7 #[.slice A n c, .string (bs y), .string (bs z), .string (bs u)] w fun e w' => ∃ v, e = .returned (.tuple #[.string (bs ((o.map (·.1)).getD [])), v, errV (foundQ l q y o)]) ∧ MethBare ((o.map (·.2)).getD zeroM) v ∧ Below w.heap.size w w'
theorem field_ex (l : List ClassD) (q : Nat) (hq : WorldIs l q) (y z : List UInt8) : ∃ o, FieldIs l q y z o := by
  by_cases h : namedQ l q y = 0
  · obtain ⟨h0, hk⟩ := namedQ_zero.1 h
    obtain ⟨s, hs, _⟩ := chain_is (worldIs_zero (by rw [h0] at hq; exact hq)) hk
    exact ⟨_, fun _ => ⟨s, hs, rfl⟩, fun h' => absurd h h'⟩
  · exact ⟨none, fun h' => absurd h' h, fun _ => rfl⟩
theorem foundQ_bad {α : Type} {l : List ClassD} {q : Nat} {y : List UInt8} {o : Option α} (h : namedQ l q y ≠ 0) : foundQ l q y o = namedQ l q y := by unfold foundQ; rw [if_pos h]
theorem foundQ_some {α : Type} {l : List ClassD} {q : Nat} {y : List UInt8} {r : α} (h : namedQ l q y = 0) : foundQ l q y (some r) = 0 := by unfold foundQ; simp [h]
theorem foundQ_none {α : Type} {l : List ClassD} {q : Nat} {y : List UInt8} (h : namedQ l q y = 0) : foundQ l q y (none : Option α) = 3 := by unfold foundQ; simp [h]
theorem sort_in (a : List UInt8) : ∀ (t : List (List UInt8)), t.Pairwise (· < ·) → ∃ r : List (List UInt8), r.Pairwise (· < ·) ∧ ∀ x, x ∈ r ↔ x = a ∨ x ∈ t
  | [], _ => ⟨[a], List.pairwise_singleton _ _, fun x => by simp⟩
  | b :: t, h => by
    obtain ⟨h1, h2⟩ := List.pairwise_cons.1 h
    by_cases e : a = b
    · subst e
      exact ⟨a :: t, h, fun x => by simp⟩
    · by_cases hlt : a < b
      · refine ⟨a :: b :: t, List.pairwise_cons.2 ⟨fun x hx => ?_, h⟩, fun x => by simp⟩
        rcases List.mem_cons.1 hx with rfl | hx
        · exact hlt
        · exact List.lt_trans hlt (h1 x hx)
      · have hba := lt_or hlt e
        obtain ⟨r, hr, hm⟩ := sort_in a t h2
        refine ⟨b :: r, List.pairwise_cons.2 ⟨fun x hx => ?_, hr⟩, fun x => ?_⟩
        · rcases (hm x).1 hx with rfl | hx
          · exact hba
          · exact h1 x hx
        · rw [List.mem_cons, hm, List.mem_cons]
          constructor
          · rintro (h | h | h) <;> simp [h]
          · rintro (h | h | h) <;> simp [h]
theorem sort_all : ∀ (t : List (List UInt8)), ∃ r : List (List UInt8), r.Pairwise (· < ·) ∧ ∀ x, x ∈ r ↔ x ∈ t
  | [] => ⟨[], List.Pairwise.nil, fun x => Iff.rfl⟩
  | a :: t => by
    obtain ⟨r, hr, hm⟩ := sort_all t
    obtain ⟨r2, hr2, hm2⟩ := sort_in a r hr
    exact ⟨r2, hr2, fun x => by rw [hm2, hm, List.mem_cons]⟩
theorem sorted_is {l : List ClassD} (h : Valid l) {y : List UInt8} (hk : knownB l y = true) : ∃ s, Sorted l y s := by
  classical
  obtain ⟨r, hr, hm⟩ := sort_all ((namesL l).filter (fun x => decide (x = y ∨ Up l y x)))
  refine ⟨r, hr, fun x => ?_⟩
  rw [hm, List.mem_filter, decide_eq_true_eq]
  refine ⟨fun h => h.2, fun hx => ⟨?_, hx⟩⟩
  rcases hx with rfl | hx
  · exact known_iff.1 hk
  · exact known_iff.1 (h.1.upKnown hx)
theorem meth_ex (l : List ClassD) (q : Nat) (hq : WorldIs l q) (y z u : List UInt8) : ∃ o, MethIs l q y z u o := by
  by_cases h : namedQ l q y = 0
  · obtain ⟨h0, hk⟩ := namedQ_zero.1 h
    have hV := worldIs_zero (by rw [h0] at hq; exact hq)
    obtain ⟨s, hs, _⟩ := chain_is hV hk
    obtain ⟨e, he⟩ := sorted_is hV hk
    exact ⟨_, fun _ => ⟨s, e, hs, he, rfl⟩, fun h' => absurd h h'⟩
  · exact ⟨none, fun h' => absurd h' h, fun _ => rfl⟩
/-- A block's cells. -/
def Cells (w : World) (g : Nat) (vs : Array Value) : Prop := g < w.heap.size ∧ ∀ k, w.cell? ⟨g, k, none⟩ = vs[k]?
theorem cells_at (w : World) (vs : Array Value) (t : TypeId) : Cells (w.alloc (.cells vs t)) w.heap.size vs := ⟨by simp, fun k => World.cell?_alloc_mark ..⟩
theorem Cells.below {w w' : World} {g : Nat} {vs : Array Value} (h : Cells w g vs) (hb : Below w.heap.size w w') : Cells w' g vs := ⟨Nat.lt_of_lt_of_le h.1 hb.size, fun k => (hb.cell (by exact h.1)).trans (h.2 k)⟩
/-- The eight cells, one by one. -/
theorem Cells.get8 {w : World} {g : Nat} {z0 z1 z2 z3 z4 z5 z6 z7 : Value} (t : Cells w g #[z0, z1, z2, z3, z4, z5, z6, z7]) : w.cell? ⟨g, 0, none⟩ = some z0 ∧ w.cell? ⟨g, 1, none⟩ = some z1 ∧ w.cell? ⟨g, 2, none⟩ = some z2 ∧ w.cell? ⟨g, 3, none⟩ = some z3 ∧ w.cell? ⟨g, 4, none⟩ = some z4 ∧ w.cell? ⟨g, 5, none⟩ = some z5 ∧ w.cell? ⟨g, 6, none⟩ = some z6 ∧ w.cell? ⟨g, 7, none⟩ = some z7 :=
  ⟨t.2 0, t.2 1, t.2 2, t.2 3, t.2 4, t.2 5, t.2 6, t.2 7⟩
end Go.Proofs.YtkolpbjpgobkcaaGreatDoor
