/- The reference's Every: a class and all above it, sorted. What package world must say. law2.beasts; what a list with an error says. -/
import Derived.Test.YtkolpbjpgobkcaaDoorWoN
import Derived.Sort.Walk0
import Derived.Test.YtkolpbjpgobkcaaDoorGH
namespace Go.Proofs.YtkolpbjpgobkcaaDoor
open Go.ChangeShapes Go.WideShapes Go.ChangeAt Go.RowKit
set_option linter.unusedVariables false

/-- A class and all above it, each once, bytewise. -/
def Sorted (l : List ClassD) (y : List UInt8) (out : List (List UInt8)) : Prop := out.Pairwise (· < ·) ∧ ∀ x, x ∈ out ↔ x = y ∨ Up l y x
theorem lt_or {a b : List UInt8} (h : ¬ a < b) (hn : a ≠ b) : b < a := by
  rcases List.le_iff_lt_or_eq.1 (List.not_lt.1 h) with h | h
  · exact h
  · exact absurd h.symm hn
theorem sorted_nodup {l : List (List UInt8)} (h : l.Pairwise (· < ·)) : l.Nodup := h.imp fun {a b} hab e => by subst e; exact List.lt_irrefl _ hab
theorem sorted_one : ∀ {s t : List (List UInt8)}, s.Pairwise (· < ·) → t.Pairwise (· < ·) → (∀ x, x ∈ s ↔ x ∈ t) → s = t
  | [], t, _, _, h => by
    cases t with
    | nil => rfl
    | cons b u => exact absurd ((h b).2 (by simp)) (by simp)
  | a :: s, t, hs, ht, h => by
    cases t with
    | nil => exact absurd ((h a).1 (by simp)) (by simp)
    | cons b u =>
      obtain ⟨h1, h2⟩ := List.pairwise_cons.1 hs
      obtain ⟨k1, k2⟩ := List.pairwise_cons.1 ht
      have hab : a = b := by
        rcases List.mem_cons.1 ((h a).1 (by simp)) with e | e
        · exact e
        · rcases List.mem_cons.1 ((h b).2 (by simp)) with e' | e'
          · exact e'.symm
          · exact absurd (List.lt_trans (h1 b e') (k1 a e)) (List.lt_irrefl _)
      subst hab
      rw [sorted_one h2 k2 fun x => ?_]
      constructor
      · intro hx
        rcases List.mem_cons.1 ((h x).1 (by simp [hx])) with e | e
        · subst e; exact absurd (h1 x hx) (List.lt_irrefl _)
        · exact e
      · intro hx
        rcases List.mem_cons.1 ((h x).2 (by simp [hx])) with e | e
        · subst e; exact absurd (k1 x hx) (List.lt_irrefl _)
        · exact e
theorem Sorted.one {l : List ClassD} {y : List UInt8} {s t : List (List UInt8)} (h : Sorted l y s) (k : Sorted l y t) : s = t := sorted_one h.1 k.1 fun x => (h.2 x).trans (k.2 x).symm

/-- The least ones of m, in order. -/
def Chosen (m out : List (List UInt8)) : Prop := out.Pairwise (· < ·) ∧ (∀ x ∈ out, x ∈ m) ∧ ∀ x ∈ m, x ∉ out → ∀ z ∈ out, z < x
/-- b is the least of the first a of m that are not chosen; empty: there is none. -/
def Least (m out : List (List UInt8)) (a : Nat) (b : List UInt8) : Prop := (b = [] ∧ ∀ x ∈ m.take a, x ∈ out) ∨ (b ≠ [] ∧ b ∈ m ∧ b ∉ out ∧ ∀ x ∈ m.take a, x ∉ out → ¬ x < b)
theorem chosen_start (m : List (List UInt8)) : Chosen m [] := ⟨List.Pairwise.nil, fun x hx => (by cases hx), fun x _ _ z hz => (by cases hz)⟩
theorem least_start (m out : List (List UInt8)) : Least m out 0 [] := .inl ⟨rfl, fun x hx => (by cases hx)⟩
section
variable {m out : List (List UInt8)} {a : Nat} {b : List UInt8}
theorem take_mem (ha : a < m.length) {x : List UInt8} (hx : x ∈ m.take (a + 1)) : x ∈ m.take a ∨ x = m[a] := by
  rw [List.take_succ_eq_append_getElem ha] at hx
  rcases List.mem_append.1 hx with hx | hx
  · exact .inl hx
  · exact .inr (List.mem_singleton.1 hx)
theorem Least.skip (h : Least m out a b) (ha : a < m.length) (hx : m[a] ∈ out) : Least m out (a + 1) b := by
  rcases h with ⟨h1, h2⟩ | ⟨h1, h2, h3, h4⟩
  · refine .inl ⟨h1, fun x hx' => ?_⟩
    rcases take_mem ha hx' with h | rfl
    · exact h2 x h
    · exact hx
  · refine .inr ⟨h1, h2, h3, fun x hx' hn => ?_⟩
    rcases take_mem ha hx' with h | rfl
    · exact h4 x h hn
    · exact absurd hx hn
theorem Least.keep (h : Least m out a b) (ha : a < m.length) (hb : b ≠ []) (hx : ¬ m[a] < b) : Least m out (a + 1) b := by
  rcases h with ⟨h1, h2⟩ | ⟨h1, h2, h3, h4⟩
  · exact absurd h1 hb
  · refine .inr ⟨h1, h2, h3, fun x hx' hn => ?_⟩
    rcases take_mem ha hx' with h | rfl
    · exact h4 x h hn
    · exact hx
theorem Least.take (h : Least m out a b) (ha : a < m.length) (hx : m[a] ∉ out) (hne : m[a] ≠ []) (hb : b = [] ∨ m[a] < b) : Least m out (a + 1) m[a] := by
  refine .inr ⟨hne, List.getElem_mem ha, hx, fun x hx' hn => ?_⟩
  rcases take_mem ha hx' with h' | rfl
  · rcases h with ⟨h1, h2⟩ | ⟨h1, h2, h3, h4⟩
    · exact absurd (h2 x h') hn
    · rcases hb with hb | hb
      · exact absurd hb h1
      · exact fun hlt => h4 x h' hn (List.lt_trans hlt hb)
  · exact List.lt_irrefl _
theorem Chosen.put (h : Chosen m out) (hl : Least m out m.length b) (hm : m.Nodup) (hlen : out.length < m.length) : b ≠ [] ∧ Chosen m (out ++ [b]) := by
  have hex : ∃ x ∈ m, x ∉ out := by
    refine Classical.byContradiction fun hc => ?_
    have : ∀ x ∈ m, x ∈ out := fun x hx => Classical.byContradiction fun hn => hc ⟨x, hx, hn⟩
    have := nodup_le hm this
    omega
  obtain ⟨x, hx, hxo⟩ := hex
  unfold Least at hl
  rw [List.take_length] at hl
  rcases hl with ⟨_, h2⟩ | ⟨h1, h2, h3, h4⟩
  · exact absurd (h2 x hx) hxo
  · refine ⟨h1, ?_, fun z hz => ?_, fun u hu hn z hz => ?_⟩
    · rw [List.pairwise_append]
      exact ⟨h.1, List.pairwise_singleton _ _, fun z hz u hu => by obtain rfl := List.mem_singleton.1 hu; exact h.2.2 _ h2 h3 z hz⟩
    · rcases List.mem_append.1 hz with hz | hz
      · exact h.2.1 z hz
      · obtain rfl := List.mem_singleton.1 hz; exact h2
    · have hn1 : u ∉ out := fun hc => hn (List.mem_append_left _ hc)
      rcases List.mem_append.1 hz with hz | hz
      · exact h.2.2 u hu hn1 z hz
      · obtain rfl := List.mem_singleton.1 hz
        exact lt_or (h4 u hu hn1) (fun e => hn (List.mem_append_right _ (by rw [e]; simp)))
theorem Chosen.len (h : Chosen m out) : out.length ≤ m.length := nodup_le (sorted_nodup h.1) h.2.1
theorem Chosen.all (h : Chosen m out) (hm : m.Nodup) (hlen : m.length ≤ out.length) (x : List UInt8) : x ∈ out ↔ x ∈ m := by
  refine ⟨h.2.1 x, fun hx => Classical.byContradiction fun hn => ?_⟩
  have := nodup_le (m := m) (List.nodup_cons.2 ⟨hn, sorted_nodup h.1⟩) fun z hz => by
    rcases List.mem_cons.1 hz with rfl | hz
    · exact hx
    · exact h.2.1 z hz
  simp only [List.length_cons] at this
  omega
end
theorem name_pos {x : List UInt8} (h : nameB x = true) : x ≠ [] := fun e => by subst e; cases h
theorem Joined.pos {l : List ClassD} (h : Joined l) {x : List UInt8} (hk : knownB l x = true) : x ≠ [] := by
  obtain ⟨c, hc⟩ := known_some hk
  rcases classOf_in hc with ⟨rfl, _⟩ | ⟨rfl, _⟩ | ⟨hm, rfl⟩
  · decide
  · decide
  · have := (classF_zero.1 (h.cls hm)).1
    unfold headB_ at this
    rw [Bool.and_eq_true] at this
    exact name_pos this.1

theorem less_yes {x b : List UInt8} (h : x < b) : Op.bytesLess (bs x).toList (bs b).toList = true := by rw [bytesLess_eq, ByteArray.toList_eq, ByteArray.toList_eq]; exact decide_eq_true h
theorem less_no {x b : List UInt8} (h : ¬ x < b) : Op.bytesLess (bs x).toList (bs b).toList = false := by rw [bytesLess_eq, ByteArray.toList_eq, ByteArray.toList_eq]; exact decide_eq_false h
def lenV : Value → Nat
  | .slice _ n _ => n
  | _ => 0
end Go.Proofs.YtkolpbjpgobkcaaDoor
namespace Go.Proofs.YtkolpbjpgobkcaaDoor
open Go.ChangeShapes Go.WideShapes Go.ChangeAt Go.RowKit
set_option linter.unusedVariables false

/-- world.Check returns what is wrong with every list of classes. -/
def WorldChecks : Prop := ∀ (l : List ClassD) (q : Nat) (A : Option Addr) (n c : Nat) (w : World), WorldIs l q → Tab w → ClassRow w A n c l → (A = none → n = 0 ∧ c = 0) → (∀ x ∈ l, x.upto 140737488351232) → (∀ x ∈ l, x.wf) → n ≤ 140737488351232 →
  Calls Tryd.prog 5 #[.slice A n c] w fun e w' => e = .returned (errV q) ∧ Below w.heap.size w w'
/-- A list of names that is made by the call, and an error; of the names: rel. -/
def Lists (w : World) (q : Nat) (rel : List (List UInt8) → Prop) (e : Ending) (w' : World) : Prop :=
  ∃ v s, e = .returned (.tuple #[v, errV q]) ∧ Own w' w.heap.size v s ∧ (q = 0 → rel s) ∧ (q ≠ 0 → s = []) ∧ s.length ≤ 13 ∧ Below w.heap.size w w'
def WorldSupers : Prop := ∀ (l : List ClassD) (q : Nat) (y : List UInt8) (A : Option Addr) (n c : Nat) (w : World), WorldIs l q → Tab w → ClassRow w A n c l → (A = none → n = 0 ∧ c = 0) → (∀ x ∈ l, x.upto 140737488351232) → (∀ x ∈ l, x.wf) → n ≤ 140737488351232 → y.length ≤ 140737488351232 →
  Calls Tryd.prog 11 #[.slice A n c, .string (bs y)] w (Lists w (namedQ l q y) (Chain l y))
def WorldAlls : Prop := ∀ (l : List ClassD) (q : Nat) (y : List UInt8) (A : Option Addr) (n c : Nat) (w : World), WorldIs l q → Tab w → ClassRow w A n c l → (A = none → n = 0 ∧ c = 0) → (∀ x ∈ l, x.upto 140737488351232) → (∀ x ∈ l, x.wf) → n ≤ 140737488351232 → y.length ≤ 140737488351232 →
  Calls Tryd.prog 7 #[.slice A n c, .string (bs y)] w (Lists w (namedQ l q y) (Sorted l y))
theorem namedQ_zero {l : List ClassD} {q : Nat} {y : List UInt8} : namedQ l q y = 0 ↔ q = 0 ∧ knownB l y = true := by
  unfold namedQ
  by_cases h : q = 0
  · subst h
    cases knownB l y <;> simp
  · simp [h]
end Go.Proofs.YtkolpbjpgobkcaaDoor
namespace Go.Proofs.YtkolpbjpgobkcaaDoor
open Go.ChangeShapes Go.WideShapes Go.ChangeAt Go.RowKit
set_option linter.unusedVariables false
attribute [local go_sem] eqGuard_errV_nil eqGuard_errV_iface eql_errV_nil neq_errV_nil eql_errV_form

def catB : List UInt8 := [67, 97, 116]
def beastB : List UInt8 := [66, 101, 97, 115, 116]
def beastL : List ClassD := [⟨catB, beastB, [], false, [], []⟩, ⟨beastB, objB, [], false, [], []⟩]
theorem beast_joined : Joined beastL := ⟨by decide, by decide, by decide⟩
theorem beast_up {x : List UInt8} (h : Up beastL beastB x) : x = objB := h.within (s := fun z => z = objB) (fun z hz => by
    have : upsOf beastL beastB = [objB] := by decide
    rw [this] at hz
    exact List.mem_singleton.1 hz) (fun z hz y hy => by
    subst hz
    have : upsOf beastL objB = [] := by decide
    rw [this] at hy
    cases hy)
theorem cat_up {x : List UInt8} (h : Up beastL catB x) : x = beastB ∨ x = objB := h.within (s := fun z => z = beastB ∨ z = objB) (fun z hz => by
    have : upsOf beastL catB = [beastB] := by decide
    rw [this] at hz
    exact .inl (List.mem_singleton.1 hz)) (fun z hz y hy => by
    rcases hz with rfl | rfl
    · exact .inr (beast_up (.one hy))
    · have : upsOf beastL objB = [] := by decide
      rw [this] at hy
      cases hy)
theorem beast_valid : Valid beastL := ⟨beast_joined, fun ⟨c, hc, h⟩ => by
  rcases List.mem_cons.1 hc with rfl | hc
  · rcases cat_up h with h | h
    · exact absurd h (by decide)
    · exact absurd h (by decide)
  · obtain rfl := List.mem_singleton.1 hc
    exact absurd (beast_up h) (by decide)⟩
theorem beast_is : WorldIs beastL 0 := .inr (.inr (.inr (.inr ⟨beast_valid.1, beast_valid.2, rfl⟩)))
theorem cat_chain : Chain beastL catB [catB, beastB, objB] :=
  .up (c := ⟨catB, beastB, [], false, [], []⟩) (by decide) (by decide) (.up (c := ⟨beastB, objB, [], false, [], []⟩) (by decide) (by decide) (.top (c := objC) (by decide) rfl))
/-- A block of three texts. -/
theorem str_lit3 (w : World) (x y z : List UInt8) (t : TypeId) (f : Nat × Nat) : StrRow (w.alloc (.cells #[.string (bs x), .string (bs y), .string (bs z)] t f)) (some ⟨w.heap.size, 0, none⟩) 3 3 [x, y, z] :=
  ⟨rfl, Nat.le_refl _, fun _ => ⟨_, _, rfl, by simp, fun j u hu => by
    match j, hu with
    | 0, hu => obtain rfl := Option.some.inj hu; exact World.cell?_alloc_mark ..
    | 1, hu => obtain rfl := Option.some.inj hu; exact World.cell?_alloc_mark ..
    | 2, hu => obtain rfl := Option.some.inj hu; exact World.cell?_alloc_mark ..
    | j + 3, hu => simp at hu⟩⟩
theorem lists_ok {w w' : World} {q : Nat} {rel : List (List UInt8) → Prop} {e : Ending} (h0 : q = 0) (h : Lists w q rel e w') :
    ∃ A s c, e = .returned (.tuple #[.slice A s.length c, .nilIface]) ∧ Own w' w.heap.size (.slice A s.length c) s ∧ rel s ∧ s.length ≤ 13 ∧ Below w.heap.size w w' := by
  obtain ⟨v, s, h1, h2, h3, _, h5, h6⟩ := h
  obtain ⟨A, c, rfl⟩ := h2.form
  subst h0
  exact ⟨A, s, c, h1, h2, h3 rfl, h5, h6⟩
theorem lists_bad {w w' : World} {q : Nat} {rel : List (List UInt8) → Prop} {e : Ending} (h0 : q ≠ 0) (h : Lists w q rel e w') :
    ∃ A c, e = .returned (.tuple #[.slice A 0 c, errV q]) ∧ Own w' w.heap.size (.slice A 0 c) [] ∧ Below w.heap.size w w' := by
  obtain ⟨v, s, h1, h2, _, h4, _, h6⟩ := h
  obtain rfl := h4 h0
  obtain ⟨A, c, rfl⟩ := h2.form
  exact ⟨A, c, h1, h2, h6⟩
theorem upto_beast : ∀ x ∈ beastL, x.upto 140737488351232 := fun x hx => by
  rcases List.mem_cons.1 hx with rfl | hx
  · refine ⟨by decide, by decide, ⟨fun y hy => (by cases hy), by decide⟩, ⟨fun y hy => (by cases hy), by decide⟩, fun y hy => (by cases hy), by decide⟩
  · obtain rfl := List.mem_singleton.1 hx
    refine ⟨by decide, by decide, ⟨fun y hy => (by cases hy), by decide⟩, ⟨fun y hy => (by cases hy), by decide⟩, fun y hy => (by cases hy), by decide⟩
theorem wf_beast : ∀ x ∈ beastL, x.wf := fun x hx y hy => by
  rcases List.mem_cons.1 hx with rfl | hx
  · cases hy
  · obtain rfl := List.mem_singleton.1 hx
    cases hy
end Go.Proofs.YtkolpbjpgobkcaaDoor
