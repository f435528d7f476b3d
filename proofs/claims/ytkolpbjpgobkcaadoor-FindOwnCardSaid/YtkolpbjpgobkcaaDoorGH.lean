/- Hierarchies of classes on lists: which classes there are, what lies above one, what is wrong with a list of classes. No program. Rows of instructions (six cells each): slices that came in, rows of the call's own, one behind another. How the parts of a class lie in the memory, and classes in a list. A class in a block of its own; the first elements of a slice. The contracts of package flow: jumps, goesOn, Check. What class.Check must say. -/
import Derived.Test.YtkolpbjpgobkcaaDoorGC
import Derived.Test.YtkolpbjpgobkcaaDoorGA
import Derived.Laws.AppendOwnNone
import Derived.Test.YtkolpbjpgobkcaaDoorIn2
import Derived.Deep.QuietTactic
import Derived.BigQuiet
namespace Go.Proofs.YtkolpbjpgobkcaaDoor
open Go.RowKit
set_option linter.unusedVariables false

/-! Lists whose elements differ. -/
theorem nodup_le {α : Type} [DecidableEq α] : ∀ {l m : List α}, l.Nodup → (∀ x ∈ l, x ∈ m) → l.length ≤ m.length
  | [], _, _, _ => Nat.zero_le _
  | a :: t, m, h, hs => by
    obtain ⟨h1, h2⟩ := List.nodup_cons.1 h
    have ha : a ∈ m := hs a (by simp)
    have := nodup_le (l := t) (m := m.erase a) h2 fun x hx => (List.mem_erase_of_ne (fun e => h1 (by rw [← e]; exact hx))).2 (hs x (by simp [hx]))
    rw [List.length_erase_of_mem ha] at this
    have : 0 < m.length := List.length_pos_of_mem ha
    simp only [List.length_cons]
    omega
theorem nodup_more {α : Type} {l : List α} {x : α} (h : l.Nodup) (hx : x ∉ l) : (l ++ [x]).Nodup := by
  rw [List.nodup_append]
  refine ⟨h, by simp, fun a ha b hb e => ?_⟩
  obtain rfl := List.mem_singleton.1 hb
  exact hx (e ▸ ha)
theorem any_mem {l : List (List UInt8)} {x : List UInt8} : l.any (· == x) = true ↔ x ∈ l := by
  rw [List.any_eq_true]
  constructor
  · rintro ⟨y, hy, e⟩
    rw [← eq_of_beq e]; exact hy
  · exact fun h => ⟨x, h, by simp⟩
theorem any_not {l : List (List UInt8)} {x : List UInt8} : l.any (· == x) = false ↔ x ∉ l := by
  rw [← any_mem, Bool.not_eq_true]

def objB : List UInt8 := [79, 98, 106, 101, 99, 116]
def fltB : List UInt8 := [70, 97, 117, 108, 116]
def objC : ClassD := ⟨objB, [], [], false, [], []⟩
def fltC : ClassD := ⟨fltB, objB, [], false, [], []⟩
/-- The class of a name, among these and the two that are always there. -/
def classOf (w : List ClassD) (n : List UInt8) : Option ClassD := if n = objB then some objC else if n = fltB then some fltC else w.find? (fun c => c.nm == n)
def knownB (w : List ClassD) (n : List UInt8) : Bool := (classOf w n).isSome
def faceB (w : List ClassD) (n : List UInt8) : Bool := match classOf w n with
  | some c => c.face
  | none => false
/-- What a class extends, and its faces. -/
def ClassD.ups (c : ClassD) : List (List UInt8) := (if c.su = [] then [] else [c.su]) ++ c.faces
def upsOf (w : List ClassD) (n : List UInt8) : List (List UInt8) := match classOf w n with
  | some c => c.ups
  | none => []
/-- b is above a. -/
inductive Up (w : List ClassD) : List UInt8 → List UInt8 → Prop
  | one {a b : List UInt8} (h : b ∈ upsOf w a) : Up w a b
  | more {a b c : List UInt8} (h : Up w a b) (k : c ∈ upsOf w b) : Up w a c
theorem Up.trans {w : List ClassD} {a b c : List UInt8} (h : Up w a b) (k : Up w b c) : Up w a c := by
  induction k with
  | one k => exact .more h k
  | more _ k ih => exact .more ih k
theorem Up.ahead {w : List ClassD} {a b c : List UInt8} (h : b ∈ upsOf w a) (k : Up w b c) : Up w a c := (Up.one h).trans k
theorem Up.within {w : List ClassD} {a b : List UInt8} (h : Up w a b) {s : List UInt8 → Prop} (h0 : ∀ x ∈ upsOf w a, s x) (hs : ∀ x, s x → ∀ y ∈ upsOf w x, s y) : s b := by
  induction h with
  | one h => exact h0 _ h
  | more _ k ih => exact hs _ ih _ k

/-! What is wrong. -/
def memF (pre : List ClassD) (c : ClassD) : Nat := if classF c ≠ 0 then classF c else if knownB pre c.nm = true then 5 else 0
def linkF (w : List ClassD) (c : ClassD) : Nat :=
  if c.su = [] then 1
  else if (c.su :: c.faces).all (knownB w) = false then 3
  else if (faceB w c.su || c.faces.any (fun n => !faceB w n)) = true then 7
  else if (c.face && c.su != objB) = true then 7
  else 0
/-- Few classes, each right, all of whose superclasses and faces are there. -/
def Joined (w : List ClassD) : Prop := w.length ≤ 10 ∧ firstAt memF w = 0 ∧ firstAt (fun _ c => linkF w c) w = 0
def Round (w : List ClassD) : Prop := ∃ c ∈ w, Up w c.nm c.nm
/-- q is what is wrong with the classes w; 0: nothing. -/
def WorldIs (w : List ClassD) (q : Nat) : Prop :=
  (10 < w.length ∧ q = 4) ∨ (w.length ≤ 10 ∧ firstAt memF w ≠ 0 ∧ q = firstAt memF w) ∨
  (w.length ≤ 10 ∧ firstAt memF w = 0 ∧ firstAt (fun _ c => linkF w c) w ≠ 0 ∧ q = firstAt (fun _ c => linkF w c) w) ∨ (Joined w ∧ Round w ∧ q = 6) ∨ (Joined w ∧ ¬ Round w ∧ q = 0)
/-- Right classes. -/
def Valid (w : List ClassD) : Prop := Joined w ∧ ¬ Round w
theorem world_is (w : List ClassD) : ∃ q, WorldIs w q := by
  by_cases h1 : 10 < w.length
  · exact ⟨_, .inl ⟨h1, rfl⟩⟩
  · by_cases h2 : firstAt memF w = 0
    · by_cases h3 : firstAt (fun _ c => linkF w c) w = 0
      · by_cases h4 : Round w
        · exact ⟨_, .inr (.inr (.inr (.inl ⟨⟨by omega, h2, h3⟩, h4, rfl⟩)))⟩
        · exact ⟨_, .inr (.inr (.inr (.inr ⟨⟨by omega, h2, h3⟩, h4, rfl⟩)))⟩
      · exact ⟨_, .inr (.inr (.inl ⟨by omega, h2, h3, rfl⟩))⟩
    · exact ⟨_, .inr (.inl ⟨by omega, h2, rfl⟩)⟩
theorem worldIs_zero {w : List ClassD} (h : WorldIs w 0) : Valid w := by
  rcases h with ⟨_, h⟩ | ⟨_, h, e⟩ | ⟨_, _, h, e⟩ | ⟨_, _, h⟩ | ⟨h1, h2, _⟩
  · cases h
  · exact absurd e.symm h
  · exact absurd e.symm h
  · cases h
  · exact ⟨h1, h2⟩
theorem valid_is {w : List ClassD} (h : Valid w) {q : Nat} (hq : WorldIs w q) : q = 0 := by
  obtain ⟨⟨h1, h2, h3⟩, h4⟩ := h
  rcases hq with ⟨k, _⟩ | ⟨_, k, _⟩ | ⟨_, _, k, _⟩ | ⟨_, k, _⟩ | ⟨_, _, e⟩
  · omega
  · exact absurd h2 k
  · exact absurd h3 k
  · exact absurd k h4
  · exact e
theorem worldIs_one {w : List ClassD} {q r : Nat} (h : WorldIs w q) (k : WorldIs w r) : q = r := by
  rcases h with ⟨h1, rfl⟩ | ⟨h1, h2, rfl⟩ | ⟨h1, h2, h3, rfl⟩ | ⟨⟨h1, h2, h3⟩, h4, rfl⟩ | ⟨⟨h1, h2, h3⟩, h4, rfl⟩ <;>
  rcases k with ⟨k1, rfl⟩ | ⟨k1, k2, rfl⟩ | ⟨k1, k2, k3, rfl⟩ | ⟨⟨k1, k2, k3⟩, k4, rfl⟩ | ⟨⟨k1, k2, k3⟩, k4, rfl⟩ <;>
  first
  | rfl
  | (exfalso; omega)
  | exact absurd h2 k2
  | exact absurd k2 h2
  | exact absurd h3 k3
  | exact absurd k3 h3
  | exact absurd h4 k4
  | exact absurd k4 h4

/-! Classes that are there. -/
section
variable {w : List ClassD}
theorem classOf_obj : classOf w objB = some objC := by unfold classOf; rw [if_pos rfl]
theorem classOf_flt : classOf w fltB = some fltC := by unfold classOf; rw [if_neg (by decide), if_pos rfl]
theorem classOf_in {n : List UInt8} {c : ClassD} (h : classOf w n = some c) : n = objB ∧ c = objC ∨ n = fltB ∧ c = fltC ∨ c ∈ w ∧ c.nm = n := by
  unfold classOf at h
  split at h
  · rename_i e; exact .inl ⟨e, (Option.some.inj h).symm⟩
  · split at h
    · rename_i e; exact .inr (.inl ⟨e, (Option.some.inj h).symm⟩)
    · exact .inr (.inr ⟨List.mem_of_find?_eq_some h, eq_of_beq (by simpa using List.find?_some h)⟩)
theorem classOf_nm {n : List UInt8} {c : ClassD} (h : classOf w n = some c) : c.nm = n := by
  rcases classOf_in h with ⟨rfl, rfl⟩ | ⟨rfl, rfl⟩ | ⟨_, h⟩
  · rfl
  · rfl
  · exact h
/-- The names of all classes. -/
def namesL (w : List ClassD) : List (List UInt8) := objB :: fltB :: w.map (·.nm)
theorem known_iff {n : List UInt8} : knownB w n = true ↔ n ∈ namesL w := by
  unfold knownB classOf namesL
  by_cases h1 : n = objB
  · simp [h1]
  · by_cases h2 : n = fltB
    · subst h2
      simp [show ¬ fltB = objB by decide]
    · rw [if_neg h1, if_neg h2, List.find?_isSome]
      simp [h1, h2]
theorem known_some {n : List UInt8} (h : knownB w n = true) : ∃ c, classOf w n = some c := Option.isSome_iff_exists.1 h
theorem names_len (h : w.length ≤ 10) : (namesL w).length ≤ 12 := by
  simp [namesL]
  omega
/-- The classes' own names differ from one another, and from those that are always there. -/
theorem mem_class (h : firstAt memF w = 0) {j : Nat} (hj : j < w.length) : classF w[j] = 0 ∧ knownB (w.take j) w[j].nm = false := by
  have := firstAt_all h j hj
  unfold memF at this
  split at this
  · contradiction
  · rename_i h1
    split at this
    · cases this
    · rename_i h2
      exact ⟨by simpa using h1, by simpa using h2⟩
theorem classOf_at (h : firstAt memF w = 0) {j : Nat} (hj : j < w.length) : classOf w w[j].nm = some w[j] := by
  have hk := (mem_class h hj).2
  unfold knownB classOf at hk
  unfold classOf
  split at hk
  · cases hk
  · rename_i h1
    split at hk
    · cases hk
    · rename_i h2
      rw [if_neg h1, if_neg h2]
      have h3 : ∀ x ∈ w.take j, (x.nm == w[j].nm) = false := by
        intro x hx
        have := Option.isSome_eq_false_iff.1 hk
        have := List.find?_eq_none.1 (Option.isNone_iff_eq_none.1 this) x hx
        simpa using this
      have e : w = w.take j ++ w[j] :: w.drop (j + 1) := by
        rw [← List.drop_eq_getElem_cons hj, List.take_append_drop]
      have h4 : (w.take j).find? (fun c => c.nm == w[j].nm) = none := List.find?_eq_none.2 fun x hx => by rw [h3 x hx]; simp
      have h5 : (w.take j ++ w[j] :: w.drop (j + 1)).find? (fun c => c.nm == w[j].nm) = some w[j] := by
        rw [List.find?_append, h4, Option.none_or, List.find?_cons_of_pos (by simp)]
      rw [← e] at h5
      exact h5
theorem classOf_mem (h : firstAt memF w = 0) {c : ClassD} (hc : c ∈ w) : classOf w c.nm = some c := by
  obtain ⟨j, hj, rfl⟩ := List.getElem_of_mem hc
  exact classOf_at h hj
theorem link_zero {c : ClassD} (h : linkF w c = 0) : c.su ≠ [] ∧ (∀ n ∈ c.su :: c.faces, knownB w n = true) ∧ faceB w c.su = false ∧ (∀ n ∈ c.faces, faceB w n = true) ∧ (c.face = true → c.su = objB) := by
  unfold linkF at h
  split at h
  · cases h
  · rename_i h1
    split at h
    · cases h
    · rename_i h2
      split at h
      · cases h
      · rename_i h3
        split at h
        · cases h
        · rename_i h4
          have h2' := List.all_eq_true.1 (by simpa only [Bool.not_eq_false] using h2)
          have h3' : (faceB w c.su || c.faces.any (fun n => !faceB w n)) = false := by simpa only [Bool.not_eq_true] using h3
          rw [Bool.or_eq_false_iff] at h3'
          refine ⟨h1, h2', h3'.1, fun n hn => ?_, fun hf => ?_⟩
          · have := List.any_eq_false.1 h3'.2 n hn
            simpa using this
          · rw [hf] at h4
            simpa using h4
theorem Joined.link (h : Joined w) {c : ClassD} (hc : c ∈ w) : linkF w c = 0 := by
  obtain ⟨j, hj, rfl⟩ := List.getElem_of_mem hc
  exact firstAt_all h.2.2 j hj
theorem Joined.cls (h : Joined w) {c : ClassD} (hc : c ∈ w) : classF c = 0 := by
  obtain ⟨j, hj, rfl⟩ := List.getElem_of_mem hc
  exact (mem_class h.2.1 hj).1
theorem upsOf_some {n : List UInt8} {c : ClassD} (h : classOf w n = some c) : upsOf w n = c.ups := by unfold upsOf; rw [h]
theorem Joined.known (h : Joined w) {n x : List UInt8} (hx : x ∈ upsOf w n) : knownB w x = true := by
  unfold upsOf at hx
  cases hc : classOf w n with
  | none => rw [hc] at hx; cases hx
  | some c =>
    rw [hc] at hx
    replace hx : x ∈ c.ups := hx
    rcases classOf_in hc with ⟨_, rfl⟩ | ⟨_, rfl⟩ | ⟨hm, _⟩
    · cases hx
    · obtain rfl : x = objB := by simpa [ClassD.ups, fltC, objB] using hx
      unfold knownB; rw [classOf_obj]; rfl
    · obtain ⟨h1, h2, _⟩ := link_zero (h.link hm)
      unfold ClassD.ups at hx
      rw [if_neg h1] at hx
      exact h2 x hx
theorem Joined.upKnown (h : Joined w) {a b : List UInt8} (hu : Up w a b) : knownB w b = true := by
  cases hu with
  | one k => exact h.known k
  | more _ k => exact h.known k
theorem faces_nodup {c : ClassD} (h : classF c = 0) : c.faces.Nodup ∧ c.faces.length ≤ 8 := by
  obtain ⟨_, h2, h3, _⟩ := classF_zero.1 h
  refine ⟨?_, by omega⟩
  rw [List.nodup_iff_pairwise_ne]
  rw [List.pairwise_iff_getElem]
  intro i j hi hj hij e
  have := firstAt_all h2 j hj
  unfold faceF at this
  split at this
  · cases this
  · split at this
    · cases this
    · rename_i h4
      refine h4 (List.any_eq_true.2 ⟨c.faces[i], ?_, by rw [e]; simp⟩)
      rw [List.mem_take_iff_getElem]
      exact ⟨i, by omega, rfl⟩
theorem Joined.nodup (h : Joined w) (n : List UInt8) : (upsOf w n).Nodup ∧ (upsOf w n).length ≤ 9 := by
  unfold upsOf
  cases hc : classOf w n with
  | none => exact ⟨List.nodup_nil, Nat.zero_le _⟩
  | some c =>
    rcases classOf_in hc with ⟨_, rfl⟩ | ⟨_, rfl⟩ | ⟨hm, _⟩
    · exact ⟨by decide, by decide⟩
    · exact ⟨by decide, by decide⟩
    · obtain ⟨h1, _, h2, h3, _⟩ := link_zero (h.link hm)
      obtain ⟨h4, h5⟩ := faces_nodup (h.cls hm)
      show c.ups.Nodup ∧ c.ups.length ≤ 9
      unfold ClassD.ups
      rw [if_neg h1]
      refine ⟨List.nodup_cons.2 ⟨fun hx => ?_, h4⟩, by simp; omega⟩
      have := h3 _ hx
      rw [h2] at this
      cases this
def zeroC : ClassD := ⟨[], [], [], false, [], []⟩
/-- The class of a name; the empty one if there is none. -/
def classD (w : List ClassD) (n : List UInt8) : ClassD := (classOf w n).getD zeroC
theorem classD_some {w : List ClassD} {n : List UInt8} {c : ClassD} (h : classOf w n = some c) : classD w n = c := by unfold classD; rw [h]; rfl
theorem classD_none {w : List ClassD} {n : List UInt8} (h : classOf w n = none) : classD w n = zeroC := by unfold classD; rw [h]; rfl
theorem upsOf_D (w : List ClassD) (n : List UInt8) : upsOf w n = (classD w n).ups := by
  unfold upsOf classD
  cases classOf w n <;> rfl
theorem faceB_D (w : List ClassD) (n : List UInt8) : faceB w n = (classD w n).face := by
  unfold faceB classD
  cases classOf w n <;> rfl
theorem classOf_find {w : List ClassD} {n : List UInt8} (h1 : n ≠ objB) (h2 : n ≠ fltB) : classOf w n = w.find? (fun c => c.nm == n) := by unfold classOf; rw [if_neg h1, if_neg h2]
end
end Go.Proofs.YtkolpbjpgobkcaaDoor
namespace Go.Proofs.YtkolpbjpgobkcaaDoor
open Go.ChangeShapes Go.WideShapes Go.ChangeAt Go.RowKit
set_option linter.unusedVariables false

theorem ins_plain (b o i : Nat) : (⟨b, o, none⟩ : Addr).add i = ⟨b, o + i, none⟩ := by unfold Addr.add; split <;> simp_all
def insC (x : InsD) : List Value := [.int .i64 x.op, .int .i64 x.a, .int .i64 x.b, .string (bs x.ty), .string (bs x.cl), .string (bs x.nm)]
/-- The six cells from o on are those of x. -/
def InsAt (w : World) (b o : Nat) (x : InsD) : Prop := w.cell? ⟨b, o, none⟩ = some (.int .i64 x.op) ∧ w.cell? ⟨b, o + 1, none⟩ = some (.int .i64 x.a) ∧ w.cell? ⟨b, o + 2, none⟩ = some (.int .i64 x.b) ∧
  w.cell? ⟨b, o + 3, none⟩ = some (.string (bs x.ty)) ∧ w.cell? ⟨b, o + 4, none⟩ = some (.string (bs x.cl)) ∧ w.cell? ⟨b, o + 5, none⟩ = some (.string (bs x.nm))
/-- The slice value with address A, n elements and capacity c reads as the list l. -/
def InsRow (w : World) (A : Option Addr) (n c : Nat) (l : List InsD) : Prop :=
  l.length = n ∧ n ≤ c ∧ (0 < n → ∃ b o, A = some ⟨b, o, none⟩ ∧ b < w.heap.size ∧ ∀ j x, l[j]? = some x → InsAt w b (o + j * 6) x)

section
variable {w w' : World} {A : Option Addr} {n c : Nat} {l : List InsD}
theorem insAt_of (b o : Nat) (x : InsD) (h : ∀ k u, (insC x)[k]? = some u → w.cell? ⟨b, o + k, none⟩ = some u) : InsAt w b o x :=
  ⟨h 0 _ rfl, h 1 _ rfl, h 2 _ rfl, h 3 _ rfl, h 4 _ rfl, h 5 _ rfl⟩
theorem InsAt.cell {b o : Nat} {x : InsD} (h : InsAt w b o x) {k : Nat} {u : Value} (hu : (insC x)[k]? = some u) : w.cell? ⟨b, o + k, none⟩ = some u := by
  obtain ⟨h0, h1, h2, h3, h4, h5⟩ := h
  match k, hu with
  | 0, hu => obtain rfl := Option.some.inj hu; exact h0
  | 1, hu => obtain rfl := Option.some.inj hu; exact h1
  | 2, hu => obtain rfl := Option.some.inj hu; exact h2
  | 3, hu => obtain rfl := Option.some.inj hu; exact h3
  | 4, hu => obtain rfl := Option.some.inj hu; exact h4
  | 5, hu => obtain rfl := Option.some.inj hu; exact h5
theorem InsAt.kept {b o : Nat} {x : InsD} (h : InsAt w b o x) (hk : ∀ p : Addr, p.block = b → w'.cell? p = w.cell? p) : InsAt w' b o x :=
  insAt_of b o x fun k u hu => (hk _ rfl).trans (h.cell hu)
theorem InsRow.nil_ (w : World) (A : Option Addr) (c : Nat) : InsRow w A 0 c [] := ⟨rfl, Nat.zero_le _, fun h => absurd h (by omega)⟩
theorem InsRow.kept (h : InsRow w A n c l) (hs : w.heap.size ≤ w'.heap.size) (hk : ∀ p : Addr, p.block < w.heap.size → w'.cell? p = w.cell? p) : InsRow w' A n c l :=
  ⟨h.1, h.2.1, fun hn => by
    obtain ⟨b, o, e, hb, hc⟩ := h.2.2 hn
    exact ⟨b, o, e, by omega, fun j x hx => (hc j x hx).kept fun p hp => hk p (by rw [hp]; exact hb)⟩⟩
theorem InsRow.below (h : InsRow w A n c l) (hb : Below w.heap.size w w') : InsRow w' A n c l := h.kept hb.size fun _ hp => hb.cell hp
theorem InsRow.alloc (h : InsRow w A n c l) (o : Obj) : InsRow (w.alloc o) A n c l := h.kept (by simp) fun p hp => World.cell?_alloc_lt w o p hp
theorem InsRow.drew (h : InsRow w A n c l) : InsRow w.drew A n c l := h
theorem InsRow.drewN (h : InsRow w A n c l) (k : Nat) : InsRow (w.drewN k) A n c l := h
theorem InsRow.at_ {k : Nat} (h : InsRow w A n c l) (hk : k < n) : ∃ b o, A = some ⟨b, o, none⟩ ∧ b < w.heap.size ∧ InsAt w b (o + k * 6) (l[k]'(by rw [h.1]; exact hk)) := by
  obtain ⟨b, o, e, hb, hc⟩ := h.2.2 (by omega)
  exact ⟨b, o, e, hb, hc k _ (List.getElem?_eq_getElem _)⟩

/-! The cells of a list. -/
theorem cells_len (l : List InsD) : (l.flatMap insC).length = l.length * 6 := by
  induction l with
  | nil => rfl
  | cons x r ih => rw [List.flatMap_cons, List.length_append, ih, List.length_cons]; show 6 + _ = _; omega
theorem cells_at_ {l : List InsD} {j k : Nat} {x : InsD} {u : Value} (hx : l[j]? = some x) (hu : (insC x)[k]? = some u) : (l.flatMap insC)[j * 6 + k]? = some u := by
  have hk : k < 6 := (List.getElem?_eq_some_iff.1 hu).1
  induction l generalizing j with
  | nil => cases hx
  | cons y r ih =>
    rw [List.flatMap_cons]
    cases j with
    | zero =>
      obtain rfl := Option.some.inj hx
      rw [List.getElem?_append_left (by show _ < 6; omega), Nat.zero_mul, Nat.zero_add]
      exact hu
    | succ j =>
      rw [List.getElem?_append_right (by show 6 ≤ _; omega)]
      show (r.flatMap insC)[(j + 1) * 6 + k - 6]? = _
      rw [show (j + 1) * 6 + k - 6 = j * 6 + k by omega]
      exact ih hx
theorem cells_one (l : List InsD) : ∀ u ∈ l.flatMap insC, u.oneCell' = true := by
  intro u hu
  obtain ⟨x, _, hu⟩ := List.mem_flatMap.1 hu
  simp only [insC, List.mem_cons, List.not_mem_nil, or_false] at hu
  rcases hu with rfl | rfl | rfl | rfl | rfl | rfl <;> rfl
theorem cells_get {l : List InsD} {i : Nat} {u : Value} (h : (l.flatMap insC)[i]? = some u) : ∃ x, l[i / 6]? = some x ∧ (insC x)[i % 6]? = some u := by
  have hi : i < l.length * 6 := by rw [← cells_len]; exact (List.getElem?_eq_some_iff.1 h).1
  have hj : i / 6 < l.length := by omega
  have hk : i % 6 < (insC l[i / 6]).length := by show _ < 6; omega
  have := cells_at_ (List.getElem?_eq_getElem hj) (List.getElem?_eq_getElem hk)
  rw [show i / 6 * 6 + i % 6 = i by omega, h] at this
  exact ⟨_, List.getElem?_eq_getElem hj, by rw [List.getElem?_eq_getElem hk, this]⟩
theorem InsRow.own {base : Nat} {e : TypeId} (h : w.ownsRow base e 6 (.slice A n c) l.length (l.flatMap insC)) (hn : l.length = n) : InsRow w A n c l := by
  rcases h.2 with ⟨hv, h0⟩ | ⟨g, cap, cur, hv, _, hg, hnc, _⟩
  · obtain ⟨rfl, rfl, rfl⟩ : A = none ∧ n = 0 ∧ c = 0 := by simpa using hv
    exact ⟨h0, Nat.le_refl _, fun h => absurd h (by omega)⟩
  · obtain ⟨rfl, rfl, rfl⟩ : A = some ⟨g, 0, none⟩ ∧ n = l.length ∧ c = cap := by simpa using hv
    refine ⟨rfl, hnc, fun _ => ⟨g, 0, rfl, ?_, fun j x hx => insAt_of _ _ _ fun k u hu => ?_⟩⟩
    · rcases Nat.lt_or_ge g w.heap.size with hlt | hge
      · exact hlt
      · rw [Array.getElem?_eq_none hge] at hg; cases hg
    · have := h.cells (g := g) rfl (j * 6 + k) u (cells_at_ hx hu)
      rw [ins_plain] at this
      rw [Nat.add_assoc]
      exact this
theorem own_ins {base : Nat} {e : TypeId} {v : Value} (h : w.ownsRow base e 6 v l.length (l.flatMap insC)) : ∃ A c, v = .slice A l.length c ∧ InsRow w A l.length c l := by
  obtain ⟨A, c, rfl⟩ := own_form h
  exact ⟨A, c, rfl, InsRow.own h rfl⟩
/-- A new row of one instruction, in the order of its cells. -/
theorem InsRow.lit (w : World) (x : InsD) (t : TypeId) (f : Nat × Nat) : InsRow (w.alloc (.cells #[.int .i64 x.op, .int .i64 x.a, .int .i64 x.b, .string (bs x.ty), .string (bs x.cl), .string (bs x.nm)] t f)) (some ⟨w.heap.size, 0, none⟩) 1 1 [x] := by
  refine ⟨rfl, Nat.le_refl _, fun _ => ⟨_, _, rfl, by simp, fun j y hy => ?_⟩⟩
  match j, hy with
  | 0, hy =>
    obtain rfl := Option.some.inj hy
    exact ⟨World.cell?_alloc_mark .., World.cell?_alloc_mark .., World.cell?_alloc_mark .., World.cell?_alloc_mark .., World.cell?_alloc_mark .., World.cell?_alloc_mark ..⟩
end
theorem ins_info : (Tryd.prog.info? 119).map (fun i => (i.zero, i.size, i.bytes)) = some (some (insV zeroI), 6, 72) := by kernel_rfl

section
variable {w : World} {ops : Array Oper} {rest : List Oper} {o : Oper} {a : Act} {Q : Exit → Act → World → Prop}
/-- Instructions behind instructions: the first a row of the call's own, the second any row. -/
theorem wpList_ins (hgd : o.guard = none) (s x : Operand) (ho : o.op = .call { callee := .builtin .append, args := #[s, x], argTypes := #[33, 33] })
    (base : Nat) (v : Value) (xs ys : List InsD) (hs : a.eval s = v) (hown : w.ownsRow base 119 6 v xs.length (xs.flatMap insC))
    (A : Option Addr) (m c : Nat) (hx : a.eval x = .slice A m c) (R : InsRow w A m c ys) (hm : 0 < m) (hn : (xs.length + m) * 72 ≤ 140737488355328) (hbase : base ≤ w.heap.size)
    (h : ∀ v' w', w'.ownsRow base 119 6 v' (xs ++ ys).length ((xs ++ ys).flatMap insC) → Below base w w' → wpList Tryd.prog ops Q rest (a.put o.dst v') w') : wpList Tryd.prog ops Q (o :: rest) a w := by
  obtain ⟨i0, hi, hz0, hz1, hz2⟩ := info_parts ins_info
  obtain ⟨h1, h2, h3⟩ := R
  obtain ⟨b, o', rfl, hb, hc⟩ := h3 hm
  refine wpList_append_own _ hgd s x 33 ho base 119 i0 (insV zeroI) 6 72 Tryd.underlying33 hi hz0 hz1 hz2 rfl (by decide) v xs.length (xs.flatMap insC) hs hown ⟨b, o', none⟩ m c (ys.flatMap insC) hx (by rw [cells_len, h1]) (fun j u hu => ?_) (cells_one ys) (by unfold maxLen; omega) (by omega) hbase ?_
  · obtain ⟨y, hy, hu⟩ := cells_get hu
    have := (hc _ _ hy).cell hu
    rw [ins_plain]
    rw [Nat.add_assoc, show j / 6 * 6 + j % 6 = j by omega] at this
    exact this
  · intro v' w' k1 k2 _
    exact h v' w' (by rw [List.flatMap_append, List.length_append, h1]; exact k1) ((Below.refl _ _).grown k2 hbase (fun q hq => (hown.lt q hq).1))
/-- The same, where the second may be none. -/
theorem wpList_ins_any (hgd : o.guard = none) (s x : Operand) (ho : o.op = .call { callee := .builtin .append, args := #[s, x], argTypes := #[33, 33] })
    (base : Nat) (v : Value) (xs ys : List InsD) (hs : a.eval s = v) (hown : w.ownsRow base 119 6 v xs.length (xs.flatMap insC))
    (A : Option Addr) (m c : Nat) (hx : a.eval x = .slice A m c) (R : InsRow w A m c ys) (hA : A = none → m = 0 ∧ c = 0) (hn : (xs.length + m) * 72 ≤ 140737488355328) (hbase : base ≤ w.heap.size)
    (h : ∀ v' w', w'.ownsRow base 119 6 v' (xs ++ ys).length ((xs ++ ys).flatMap insC) → Below base w w' → wpList Tryd.prog ops Q rest (a.put o.dst v') w') : wpList Tryd.prog ops Q (o :: rest) a w := by
  rcases Nat.eq_zero_or_pos m with rfl | hm
  · obtain ⟨i0, hi, hz0, hz1, hz2⟩ := info_parts ins_info
    obtain rfl : ys = [] := by simpa using R.1
    rw [List.append_nil] at h
    cases A with
    | none =>
      obtain ⟨_, rfl⟩ := hA rfl
      exact wpList_append_own_none hgd s x 33 ho base 119 i0 6 Tryd.underlying33 hi v xs.length (xs.flatMap insC) hs hown hx (h v w hown (Below.refl _ _))
    | some ad =>
      refine wpList_append_own _ hgd s x 33 ho base 119 i0 (insV zeroI) 6 72 Tryd.underlying33 hi hz0 hz1 hz2 rfl (by decide) v xs.length (xs.flatMap insC) hs hown ad 0 c [] hx rfl (fun j u hu => by simp at hu) (fun u hu => by cases hu) (by unfold maxLen; omega) (by omega) hbase ?_
      intro v' w' k1 k2 _
      rw [List.append_nil] at k1
      exact h v' w' k1 ((Below.refl _ _).grown k2 hbase (fun q hq => (hown.lt q hq).1))
  · exact wpList_ins hgd s x ho base v xs ys hs hown A m c hx R hm hn hbase h
end
end Go.Proofs.YtkolpbjpgobkcaaDoor
namespace Go.Proofs.YtkolpbjpgobkcaaDoor
open Go.ChangeShapes Go.WideShapes Go.ChangeAt Go.RowKit
set_option linter.unusedVariables false

def StrAt (w : World) (b o : Nat) (x : List UInt8) : Prop := w.cell? ⟨b, o, none⟩ = some (.string (bs x))
def FieldAt (w : World) (b o : Nat) (x : FieldD) : Prop := w.cell? ⟨b, o, none⟩ = some (.string (bs x.nm)) ∧ w.cell? ⟨b, o + 1, none⟩ = some (.string (bs x.ty))
def HandAt (w : World) (b o : Nat) (x : HandD) : Prop :=
  w.cell? ⟨b, o, none⟩ = some (.int .i64 x.fr) ∧ w.cell? ⟨b, o + 1, none⟩ = some (.int .i64 x.tu) ∧ w.cell? ⟨b, o + 2, none⟩ = some (.int .i64 x.pos) ∧ w.cell? ⟨b, o + 3, none⟩ = some (.string (bs x.cl))
/-- A slice in a cell, and the list that it is. -/
def SlotAt {α : Type} (R : World → Option Addr → Nat → Nat → List α → Prop) (w : World) (b o : Nat) (l : List α) : Prop :=
  ∃ A n c, w.cell? ⟨b, o, none⟩ = some (.slice A n c) ∧ R w A n c l ∧ (A = none → n = 0 ∧ c = 0)
def HandRow (w : World) (A : Option Addr) (n c : Nat) (l : List HandD) : Prop := SRow HandAt 4 w A n c l
def MethAt (w : World) (b o : Nat) (m : MethD) : Prop :=
  w.cell? ⟨b, o, none⟩ = some (.string (bs m.nm)) ∧ w.cell? ⟨b, o + 1, none⟩ = some (.string (bs m.ty)) ∧ w.cell? ⟨b, o + 2, none⟩ = some (.bool m.st) ∧ w.cell? ⟨b, o + 3, none⟩ = some (.bool m.ab) ∧
  w.cell? ⟨b, o + 4, none⟩ = some (.bool m.pr) ∧ w.cell? ⟨b, o + 5, none⟩ = some (.int .i64 m.lo) ∧ SlotAt InsRow w b (o + 6) m.code ∧ SlotAt HandRow w b (o + 7) m.hs
def StrRow (w : World) (A : Option Addr) (n c : Nat) (l : List (List UInt8)) : Prop := SRow StrAt 1 w A n c l
def FieldRow (w : World) (A : Option Addr) (n c : Nat) (l : List FieldD) : Prop := SRow FieldAt 2 w A n c l
def MethRow (w : World) (A : Option Addr) (n c : Nat) (l : List MethD) : Prop := SRow MethAt 8 w A n c l
def ClassAt (w : World) (b o : Nat) (c : ClassD) : Prop :=
  w.cell? ⟨b, o, none⟩ = some (.string (bs c.nm)) ∧ w.cell? ⟨b, o + 1, none⟩ = some (.string (bs c.su)) ∧ SlotAt StrRow w b (o + 2) c.faces ∧ w.cell? ⟨b, o + 3, none⟩ = some (.bool c.face) ∧
  SlotAt FieldRow w b (o + 4) c.fields ∧ SlotAt MethRow w b (o + 5) c.meths
/-- The value of a class: its texts, and the slices of its lists. -/
def classV (c : ClassD) (A : Option Addr) (i j : Nat) (B : Option Addr) (k l : Nat) (C : Option Addr) (m n : Nat) : Value := .agg #[.string (bs c.nm), .string (bs c.su), .slice A i j, .bool c.face, .slice B k l, .slice C m n]
def ClassRow (w : World) (A : Option Addr) (n c : Nat) (l : List ClassD) : Prop := SRow ClassAt 6 w A n c l

section
variable {w w' : World}
theorem str_stays : Stays StrAt := fun h hb hB => (hB.cell (by exact hb)).trans h
theorem field_stays : Stays FieldAt := fun h hb hB => ⟨(hB.cell (by exact hb)).trans h.1, (hB.cell (by exact hb)).trans h.2⟩
theorem hand_stays : Stays HandAt := fun h hb hB => ⟨(hB.cell (by exact hb)).trans h.1, (hB.cell (by exact hb)).trans h.2.1, (hB.cell (by exact hb)).trans h.2.2.1, (hB.cell (by exact hb)).trans h.2.2.2⟩
theorem slot_stays {α : Type} {R : World → Option Addr → Nat → Nat → List α → Prop} (hR : ∀ {w w' : World} {A n c l}, R w A n c l → Below w.heap.size w w' → R w' A n c l) : Stays (SlotAt R) := fun h hb hB => by
  obtain ⟨A, n, c, h1, h2, h3⟩ := h
  exact ⟨A, n, c, (hB.cell (by exact hb)).trans h1, hR h2 hB, h3⟩
theorem HandRow.below {A n c l} (h : HandRow w A n c l) (hb : Below w.heap.size w w') : HandRow w' A n c l := SRow.below hand_stays h hb
theorem StrRow.below {A n c l} (h : StrRow w A n c l) (hb : Below w.heap.size w w') : StrRow w' A n c l := SRow.below str_stays h hb
theorem FieldRow.below {A n c l} (h : FieldRow w A n c l) (hb : Below w.heap.size w w') : FieldRow w' A n c l := SRow.below field_stays h hb
theorem meth_stays : Stays MethAt := fun h hb hB => by
  obtain ⟨h0, h1, h2, h3, h4, h5, h6, h7⟩ := h
  exact ⟨(hB.cell (by exact hb)).trans h0, (hB.cell (by exact hb)).trans h1, (hB.cell (by exact hb)).trans h2, (hB.cell (by exact hb)).trans h3, (hB.cell (by exact hb)).trans h4, (hB.cell (by exact hb)).trans h5,
    slot_stays (R := InsRow) InsRow.below h6 hb hB, slot_stays (R := HandRow) HandRow.below h7 hb hB⟩
theorem MethRow.below {A n c l} (h : MethRow w A n c l) (hb : Below w.heap.size w w') : MethRow w' A n c l := SRow.below meth_stays h hb
theorem class_stays : Stays ClassAt := fun h hb hB => by
  obtain ⟨h0, h1, h2, h3, h4, h5⟩ := h
  exact ⟨(hB.cell (by exact hb)).trans h0, (hB.cell (by exact hb)).trans h1, slot_stays (R := StrRow) StrRow.below h2 hb hB, (hB.cell (by exact hb)).trans h3, slot_stays (R := FieldRow) FieldRow.below h4 hb hB, slot_stays (R := MethRow) MethRow.below h5 hb hB⟩
theorem ClassRow.below {A n c l} (h : ClassRow w A n c l) (hb : Below w.heap.size w w') : ClassRow w' A n c l := SRow.below class_stays h hb
theorem StrRow.row {A n c l} (h : StrRow w A n c l) : Row w A n c (l.map strV) :=
  ⟨by rw [List.length_map]; exact h.1, h.2.1, fun hn => by
    obtain ⟨b, o, e, hb, hc⟩ := h.2.2 hn
    refine ⟨b, o, e, hb, fun j u hu => ?_⟩
    rw [List.getElem?_map, Option.map_eq_some_iff] at hu
    obtain ⟨x, hx, rfl⟩ := hu
    have := hc j x hx
    rw [Nat.mul_one] at this
    exact this⟩
end
end Go.Proofs.YtkolpbjpgobkcaaDoor
namespace Go.Proofs.YtkolpbjpgobkcaaDoor
open Go.ChangeShapes Go.WideShapes Go.ChangeAt Go.RowKit
set_option linter.unusedVariables false

/-- A class in a block of its own. -/
def CBox (w : World) (b : Nat) (x : ClassD) (A : Option Addr) (i j : Nat) (B : Option Addr) (k l : Nat) (C : Option Addr) (m n : Nat) : Prop :=
  b < w.heap.size ∧ w.cell? ⟨b, 0, none⟩ = some (.string (bs x.nm)) ∧ w.cell? ⟨b, 1, none⟩ = some (.string (bs x.su)) ∧ w.cell? ⟨b, 2, none⟩ = some (.slice A i j) ∧ w.cell? ⟨b, 3, none⟩ = some (.bool x.face) ∧
  w.cell? ⟨b, 4, none⟩ = some (.slice B k l) ∧ w.cell? ⟨b, 5, none⟩ = some (.slice C m n)
theorem CBox.below {w w' : World} {b : Nat} {x : ClassD} {A : Option Addr} {i j : Nat} {B : Option Addr} {k l : Nat} {C : Option Addr} {m n : Nat} (h : CBox w b x A i j B k l C m n) (hb : Below w.heap.size w w') : CBox w' b x A i j B k l C m n := by
  obtain ⟨h0, h1, h2, h3, h4, h5, h6⟩ := h
  exact ⟨Nat.lt_of_lt_of_le h0 hb.size, (hb.cell (by exact h0)).trans h1, (hb.cell (by exact h0)).trans h2, (hb.cell (by exact h0)).trans h3, (hb.cell (by exact h0)).trans h4, (hb.cell (by exact h0)).trans h5, (hb.cell (by exact h0)).trans h6⟩
theorem CBox.drewN {w : World} {b : Nat} {x : ClassD} {A : Option Addr} {i j : Nat} {B : Option Addr} {k l : Nat} {C : Option Addr} {m n : Nat} (h : CBox w b x A i j B k l C m n) (q : Nat) : CBox (w.drewN q) b x A i j B k l C m n := h
theorem cbox_at (w : World) (x : ClassD) (A : Option Addr) (i j : Nat) (B : Option Addr) (k l : Nat) (C : Option Addr) (m n : Nat) (t : TypeId) (f : Nat × Nat) :
    CBox (w.alloc (.cells #[.string (bs x.nm), .string (bs x.su), .slice A i j, .bool x.face, .slice B k l, .slice C m n] t f)) w.heap.size x A i j B k l C m n :=
  ⟨by simp, World.cell?_alloc_mark .., World.cell?_alloc_mark .., World.cell?_alloc_mark .., World.cell?_alloc_mark .., World.cell?_alloc_mark .., World.cell?_alloc_mark ..⟩

/-! The first h elements of a slice. -/
theorem SRow.take {α : Type} {At : World → Nat → Nat → α → Prop} {k : Nat} {w : World} {A : Option Addr} {n c : Nat} {l : List α} (R : SRow At k w A n c l) {h : Nat} (hh : h ≤ n) : SRow At k w A h c (l.take h) := by
  obtain ⟨h1, h2, h3⟩ := R
  refine ⟨by rw [List.length_take]; omega, by omega, fun h0 => ?_⟩
  obtain ⟨b, o, e, hb, hc⟩ := h3 (by omega)
  refine ⟨b, o, e, hb, fun j x hx => hc j x ?_⟩
  have hj : j < h := by have := (List.getElem?_eq_some_iff.1 hx).1; rw [List.length_take] at this; omega
  rwa [List.getElem?_take_of_lt hj] at hx
/-- Where the first h elements of a slice begin. -/
def cut0 (A : Option Addr) (c s : Nat) : Option Addr := if c = 0 then A else A.map (·.add (0 * s))
theorem cut0_none {A : Option Addr} {c s : Nat} : cut0 A c s = none ↔ A = none := by
  unfold cut0
  split
  · exact Iff.rfl
  · cases A <;> simp
theorem SRow.cut {α : Type} {At : World → Nat → Nat → α → Prop} {k : Nat} {w : World} {A : Option Addr} {n c : Nat} {l : List α} (R : SRow At k w A n c l) {h : Nat} (hh : h ≤ n) (s : Nat) : SRow At k w (cut0 A c s) h c (l.take h) := by
  have R' := R.take hh
  refine ⟨R'.1, R'.2.1, fun h0 => ?_⟩
  obtain ⟨b, o, rfl, hb, hc⟩ := R'.2.2 h0
  refine ⟨b, o, ?_, hb, hc⟩
  unfold cut0
  split <;> simp [add_spotless]
theorem cut_any {t e : TypeId} {s : Nat} (h1 : Tryd.prog.underlying t = some (.slice (Tryd.prog.elem t))) (h2 : Tryd.prog.elem t = e) (h3 : ∀ w, (Go.sizeOf e).run Tryd.prog w = .ok s w) (A : Option Addr) (n c h : Nat) (hc : h ≤ c) (W : World) :
    (Instr.sliceAt t (.slice A n c) none (some (.int .i64 (h : Int))) none).run Tryd.prog W = .ok (.slice (cut0 A c s) h c) W := by
  rw [run_sliceAt_slice W _ _ _ _ _ h1, run_slice_h W _ _ n c h1 .i64 _ (by omega) (by omega), h2, h3]
  rfl
theorem cut_str (A : Option Addr) (n c h : Nat) (hc : h ≤ c) (W : World) : (Instr.sliceAt 27 (.slice A n c) none (some (.int .i64 (h : Int))) none).run Tryd.prog W = .ok (.slice (cut0 A c 1) h c) W :=
  cut_any (by kernel_rfl) (show Tryd.prog.elem 27 = 9 by kernel_rfl) (fun w => by kernel_rfl) A n c h hc W
theorem cut_field (A : Option Addr) (n c h : Nat) (hc : h ≤ c) (W : World) : (Instr.sliceAt 28 (.slice A n c) none (some (.int .i64 (h : Int))) none).run Tryd.prog W = .ok (.slice (cut0 A c 2) h c) W :=
  cut_any (by kernel_rfl) (show Tryd.prog.elem 28 = 95 by kernel_rfl) (fun w => by kernel_rfl) A n c h hc W
theorem cut_meth (A : Option Addr) (n c h : Nat) (hc : h ≤ c) (W : World) : (Instr.sliceAt 29 (.slice A n c) none (some (.int .i64 (h : Int))) none).run Tryd.prog W = .ok (.slice (cut0 A c 8) h c) W :=
  cut_any (by kernel_rfl) (show Tryd.prog.elem 29 = 36 by kernel_rfl) (fun w => by kernel_rfl) A n c h hc W
/-- A window, by what its run gives. -/
theorem wpList_cut {P : Program} {ops : Array Oper} {rest : List Oper} {a : Act} {Q : Exit → Act → World → Prop} {w : World} {t ty : TypeId} {x : Operand} {lo hi : Option Operand} {d : Option Tmp} {p : String} {af : Array Edge} (r : Value)
    (hr : (Instr.sliceAt t (a.eval x) (lo.map a.eval) (hi.map a.eval) none).run P w = .ok r w) (h : wpList P ops Q rest (a.put d r) w) : wpList P ops Q ({ dst := d, op := .slice t x lo hi none, type := ty, pos := p, after := af, guard := none } :: rest) a w := by
  refine wpList_plain rfl fun K hK => ?_
  unfold Oper.wp
  simp [execOp, hr, Result.andThen]
  exact hK _ _ h
theorem StrRow.take {w : World} {A : Option Addr} {n c : Nat} {l : List (List UInt8)} (R : StrRow w A n c l) {h : Nat} (hh : h ≤ n) : StrRow w A h c (l.take h) := SRow.take R hh
theorem FieldRow.take {w : World} {A : Option Addr} {n c : Nat} {l : List FieldD} (R : FieldRow w A n c l) {h : Nat} (hh : h ≤ n) : FieldRow w A h c (l.take h) := SRow.take R hh
theorem MethRow.take {w : World} {A : Option Addr} {n c : Nat} {l : List MethD} (R : MethRow w A n c l) {h : Nat} (hh : h ≤ n) : MethRow w A h c (l.take h) := SRow.take R hh
theorem sliced_pre (b o c h s : Nat) : sliced (some ⟨b, o, none⟩) 0 h c s = .slice (some ⟨b, o, none⟩) h c := by
  unfold sliced
  split <;> simp [add_spotless]
theorem size_str (w : World) : (Go.sizeOf 9).run Tryd.prog w = .ok 1 w := by kernel_rfl
theorem pre_str (b o n c h : Nat) (hc : h ≤ c) (W : World) : (Instr.sliceAt 27 (.slice (some ⟨b, o, none⟩) n c) none (some (.int .i64 (h : Int))) none).run Tryd.prog W = .ok (.slice (some ⟨b, o, none⟩) h c) W := by
  have e : Tryd.prog.underlying 27 = some (.slice (Tryd.prog.elem 27)) := by kernel_rfl
  have e2 : Tryd.prog.elem 27 = 9 := by kernel_rfl
  rw [run_sliceAt_slice W _ _ _ _ _ e, run_slice_h W _ _ n c e .i64 _ (by omega) (by omega), e2, size_str]
  show Result.ok (sliced (some ⟨b, o, none⟩) 0 h c 1) W = _
  rw [sliced_pre]
theorem size_meth (w : World) : (Go.sizeOf 36).run Tryd.prog w = .ok 8 w := by kernel_rfl
theorem pre_meth (b o n c h : Nat) (hc : h ≤ c) (W : World) : (Instr.sliceAt 29 (.slice (some ⟨b, o, none⟩) n c) none (some (.int .i64 (h : Int))) none).run Tryd.prog W = .ok (.slice (some ⟨b, o, none⟩) h c) W := by
  have e : Tryd.prog.underlying 29 = some (.slice (Tryd.prog.elem 29)) := by kernel_rfl
  have e2 : Tryd.prog.elem 29 = 36 := by kernel_rfl
  rw [run_sliceAt_slice W _ _ _ _ _ e, run_slice_h W _ _ n c e .i64 _ (by omega) (by omega), e2, size_meth]
  show Result.ok (sliced (some ⟨b, o, none⟩) 0 h c 8) W = _
  rw [sliced_pre]

end Go.Proofs.YtkolpbjpgobkcaaDoor
namespace Go.Proofs.YtkolpbjpgobkcaaDoor
open Go.ChangeShapes Go.WideShapes Go.ChangeAt Go.RowKit
set_option linter.unusedVariables false
attribute [local go_sem] eqGuard_errV_nil eqGuard_errV_iface eql_errV_nil neq_errV_nil eql_errV_form

theorem fjumps_any (x : InsD) (w : World) : Calls Tryd.prog 80 #[insV x] w fun e w' => e = .returned (.bool (jumpB x.op)) ∧ Below w.heap.size w w' := by
  obtain ⟨op, a, b, ty, cl, nm⟩ := x
  unfold insV
  go_enter Tryd.func80, Tryd.ntmps80
  go_wp2
  all_goals
    go_ret
    exact ⟨ret_bool (by simp only [jumpB]; first | (symm; apply decide_eq_true; omega) | (symm; apply decide_eq_false; omega) | (rw [Bool.eq_iff_iff]; simp; omega)), al1 _ _⟩
theorem fgoes_any (x : InsD) (w : World) : Calls Tryd.prog 81 #[insV x] w fun e w' => e = .returned (.bool (goesB x.op)) ∧ Below w.heap.size w w' := by
  obtain ⟨op, a, b, ty, cl, nm⟩ := x
  unfold insV
  simp only
  have hcase : op = 14 ∨ op = 26 ∨ op = 27 ∨ op = 28 ∨ (¬ op = 14 ∧ ¬ op = 26 ∧ ¬ op = 27 ∧ ¬ op = 28) := by omega
  rcases hcase with rfl | rfl | rfl | rfl | ⟨h1, h2, h3, h4⟩
  iterate 4
    · go_enter Tryd.func81, Tryd.ntmps81
      go_wp2
      go_ret
      exact ⟨rfl, al1 _ _⟩
  · have hg : goesB op = true := by simp [goesB, h1, h2, h3, h4]
    have e1 : (op == 14) = false := by simpa using h1
    have e2 : (op == 26) = false := by simpa using h2
    have e3 : (op == 27) = false := by simpa using h3
    have e4 : (op == 28) = false := by simpa using h4
    rw [hg]
    clear h1 h2 h3 h4 hg
    go_enter Tryd.func81, Tryd.ntmps81
    go_wp2
    go_ret
    exact ⟨rfl, al1 _ _⟩

theorem flowF_full {l : List InsD} (h : 40 < l.length) : flowF l = 4 := by unfold flowF; rw [if_pos h]
theorem flowF_bad {l : List InsD} (h : ¬ 40 < l.length) {j : Nat} (hj : j < l.length) (ht : ∀ x ∈ l.take j, insF x = 0) (hf : insF l[j] ≠ 0) : flowF l = insF l[j] := by
  have e := firstF_at hj ht hf
  unfold flowF
  rw [if_neg h, if_pos (by rw [e]; exact hf), e]
theorem flowF_far {l : List InsD} (h : ¬ 40 < l.length) (h0 : ∀ x ∈ l, insF x = 0) {j : Nat} (hj : j < l.length) (hf : farB l.length l[j] = true) : flowF l = 2 := by
  unfold flowF
  rw [if_neg h, if_neg (by rw [firstF_nil h0]; simp), if_pos (List.any_eq_true.2 ⟨_, List.getElem_mem hj, hf⟩)]
theorem flowF_last {l : List InsD} (h : ¬ 40 < l.length) (h0 : ∀ x ∈ l, insF x = 0) (hf : ∀ x ∈ l, farB l.length x = false) : flowF l = if lastGoesB l then 8 else 0 := by
  unfold flowF
  rw [if_neg h, if_neg (by rw [firstF_nil h0]; simp), if_neg]
  rw [Bool.not_eq_true, List.any_eq_false]
  intro x hx
  rw [hf x hx]; simp
theorem lastGoes_at {l : List InsD} {k : Nat} (hk : l.length = k) (h0 : ¬ k = 0) (h : k - 1 < l.length) : lastGoesB l = goesB l[k - 1].op := by
  subst hk
  unfold lastGoesB
  rw [List.getD_eq_getElem?_getD, List.getElem?_eq_getElem h, show (l.length == 0) = false by simpa using h0]
  rfl
theorem take_next {l : List InsD} {j : Nat} {p : InsD → Prop} (hj : j < l.length) (h : ∀ x ∈ l.take j, p x) (hg : p l[j]) : ∀ x ∈ l.take (j + 1), p x := by
  rw [List.take_succ_eq_append_getElem hj]
  intro x hx
  rcases List.mem_append.1 hx with hx | hx
  · exact h x hx
  · obtain rfl := List.mem_singleton.1 hx
    exact hg

set_option maxRecDepth 20000 in
set_option maxHeartbeats 4000000 in
theorem fcheck_any (l : List InsD) (A : Option Addr) (n c : Nat) (w : World) (T : Tab w) (R : InsRow w A n c l) (hw : ∀ x ∈ l, x.wf) (hf : ∀ x ∈ l, x.fits) :
    Calls Tryd.prog 72 #[.slice A n c] w fun e w' => e = .returned (errV (flowF l)) ∧ Below w.heap.size w w' := by
  have hl : l.length = n := R.1
  by_cases h40 : 40 < n
  · have HC := Lib.hid (flowF_full (l := l) (by omega))
    clear hl
    go_enter Tryd.func72, Tryd.ntmps72
    go_wp2
    go_ret
    exact ⟨ret_err (by rw [HC.out]; rfl), Below.refl _ _⟩
  · have HL := Lib.hid hl
    have HR := Lib.hid R
    have HT := Lib.hid T
    have HW := Lib.hid hw
    have HF := Lib.hid hf
    have H40 := Lib.hid (show ¬ 40 < l.length by omega)
    clear hl R T hw hf
    go_enter Tryd.func72, Tryd.ntmps72
    go_wp2_with fail
    go_loopw [4, 5, 14] (fun _ _ i wr => ∃ j : Nat, j ≤ n ∧ i = .int .i64 j ∧ Hid (∀ x ∈ l.take j, insF x = 0) ∧ Hid (Below w.heap.size w wr)) (fun _ _ i _ => n - (intOf i).toNat)
    case atStart => exact ⟨0, Nat.zero_le _, rfl, Lib.hid (fun x hx => by cases hx), Lib.hid (Below.refl _ _)⟩
    case round =>
      obtain ⟨j, hj, rfl, HG, HB⟩ := hrel
      by_cases hlt : j < n
      · obtain ⟨b1, o1, rfl, hb1, hx1⟩ := (HR.out.below HB.out).at_ hlt
        have hj1 : j < l.length := by rw [HL.out]; exact hlt
        have hfx := HF.out l[j] (List.getElem_mem _)
        have HX := fun w T => ins_check l[j] w T hfx.1 hfx.2.1 hfx.2.2
        clear hfx
        by_cases h0 : insF l[j] = 0
        · have HG2 := Lib.hid (take_next hj1 HG.out h0)
          rw [h0] at HX
          clear h0
          generalize l[j] = x at *
          obtain ⟨xo, xa, xb, xt, xc, xn⟩ := x
          obtain ⟨c0, c1, c2, c3, c4, c5⟩ := hx1
          unfold insV at HX
          replace HX := Lib.hid HX
          go_wp2_with (first
            | (go_at_call 79; (with_reducible refine (HX.out _ (HT.out.below (bnext HB.out (al1 _ _)))).mono ?_); rintro e w1 ⟨rfl, b1⟩
               have HB1 := Lib.hid (bnext (bnext HB.out (al1 _ _)) b1)
               clear b1))
          go_round
          case rel => exact ⟨j + 1, by omega, by go_num, HG2, HB1⟩
          case measure => first | (simp [intOf]; omega) | simp [intOf]
        · have HC := Lib.hid (flowF_bad H40.out hj1 HG.out h0)
          have hne : (insF l[j] != 0) = true := by rw [bne_iff_ne]; exact h0
          clear h0
          generalize insF l[j] = f at *
          generalize l[j] = x at *
          obtain ⟨xo, xa, xb, xt, xc, xn⟩ := x
          obtain ⟨c0, c1, c2, c3, c4, c5⟩ := hx1
          unfold insV at HX
          replace HX := Lib.hid HX
          go_wp2_with (first
            | (go_at_call 79; (with_reducible refine (HX.out _ (HT.out.below (bnext HB.out (al1 _ _)))).mono ?_); rintro e w1 ⟨rfl, b1⟩
               have HB1 := Lib.hid (bnext (bnext HB.out (al1 _ _)) b1)
               clear b1))
          go_ret
          exact ⟨ret_err (by rw [HC.out]; rfl), HB1.out⟩
      · obtain rfl : j = n := by omega
        have HG0 := HG.out
        rw [List.take_of_length_le (by rw [HL.out]; exact Nat.le_refl _)] at HG0
        replace HG0 := Lib.hid HG0
        clear HG hlt hj
        go_wp2_with fail
        go_loopw [7, 26] (fun _ i wr => ∃ k : Nat, k ≤ j ∧ i = .int .i64 k ∧ Hid (∀ x ∈ l.take k, farB j x = false) ∧ Hid (Below w.heap.size w wr)) (fun _ i _ => j - (intOf i).toNat)
        case atStart => exact ⟨0, Nat.zero_le _, rfl, Lib.hid (fun x hx => by cases hx), HB⟩
        case round =>
          obtain ⟨k, hk, rfl, HG, HB⟩ := hrel
          by_cases hlt : k < j
          · obtain ⟨b1, o1, rfl, hb1, hx1⟩ := (HR.out.below HB.out).at_ hlt
            have hj1 : k < l.length := by rw [HL.out]; exact hlt
            have HJ := fun w => fjumps_any l[k] w
            have HFar := Lib.hid (show farB l.length l[k] = true → flowF l = 2 from fun h => flowF_far H40.out HG0.out hj1 h)
            have HG2 := Lib.hid (show farB j l[k] = false → _ from fun h => take_next hj1 HG.out h)
            rw [HL.out] at HFar
            unfold farB at HFar
            generalize l[k] = x at *
            obtain ⟨xo, xa, xb, xt, xc, xn⟩ := x
            obtain ⟨c0, c1, c2, c3, c4, c5⟩ := hx1
            unfold insV at HJ
            have hsz := HB.out.size
            have hcase : (jumpB xo = false ∧ Hid (∀ x ∈ l.take (k + 1), farB j x = false)) ∨ (jumpB xo = true ∧ ¬ (j : Int) ≤ xa ∧ Hid (∀ x ∈ l.take (k + 1), farB j x = false)) ∨ (jumpB xo = true ∧ (j : Int) ≤ xa ∧ Hid (flowF l = 2)) := by
              cases hjb : jumpB xo with
              | false => exact .inl ⟨rfl, Lib.hid (HG2.out (by simp [farB, hjb]))⟩
              | true =>
                by_cases hna : (j : Int) ≤ xa
                · exact .inr (.inr ⟨rfl, hna, Lib.hid (HFar.out (by simp [hjb, hna]))⟩)
                · exact .inr (.inl ⟨rfl, hna, Lib.hid (HG2.out (by simp [farB, hjb, hna]))⟩)
            clear HFar HG2
            rcases hcase with ⟨hjb, HH⟩ | ⟨hjb, hna, HH⟩ | ⟨hjb, hna, HH⟩
            all_goals
              simp only [hjb] at HJ
              replace HJ := Lib.hid HJ
            · go_wp2_with (first
                | (go_at_call 80; (with_reducible refine (HJ.out _).mono ?_); rintro e w1 ⟨rfl, b1⟩
                   have HB1 := Lib.hid (bnext (bnext HB.out (al1 _ _)) b1)
                   clear b1))
              go_round
              case rel => exact ⟨k + 1, by omega, by go_num, HH, HB1⟩
              case measure => first | (simp [intOf]; omega) | simp [intOf]
            · go_wp2_with (first
                | (go_at_call 80; (with_reducible refine (HJ.out _).mono ?_); rintro e w1 ⟨rfl, b1⟩
                   have BX := box_new ⟨xo, xa, xb, xt, xc, xn⟩ _ _ rfl b1
                   obtain ⟨q0, q1, q2, q3, q4, q5, q6⟩ := BX.1
                   have HB1 := Lib.hid (bnext (bnext HB.out (al1 _ _)) b1)
                   clear b1 BX))
              go_round
              case rel => exact ⟨k + 1, by omega, by go_num, HH, HB1⟩
              case measure => first | (simp [intOf]; omega) | simp [intOf]
            · go_wp2_with (first
                | (go_at_call 80; (with_reducible refine (HJ.out _).mono ?_); rintro e w1 ⟨rfl, b1⟩
                   have BX := box_new ⟨xo, xa, xb, xt, xc, xn⟩ _ _ rfl b1
                   obtain ⟨q0, q1, q2, q3, q4, q5, q6⟩ := BX.1
                   have HB1 := Lib.hid (bnext (bnext HB.out (al1 _ _)) b1)
                   clear b1 BX))
              go_ret
              exact ⟨ret_err (by rw [HH.out]; rfl), HB1.out⟩
          · obtain rfl : k = j := by omega
            have HE := flowF_last H40.out HG0.out (by
              have h := HG.out
              rw [List.take_of_length_le (by rw [HL.out]; exact Nat.le_refl _)] at h
              rw [HL.out]; exact h)
            replace HE := Lib.hid HE
            clear HG
            by_cases h0 : k = 0
            · have hz : ((k : Int) == 0) = true := by simp [h0]
              have HZ := Lib.hid (show lastGoesB l = true by unfold lastGoesB; rw [HL.out, h0]; rfl)
              go_wp2
              go_ret
              exact ⟨ret_err (by rw [HE.out, HZ.out]; rfl), HB.out⟩
            · have hz : ((k : Int) == 0) = false := by rw [beq_eq_false_iff_ne]; omega
              obtain ⟨b1, o1, rfl, hb1, hx1⟩ := (HR.out.below HB.out).at_ (k := k - 1) (by omega)
              have HJ := fun w => fgoes_any (l[k - 1]'(by rw [HL.out]; omega)) w
              have HZ : lastGoesB l = goesB (l[k - 1]'(by rw [HL.out]; omega)).op := lastGoes_at HL.out h0 _
              generalize (l[k - 1]'(by rw [HL.out]; omega)) = x at *
              obtain ⟨xo, xa, xb, xt, xc, xn⟩ := x
              obtain ⟨c0, c1, c2, c3, c4, c5⟩ := hx1
              unfold insV at HJ
              simp only at HZ HJ
              have hk1 : IntKind.i64.wrap ((k : Int) - 1) = ((k - 1 : Nat) : Int) := by rw [IntKind.wrap_i64]; omega
              cases hgb : goesB xo
              all_goals
                rw [hgb] at HZ
                simp only [hgb] at HJ
                replace HZ := Lib.hid HZ
                replace HJ := Lib.hid HJ
                go_wp2_with (first
                  | (go_at_call 81; (with_reducible refine (HJ.out _).mono ?_); rintro e w1 ⟨rfl, b1⟩
                     have HB1 := Lib.hid (bnext HB.out b1)
                     clear b1))
                go_ret
                exact ⟨ret_err (by rw [HE.out, HZ.out]; rfl), HB1.out⟩
end Go.Proofs.YtkolpbjpgobkcaaDoor
namespace Go.Proofs.YtkolpbjpgobkcaaDoor
open Go.ChangeShapes Go.WideShapes Go.ChangeAt Go.RowKit
set_option linter.unusedVariables false
attribute [local go_sem] eqGuard_errV_nil eqGuard_errV_iface eql_errV_nil neq_errV_nil eql_errV_form

/-- class.Check returns the first fault of every class. -/
def ClassChecks : Prop := ∀ (x : ClassD) (A : Option Addr) (i j : Nat) (B : Option Addr) (k l : Nat) (C : Option Addr) (m n : Nat) (w : World), Tab w → StrRow w A i j x.faces → FieldRow w B k l x.fields → MethRow w C m n x.meths →
  (A = none → i = 0 ∧ j = 0) → (B = none → k = 0 ∧ l = 0) → (C = none → m = 0 ∧ n = 0) → x.upto 140737488351232 → x.wf →
  Calls Tryd.prog 32 #[classV x A i j B k l C m n] w fun e w' => e = .returned (errV (classF x)) ∧ Below w.heap.size w w'
theorem InsD.upto.more {x : InsD} {N M : Nat} (h : x.upto N) (hN : N ≤ M) : x.upto M := ⟨Nat.le_trans h.1 hN, Nat.le_trans h.2.1 hN, Nat.le_trans h.2.2 hN⟩
theorem HandD.upto.more {x : HandD} {N M : Nat} (h : x.upto N) (hN : N ≤ M) : x.upto M := Nat.le_trans h hN
theorem FieldD.upto.more {x : FieldD} {N M : Nat} (h : x.upto N) (hN : N ≤ M) : x.upto M := ⟨Nat.le_trans h.1 hN, Nat.le_trans h.2 hN⟩
theorem MethD.upto.more {x : MethD} {N M : Nat} (h : x.upto N) (hN : N ≤ M) : x.upto M :=
  ⟨Nat.le_trans h.1 hN, Nat.le_trans h.2.1 hN, ⟨fun y hy => (h.2.2.1.1 y hy).more hN, Nat.le_trans h.2.2.1.2 hN⟩, fun y hy => (h.2.2.2.1 y hy).more hN, Nat.le_trans h.2.2.2.2 hN⟩
theorem ClassD.upto.more {x : ClassD} {N M : Nat} (h : x.upto N) (hN : N ≤ M) : x.upto M :=
  ⟨Nat.le_trans h.1 hN, Nat.le_trans h.2.1 hN, ⟨fun y hy => Nat.le_trans (h.2.2.1.1 y hy) hN, Nat.le_trans h.2.2.1.2 hN⟩, ⟨fun y hy => (h.2.2.2.1.1 y hy).more hN, Nat.le_trans h.2.2.2.1.2 hN⟩, fun y hy => (h.2.2.2.2.1 y hy).more hN, Nat.le_trans h.2.2.2.2.2 hN⟩
theorem drew_behind {w a : World} {B : Nat} (h : Below B w a) : Below B w a.drew := h.drew

end Go.Proofs.YtkolpbjpgobkcaaDoor
