/- The reference's Every: a class and all above it, sorted. -/
import Derived.Test.YthcjdkjjjlpjaaaDoorWoN
import Derived.Sort.Walk0
namespace Go.Proofs.YthcjdkjjjlpjaaaDoor
open Go.ChangeShapes Go.WideShapes Go.ChangeAt Go.RowKit
set_option linter.unusedVariables false

/-- A class and all above it, each once, bytewise. -/
def Sorted (l : List ClassD) (y : List UInt8) (out : List (List UInt8)) : Prop := out.Pairwise (· < ·) ∧ ∀ x, x ∈ out ↔ x = y ∨ Up l y x
theorem lt_or {a b : List UInt8} (h : ¬ a < b) (hn : a ≠ b) : b < a := by
  rcases List.le_iff_lt_or_eq.1 (List.not_lt.1 h) with h | h
  · exact h
  · exact absurd h.symm hn
theorem sorted_nodup {l : List (List UInt8)} (h : l.Pairwise (· < ·)) : l.Nodup := h.imp fun {a b} hab e => by subst e; exact List.lt_irrefl _ hab
theorem sorted_one : ∀ {s t : List (List UInt8)}, s.Pairwise (· < ·) → t.Pairwise (· < ·) → (∀ x, x ∈ s ↔ x ∈ t) → s = t
  | [], t, _, _, h => by
    cases t with
    | nil => rfl
    | cons b u => exact absurd ((h b).2 (by simp)) (by simp)
  | a :: s, t, hs, ht, h => by
    cases t with
    | nil => exact absurd ((h a).1 (by simp)) (by simp)
    | cons b u =>
      obtain ⟨h1, h2⟩ := List.pairwise_cons.1 hs
      obtain ⟨k1, k2⟩ := List.pairwise_cons.1 ht
      have hab : a = b := by
        rcases List.mem_cons.1 ((h a).1 (by simp)) with e | e
        · exact e
        · rcases List.mem_cons.1 ((h b).2 (by simp)) with e' | e'
          · exact e'.symm
          · exact absurd (List.lt_trans (h1 b e') (k1 a e)) (List.lt_irrefl _)
      subst hab
      rw [sorted_one h2 k2 fun x => ?_]
      constructor
      · intro hx
        rcases List.mem_cons.1 ((h x).1 (by simp [hx])) with e | e
        · subst e; exact absurd (h1 x hx) (List.lt_irrefl _)
        · exact e
      · intro hx
        rcases List.mem_cons.1 ((h x).2 (by simp [hx])) with e | e
        · subst e; exact absurd (k1 x hx) (List.lt_irrefl _)
        · exact e
theorem Sorted.one {l : List ClassD} {y : List UInt8} {s t : List (List UInt8)} (h : Sorted l y s) (k : Sorted l y t) : s = t := sorted_one h.1 k.1 fun x => (h.2 x).trans (k.2 x).symm

/-- The least ones of m, in order. -/
def Chosen (m out : List (List UInt8)) : Prop := out.Pairwise (· < ·) ∧ (∀ x ∈ out, x ∈ m) ∧ ∀ x ∈ m, x ∉ out → ∀ z ∈ out, z < x
/-- b is the least of the first a of m that are not chosen; empty: there is none. -/
def Least (m out : List (List UInt8)) (a : Nat) (b : List UInt8) : Prop := (b = [] ∧ ∀ x ∈ m.take a, x ∈ out) ∨ (b ≠ [] ∧ b ∈ m ∧ b ∉ out ∧ ∀ x ∈ m.take a, x ∉ out → ¬ x < b)
theorem chosen_start (m : List (List UInt8)) : Chosen m [] := ⟨List.Pairwise.nil, fun x hx => (by cases hx), fun x _ _ z hz => (by cases hz)⟩
theorem least_start (m out : List (List UInt8)) : Least m out 0 [] := .inl ⟨rfl, fun x hx => (by cases hx)⟩
section
variable {m out : List (List UInt8)} {a : Nat} {b : List UInt8}
theorem take_mem (ha : a < m.length) {x : List UInt8} (hx : x ∈ m.take (a + 1)) : x ∈ m.take a ∨ x = m[a] := by
  rw [List.take_succ_eq_append_getElem ha] at hx
  rcases List.mem_append.1 hx with hx | hx
  · exact .inl hx
  · exact .inr (List.mem_singleton.1 hx)
theorem Least.skip (h : Least m out a b) (ha : a < m.length) (hx : m[a] ∈ out) : Least m out (a + 1) b := by
  rcases h with ⟨h1, h2⟩ | ⟨h1, h2, h3, h4⟩
  · refine .inl ⟨h1, fun x hx' => ?_⟩
    rcases take_mem ha hx' with h | rfl
    · exact h2 x h
    · exact hx
  · refine .inr ⟨h1, h2, h3, fun x hx' hn => ?_⟩
    rcases take_mem ha hx' with h | rfl
    · exact h4 x h hn
    · exact absurd hx hn
theorem Least.keep (h : Least m out a b) (ha : a < m.length) (hb : b ≠ []) (hx : ¬ m[a] < b) : Least m out (a + 1) b := by
  rcases h with ⟨h1, h2⟩ | ⟨h1, h2, h3, h4⟩
  · exact absurd h1 hb
  · refine .inr ⟨h1, h2, h3, fun x hx' hn => ?_⟩
    rcases take_mem ha hx' with h | rfl
    · exact h4 x h hn
    · exact hx
theorem Least.take (h : Least m out a b) (ha : a < m.length) (hx : m[a] ∉ out) (hne : m[a] ≠ []) (hb : b = [] ∨ m[a] < b) : Least m out (a + 1) m[a] := by
  refine .inr ⟨hne, List.getElem_mem ha, hx, fun x hx' hn => ?_⟩
  rcases take_mem ha hx' with h' | rfl
  · rcases h with ⟨h1, h2⟩ | ⟨h1, h2, h3, h4⟩
    · exact absurd (h2 x h') hn
    · rcases hb with hb | hb
      · exact absurd hb h1
      · exact fun hlt => h4 x h' hn (List.lt_trans hlt hb)
  · exact List.lt_irrefl _
theorem Chosen.put (h : Chosen m out) (hl : Least m out m.length b) (hm : m.Nodup) (hlen : out.length < m.length) : b ≠ [] ∧ Chosen m (out ++ [b]) := by
  have hex : ∃ x ∈ m, x ∉ out := by
    refine Classical.byContradiction fun hc => ?_
    have : ∀ x ∈ m, x ∈ out := fun x hx => Classical.byContradiction fun hn => hc ⟨x, hx, hn⟩
    have := nodup_le hm this
    omega
  obtain ⟨x, hx, hxo⟩ := hex
  unfold Least at hl
  rw [List.take_length] at hl
  rcases hl with ⟨_, h2⟩ | ⟨h1, h2, h3, h4⟩
  · exact absurd (h2 x hx) hxo
  · refine ⟨h1, ?_, fun z hz => ?_, fun u hu hn z hz => ?_⟩
    · rw [List.pairwise_append]
      exact ⟨h.1, List.pairwise_singleton _ _, fun z hz u hu => by obtain rfl := List.mem_singleton.1 hu; exact h.2.2 _ h2 h3 z hz⟩
    · rcases List.mem_append.1 hz with hz | hz
      · exact h.2.1 z hz
      · obtain rfl := List.mem_singleton.1 hz; exact h2
    · have hn1 : u ∉ out := fun hc => hn (List.mem_append_left _ hc)
      rcases List.mem_append.1 hz with hz | hz
      · exact h.2.2 u hu hn1 z hz
      · obtain rfl := List.mem_singleton.1 hz
        exact lt_or (h4 u hu hn1) (fun e => hn (List.mem_append_right _ (by rw [e]; simp)))
theorem Chosen.len (h : Chosen m out) : out.length ≤ m.length := nodup_le (sorted_nodup h.1) h.2.1
theorem Chosen.all (h : Chosen m out) (hm : m.Nodup) (hlen : m.length ≤ out.length) (x : List UInt8) : x ∈ out ↔ x ∈ m := by
  refine ⟨h.2.1 x, fun hx => Classical.byContradiction fun hn => ?_⟩
  have := nodup_le (m := m) (List.nodup_cons.2 ⟨hn, sorted_nodup h.1⟩) fun z hz => by
    rcases List.mem_cons.1 hz with rfl | hz
    · exact hx
    · exact h.2.1 z hz
  simp only [List.length_cons] at this
  omega
end
theorem name_pos {x : List UInt8} (h : nameB x = true) : x ≠ [] := fun e => by subst e; cases h
theorem Joined.pos {l : List ClassD} (h : Joined l) {x : List UInt8} (hk : knownB l x = true) : x ≠ [] := by
  obtain ⟨c, hc⟩ := known_some hk
  rcases classOf_in hc with ⟨rfl, _⟩ | ⟨rfl, _⟩ | ⟨hm, rfl⟩
  · decide
  · decide
  · have := (classF_zero.1 (h.cls hm)).1
    unfold headB_ at this
    rw [Bool.and_eq_true] at this
    exact name_pos this.1

theorem less_yes {x b : List UInt8} (h : x < b) : Op.bytesLess (bs x).toList (bs b).toList = true := by rw [bytesLess_eq, ByteArray.toList_eq, ByteArray.toList_eq]; exact decide_eq_true h
theorem less_no {x b : List UInt8} (h : ¬ x < b) : Op.bytesLess (bs x).toList (bs b).toList = false := by rw [bytesLess_eq, ByteArray.toList_eq, ByteArray.toList_eq]; exact decide_eq_false h
def lenV : Value → Nat
  | .slice _ n _ => n
  | _ => 0
end Go.Proofs.YthcjdkjjjlpjaaaDoor
