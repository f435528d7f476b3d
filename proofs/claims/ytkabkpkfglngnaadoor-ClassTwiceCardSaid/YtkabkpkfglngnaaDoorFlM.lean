/- Control flow on lists of instructions: what goes on, what jumps, what follows, what is reached; the search that marks what is found. No program. -/
import Derived.Test.YtkabkpkfglngnaaDoorCoG
namespace Go.Proofs.YtkabkpkfglngnaaDoor
open Go.RowKit
set_option linter.unusedVariables false

/-- Does the following instruction come next? Does the instruction jump? -/
def goesB (op : Int) : Bool := !decide (op = 14 ∨ op = 26 ∨ op = 27 ∨ op = 28)
def jumpB (op : Int) : Bool := decide (op = 12 ∨ op = 13 ∨ op = 14)
/-- What may follow the instruction x, which is the one at k. -/
def nextM (x : InsD) (k : Nat) : List Nat :=
  (if goesB x.op then [k + 1] else []) ++ (if jumpB x.op && !(goesB x.op && decide (x.a = (k : Int) + 1)) then [x.a.toNat] else [])
def aftM (l : List InsD) (k : Nat) : List Nat := nextM (l.getD k zeroI) k
theorem aft_at {l : List InsD} {k : Nat} (h : k < l.length) : aftM l k = nextM l[k] k := by
  unfold aftM
  rw [List.getD_eq_getElem?_getD, List.getElem?_eq_getElem h]; rfl
theorem aft_none {l : List InsD} {k : Nat} (h : l.length ≤ k) : aftM l k = [k + 1] := by
  unfold aftM
  rw [List.getD_eq_getElem?_getD, List.getElem?_eq_none h]
  rfl
/-- The first fault of code, as a number. -/
def farB (n : Nat) (x : InsD) : Bool := jumpB x.op && decide ((n : Int) ≤ x.a)
def lastGoesB (l : List InsD) : Bool := l.length == 0 || goesB (l.getD (l.length - 1) zeroI).op
def flowF (l : List InsD) : Nat :=
  if 40 < l.length then 4
  else if firstF l ≠ 0 then firstF l
  else if l.any (farB l.length) then 2
  else if lastGoesB l then 8
  else 0
/-- Valid code. -/
def FlowOk (l : List InsD) : Prop := l.length ≤ 40 ∧ (∀ x ∈ l, x.good) ∧ (∀ x ∈ l, jumpB x.op = true → x.a < (l.length : Int)) ∧ 0 < l.length ∧ goesB (l.getD (l.length - 1) zeroI).op = false

theorem good_jump {x : InsD} (h : insF x = 0) (hj : jumpB x.op = true) : 0 ≤ x.a ∧ x.a ≤ 40 := by
  obtain ⟨k, hx, h0, hk, ho, hr, ht, hn⟩ := insF_zero h
  unfold jumpB at hj
  have hj := of_decide_eq_true hj
  unfold rangeB at hr
  rw [if_neg (by omega), if_neg (by omega), if_neg (by omega)] at hr
  split at hr
  · rw [Bool.and_eq_true] at hr
    exact of_decide_eq_true hr.1
  · rw [if_pos (by omega)] at hr
    exact of_decide_eq_true hr
theorem flowF_ok {l : List InsD} (hw : ∀ x ∈ l, x.wf) : flowF l = 0 ↔ FlowOk l := by
  unfold flowF FlowOk
  constructor
  · intro h
    split at h
    · cases h
    · split at h
      · contradiction
      · split at h
        · cases h
        · split at h
          · cases h
          · rename_i h1 h2 h3 h4
            have h2' : firstF l = 0 := by simpa using h2
            have h3' : l.any (farB l.length) = false := by simpa using h3
            have h4' : lastGoesB l = false := by simpa using h4
            unfold lastGoesB at h4'
            rw [Bool.or_eq_false_iff] at h4'
            refine ⟨by omega, fun x hx => ⟨hw x hx, firstF_zero h2' x hx⟩, fun x hx hj => ?_, ?_, h4'.2⟩
            · have := List.any_eq_false.1 h3' x hx
              unfold farB at this
              rw [hj, Bool.true_and, decide_eq_true_eq] at this
              omega
            · have := h4'.1
              rw [beq_eq_false_iff_ne] at this
              omega
  · rintro ⟨h1, h2, h3, h4, h5⟩
    rw [if_neg (by omega), if_neg (by rw [firstF_nil (fun x hx => (h2 x hx).2)]; simp), if_neg ?_, if_neg ?_]
    · unfold lastGoesB
      rw [h5, Bool.or_false]
      simp
      intro h; subst h; exact absurd h4 (by simp)
    · simp only [Bool.not_eq_true]
      rw [List.any_eq_false]
      intro x hx
      unfold farB
      simp only [Bool.and_eq_true, decide_eq_true_eq, not_and]
      intro hj
      have := h3 x hx hj
      omega
theorem aft_lt {l : List InsD} (h : FlowOk l) {k : Nat} (hk : k < l.length) : ∀ j ∈ aftM l k, j < l.length := by
  obtain ⟨h1, h2, h3, h4, h5⟩ := h
  intro j hj
  rw [aft_at hk] at hj
  unfold nextM at hj
  have hx : l[k] ∈ l := List.getElem_mem hk
  rcases List.mem_append.1 hj with hj | hj
  · split at hj
    · rename_i hg
      obtain rfl := List.mem_singleton.1 hj
      by_cases e : k + 1 = l.length
      · rw [show l.length - 1 = k by omega, List.getD_eq_getElem?_getD, List.getElem?_eq_getElem hk] at h5
        have h5' : goesB l[k].op = false := h5
        rw [h5'] at hg; cases hg
      · omega
    · cases hj
  · split at hj
    · rename_i hg
      obtain rfl := List.mem_singleton.1 hj
      rw [Bool.and_eq_true] at hg
      have := h3 _ hx hg.1
      have := (good_jump (h2 _ hx).2 hg.1).1
      omega
    · cases hj

/-! What is reached. -/
inductive Path (l : List InsD) : Nat → Nat → Prop
  | here (k : Nat) : Path l k k
  | step {k j i : Nat} : j ∈ aftM l k → Path l j i → Path l k i
theorem Path.more {l : List InsD} {k i j : Nat} (h : Path l k i) (hj : j ∈ aftM l i) : Path l k j := by
  induction h with
  | here k => exact .step hj (.here _)
  | step h1 _ ih => exact .step h1 (ih hj)
theorem Path.last {l : List InsD} {k i : Nat} (h : Path l k i) : i = k ∨ ∃ t, Path l k t ∧ i ∈ aftM l t := by
  induction h with
  | here k => exact .inl rfl
  | step h1 h2 ih =>
    rcases ih with rfl | ⟨t, ht, hi⟩
    · exact .inr ⟨_, .here _, h1⟩
    · exact .inr ⟨t, .step h1 ht, hi⟩
theorem Path.lt {l : List InsD} (h : FlowOk l) {k i : Nat} (hp : Path l k i) (hk : k < l.length) : i < l.length := by
  induction hp with
  | here k => exact hk
  | step h1 _ ih => exact ih (aft_lt h hk _ h1)
/-- A set that holds the start and what follows its elements holds what is reached. -/
theorem Path.within {l : List InsD} {k i : Nat} (hp : Path l k i) (f : Nat → Bool) (h0 : f k = true) (hc : ∀ t, f t = true → ∀ j ∈ aftM l t, f j = true) : f i = true := by
  induction hp with
  | here k => exact h0
  | step h1 _ ih => exact ih (hc _ h0 _ h1)
/-- xs: the indices of what is reached from the first, in order. -/
def ReachL (l : List InsD) (xs : List Nat) : Prop := ∃ f : Nat → Bool, (∀ i, i < l.length → (f i = true ↔ Path l 0 i)) ∧ xs = (List.range l.length).filter f
theorem filter_same {n : Nat} {f g : Nat → Bool} (h : ∀ i, i < n → f i = g i) : (List.range n).filter f = (List.range n).filter g :=
  List.filter_congr fun i hi => h i (List.mem_range.1 hi)
theorem ReachL.of {l : List InsD} {xs : List Nat} (h : ReachL l xs) {g : Nat → Bool} (hg : ∀ i, i < l.length → (g i = true ↔ Path l 0 i)) : (List.range l.length).filter g = xs := by
  obtain ⟨f, hf, rfl⟩ := h
  apply filter_same
  intro i hi
  rw [Bool.eq_iff_iff, hf i hi, hg i hi]
theorem reach_exists (l : List InsD) : ∃ xs, ReachL l xs := by
  classical
  exact ⟨_, fun i => decide (Path l 0 i), fun i _ => by simp, rfl⟩
theorem ReachL.mem {l : List InsD} {xs : List Nat} (h : ReachL l xs) (i : Nat) : i ∈ xs ↔ i < l.length ∧ Path l 0 i := by
  obtain ⟨f, hf, rfl⟩ := h
  rw [List.mem_filter, List.mem_range]
  constructor
  · rintro ⟨h1, h2⟩; exact ⟨h1, (hf i h1).1 h2⟩
  · rintro ⟨h1, h2⟩; exact ⟨h1, (hf i h1).2 h2⟩
theorem ReachL.length {l : List InsD} {xs : List Nat} (h : ReachL l xs) : xs.length ≤ l.length := by
  obtain ⟨f, hf, rfl⟩ := h
  exact Nat.le_trans (List.length_filter_le _ _) (by simp)

/-! The search: f is what was found ahead, g what is found behind. -/
def Marks (l : List InsD) (f g : Nat → Bool) (k : Nat) : Prop :=
  (∀ i, f i = true → g i = true) ∧ g k = true ∧ (∀ i, g i = true → f i = false → Path l k i) ∧ (∀ i, g i = true → f i = false → ∀ j ∈ aftM l i, g j = true)
/-- The search at k: f ahead; p is what of its followers was looked at, g what is found so far. -/
def Marking (l : List InsD) (f g : Nat → Bool) (k : Nat) (p : List Nat) : Prop :=
  (∀ i, f i = true → g i = true) ∧ g k = true ∧ (∀ i, g i = true → f i = false → Path l k i) ∧ (∀ i, g i = true → f i = false → i ≠ k → ∀ j ∈ aftM l i, g j = true) ∧ (∀ j ∈ p, g j = true)
theorem Marking.start (l : List InsD) (f : Nat → Bool) (k : Nat) : Marking l f (fun j => if j = k then true else f j) k [] := by
  refine ⟨fun i hi => ?_, by simp, fun i hi hf => ?_, fun i hi hf hk => ?_, fun j hj => by cases hj⟩
  · show (if i = k then true else f i) = true
    split
    · rfl
    · exact hi
  · replace hi : (if i = k then true else f i) = true := hi
    split at hi
    · rename_i e; subst e; exact .here _
    · rw [hf] at hi; cases hi
  · replace hi : (if i = k then true else f i) = true := hi
    rw [if_neg hk, hf] at hi; cases hi
theorem Marking.skip {l : List InsD} {f g : Nat → Bool} {k j : Nat} {p : List Nat} (h : Marking l f g k p) (hj : g j = true) : Marking l f g k (p ++ [j]) :=
  ⟨h.1, h.2.1, h.2.2.1, h.2.2.2.1, fun i hi => by
    rcases List.mem_append.1 hi with h1 | h1
    · exact h.2.2.2.2 i h1
    · obtain rfl := List.mem_singleton.1 h1; exact hj⟩
theorem Marking.call {l : List InsD} {f g g' : Nat → Bool} {k j : Nat} {p : List Nat} (h : Marking l f g k p) (hj : j ∈ aftM l k) (hm : Marks l g g' j) : Marking l f g' k (p ++ [j]) := by
  obtain ⟨h1, h2, h3, h4, h5⟩ := h
  obtain ⟨m1, m2, m3, m4⟩ := hm
  refine ⟨fun i hi => m1 i (h1 i hi), m1 k h2, fun i hi hf => ?_, fun i hi hf hk t ht => ?_, fun i hi => ?_⟩
  · cases hg : g i with
    | true => exact h3 i hg hf
    | false => exact .step hj (m3 i hi hg)
  · cases hg : g i with
    | true => exact m1 t (h4 i hg hf hk t ht)
    | false => exact m4 i hi hg t ht
  · rcases List.mem_append.1 hi with h6 | h6
    · exact m1 i (h5 i h6)
    · obtain rfl := List.mem_singleton.1 h6; exact m2
theorem Marking.done {l : List InsD} {f g : Nat → Bool} {k : Nat} (h : Marking l f g k (aftM l k)) : Marks l f g k := by
  obtain ⟨h1, h2, h3, h4, h5⟩ := h
  refine ⟨h1, h2, h3, fun i hi hf => ?_⟩
  by_cases e : i = k
  · subst e; exact h5
  · exact h4 i hi hf e
theorem Marks.reach {l : List InsD} {g : Nat → Bool} (h : Marks l (fun _ => false) g 0) (i : Nat) : g i = true ↔ Path l 0 i :=
  ⟨fun hi => h.2.2.1 i hi rfl, fun hp => hp.within g h.2.1 fun t ht => h.2.2.2 t ht rfl⟩

/-! How many are not found yet. -/
def cnt (f : Nat → Bool) : Nat → Nat
  | 0 => 0
  | n + 1 => cnt f n + (if f n = true then 0 else 1)
theorem cnt_le {f g : Nat → Bool} (h : ∀ i, f i = true → g i = true) (n : Nat) : cnt g n ≤ cnt f n := by
  induction n with
  | zero => exact Nat.le_refl _
  | succ n ih =>
    show cnt g n + (if g n = true then 0 else 1) ≤ cnt f n + (if f n = true then 0 else 1)
    cases hf : f n with
    | true => rw [h n hf]; exact ih
    | false => simp only [Bool.false_eq_true, if_false]; split <;> omega
theorem cnt_lt {f g : Nat → Bool} (h : ∀ i, f i = true → g i = true) {k : Nat} (hk : f k = false) (hg : g k = true) : ∀ {n : Nat}, k < n → cnt g n < cnt f n
  | 0, hn => by omega
  | n + 1, hn => by
    show cnt g n + (if g n = true then 0 else 1) < cnt f n + (if f n = true then 0 else 1)
    by_cases e : k = n
    · subst e
      have := cnt_le h k
      rw [hk, hg]
      simp only [if_true, Bool.false_eq_true, if_false]
      omega
    · have := cnt_lt h hk hg (n := n) (by omega)
      cases hf : f n with
      | true => rw [h n hf]; simp only [if_true]; omega
      | false => simp only [Bool.false_eq_true, if_false]; split <;> omega
theorem cnt_top (f : Nat → Bool) (n : Nat) : cnt f n ≤ n := by
  induction n with
  | zero => exact Nat.le_refl _
  | succ n ih => show cnt f n + (if f n = true then 0 else 1) ≤ n + 1; split <;> omega
theorem cnt_pos {f : Nat → Bool} {k n : Nat} (hk : f k = false) (hn : k < n) : 0 < cnt f n :=
  Nat.lt_of_le_of_lt (Nat.zero_le _) (cnt_lt (g := fun _ => true) (fun _ _ => rfl) hk rfl hn)
end Go.Proofs.YtkabkpkfglngnaaDoor
