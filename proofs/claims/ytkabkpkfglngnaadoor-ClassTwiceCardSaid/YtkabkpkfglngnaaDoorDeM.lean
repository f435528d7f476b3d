/- Types and method types as lists of bytes: plain facts, no program. -/
import Derived.Test.YtkabkpkfglngnaaDoorNa
namespace Go.Proofs.YtkabkpkfglngnaaDoor
set_option linter.unusedVariables false

/-- How many bytes stand ahead of the first semicolon. -/
def semi (l : List UInt8) : Nat := (l.takeWhile (· != 59)).length
/-- The length of the type without brackets that l begins with; 0: none. -/
def itemLen : List UInt8 → Nat
  | [] => 0
  | c :: r => if c = 73 ∨ c = 74 then 1 else if c = 76 ∧ semi r < r.length ∧ nameB (r.take (semi r)) = true then semi r + 2 else 0
def brk (l : List UInt8) : Nat := (l.takeWhile (· == 91)).length
def typeLen (l : List UInt8) : Nat := if brk l ≤ 3 ∧ itemLen (l.drop (brk l)) ≠ 0 then brk l + itemLen (l.drop (brk l)) else 0
def isTypeB (l : List UInt8) : Bool := decide (typeLen l ≠ 0 ∧ typeLen l = l.length)

theorem tw_len_le {α : Type} (p : α → Bool) (l : List α) : (l.takeWhile p).length ≤ l.length := (List.takeWhile_sublist p).length_le
theorem brk_le (l : List UInt8) : brk l ≤ l.length := tw_len_le _ _
theorem semi_le (l : List UInt8) : semi l ≤ l.length := tw_len_le _ _
theorem tw_lt {α : Type} (p : α → Bool) : ∀ (l : List α) (k : Nat) (h : k < (l.takeWhile p).length), ∃ h' : k < l.length, p l[k] = true
  | [], k, h => by simp at h
  | a :: r, k, h => by
    by_cases ha : p a = true
    · rw [List.takeWhile_cons_of_pos ha, List.length_cons] at h
      cases k with
      | zero => exact ⟨by simp, ha⟩
      | succ k =>
        obtain ⟨h1, h2⟩ := tw_lt p r k (by omega)
        exact ⟨by simp; omega, by simpa using h2⟩
    · rw [List.takeWhile_cons_of_neg (by simpa using ha)] at h
      simp at h
theorem tw_at {α : Type} (p : α → Bool) : ∀ (l : List α) (h : (l.takeWhile p).length < l.length), p l[(l.takeWhile p).length] = false
  | [], h => by simp at h
  | a :: r, h => by
    by_cases ha : p a = true
    · have e := List.takeWhile_cons_of_pos (l := r) ha
      have h' : (r.takeWhile p).length < r.length := by rw [e] at h; simpa using h
      have := tw_at p r h'
      simp only [e, List.length_cons, List.getElem_cons_succ]
      exact this
    · have ha' : ¬ p a = true := ha
      have e := List.takeWhile_cons_of_neg (l := r) ha'
      simp only [e, List.length_nil, List.getElem_cons_zero]
      simpa using ha
/-- The bytes ahead are told: then the count is known. -/
theorem tw_eq {α : Type} (p : α → Bool) : ∀ (l : List α) (k : Nat) (hk : k ≤ l.length), (∀ j (h : j < k), p (l[j]'(by omega)) = true) → (∀ h : k < l.length, p l[k] = false) → (l.takeWhile p).length = k
  | [], k, hk, _, _ => by simp at hk; simp [hk]
  | a :: r, 0, _, _, h1 => by
    have : p a = false := h1 (Nat.zero_lt_succ _)
    rw [List.takeWhile_cons_of_neg (by simp [this])]
    rfl
  | a :: r, k + 1, hk, h0, h1 => by
    have ha : p a = true := by simpa using h0 0 (by omega)
    rw [List.takeWhile_cons_of_pos ha, List.length_cons, tw_eq p r k (by simpa using hk) (fun j hj => by simpa using h0 (j + 1) (by omega)) (fun h => h1 (Nat.succ_lt_succ h))]
theorem tw_append {α : Type} (p : α → Bool) (l u : List α) (h : (l.takeWhile p).length < l.length) : ((l ++ u).takeWhile p).length = (l.takeWhile p).length := by
  refine tw_eq p _ _ (by simp; omega) (fun j hj => ?_) (fun h' => ?_)
  · obtain ⟨a, b⟩ := tw_lt p l j hj
    rw [List.getElem_append_left a]; exact b
  · rw [List.getElem_append_left h]; exact tw_at p l h
theorem tw_take {α : Type} (p : α → Bool) (l : List α) (n : Nat) (h : (l.takeWhile p).length < l.length) (hn : (l.takeWhile p).length < n) : ((l.take n).takeWhile p).length = (l.takeWhile p).length := by
  refine tw_eq p _ _ (by simp; omega) (fun j hj => ?_) (fun h' => ?_)
  · obtain ⟨a, b⟩ := tw_lt p l j hj
    rw [List.getElem_take]; exact b
  · rw [List.getElem_take]; exact tw_at p l h

theorem itemLen_le : ∀ l : List UInt8, itemLen l ≤ l.length
  | [] => by simp [itemLen]
  | c :: r => by
    simp only [itemLen, List.length_cons]
    by_cases h1 : c = 73 ∨ c = 74
    · simp [h1]
    · by_cases h2 : c = 76 ∧ semi r < r.length ∧ nameB (r.take (semi r)) = true
      · rw [if_neg h1, if_pos h2]; omega
      · rw [if_neg h1, if_neg h2]; omega
theorem itemLen_append : ∀ (l u : List UInt8), itemLen l ≠ 0 → itemLen (l ++ u) = itemLen l
  | [], u, h => by simp [itemLen] at h
  | c :: r, u, h => by
    simp only [itemLen, List.cons_append] at h ⊢
    by_cases h1 : c = 73 ∨ c = 74
    · simp only [h1, if_true]
    · simp only [h1, if_false] at h ⊢
      by_cases h2 : c = 76 ∧ semi r < r.length ∧ nameB (r.take (semi r)) = true
      · have e : semi (r ++ u) = semi r := tw_append _ r u h2.2.1
        have e2 : (r ++ u).take (semi r) = r.take (semi r) := List.take_append_of_le_length (by omega)
        have h3 : semi r < (r ++ u).length := by simp; omega
        rw [e, e2, if_pos h2, if_pos ⟨h2.1, h3, h2.2.2⟩]
      · simp [h2] at h
theorem itemLen_take : ∀ (l : List UInt8), itemLen l ≠ 0 → itemLen (l.take (itemLen l)) = itemLen l
  | [], h => by simp [itemLen] at h
  | c :: r, h => by
    by_cases h1 : c = 73 ∨ c = 74
    · have e : itemLen (c :: r) = 1 := by simp only [itemLen, h1, if_true]
      rw [e]; simp only [List.take_succ_cons, itemLen, h1, if_true]
    · by_cases h2 : c = 76 ∧ semi r < r.length ∧ nameB (r.take (semi r)) = true
      · have e : itemLen (c :: r) = semi r + 2 := by simp only [itemLen, h1, if_false, if_pos h2]
        have e1 : semi (r.take (semi r + 1)) = semi r := tw_take _ r _ h2.2.1 (by show semi r < _; omega)
        have e2 : (r.take (semi r + 1)).take (semi r) = r.take (semi r) := by rw [List.take_take]; congr 1; omega
        have e3 : semi r < (r.take (semi r + 1)).length := by simp; omega
        rw [e, List.take_succ_cons]
        simp only [itemLen, h1, if_false, e1, e2]
        rw [if_pos ⟨h2.1, e3, h2.2.2⟩]
      · simp only [itemLen, h1, if_false, if_neg h2] at h
        exact absurd rfl h

theorem typeLen_le (l : List UInt8) : typeLen l ≤ l.length := by
  unfold typeLen
  have := itemLen_le (l.drop (brk l))
  have := brk_le l
  split
  · simp at *; omega
  · omega
theorem typeLen_eq (l : List UInt8) : typeLen l = if brk l ≤ 3 ∧ itemLen (l.drop (brk l)) ≠ 0 then brk l + itemLen (l.drop (brk l)) else 0 := rfl
theorem typeLen_nil : typeLen [] = 0 := by decide
theorem typeLen_pos {l : List UInt8} (h : typeLen l ≠ 0) : brk l ≤ 3 ∧ itemLen (l.drop (brk l)) ≠ 0 ∧ typeLen l = brk l + itemLen (l.drop (brk l)) ∧ brk l < l.length := by
  unfold typeLen at h ⊢
  split at h
  · rename_i h'
    refine ⟨h'.1, h'.2, by rw [if_pos h'], ?_⟩
    have := itemLen_le (l.drop (brk l))
    have h2 := h'.2
    simp at this
    omega
  · exact absurd rfl h
theorem typeLen_append (l u : List UInt8) (h : typeLen l ≠ 0) : typeLen (l ++ u) = typeLen l := by
  obtain ⟨h1, h2, h3, h4⟩ := typeLen_pos h
  have e : brk (l ++ u) = brk l := tw_append _ l u h4
  have e2 : (l ++ u).drop (brk l) = l.drop (brk l) ++ u := List.drop_append_of_le_length (by omega)
  rw [h3]
  unfold typeLen
  rw [e, e2, itemLen_append _ _ h2, if_pos ⟨h1, h2⟩]
theorem typeLen_take (l : List UInt8) (h : typeLen l ≠ 0) : typeLen (l.take (typeLen l)) = typeLen l := by
  obtain ⟨h1, h2, h3, h4⟩ := typeLen_pos h
  have e : brk (l.take (typeLen l)) = brk l := tw_take _ l _ h4 (by rw [h3]; show brk l < _; omega)
  have e2 : (l.take (typeLen l)).drop (brk l) = (l.drop (brk l)).take (itemLen (l.drop (brk l))) := by rw [h3, List.drop_take]; congr 1; omega
  have e3 := itemLen_take _ h2
  rw [typeLen_eq (l.take (typeLen l)), e, e2, e3, if_pos ⟨h1, h2⟩]
  exact h3.symm
theorem isTypeB_take (l : List UInt8) (h : typeLen l ≠ 0) : isTypeB (l.take (typeLen l)) = true := by
  unfold isTypeB
  rw [typeLen_take l h]
  have := typeLen_le l
  exact decide_eq_true ⟨h, by simp; omega⟩
theorem isTypeB_len {l : List UInt8} (h : isTypeB l = true) : typeLen l ≠ 0 ∧ typeLen l = l.length := of_decide_eq_true h

/-! A list cut into types as long as one begins. -/
def cuts (l : List UInt8) : List (List UInt8) × List UInt8 :=
  if h : typeLen l = 0 then ([], l) else ((l.take (typeLen l)) :: (cuts (l.drop (typeLen l))).1, (cuts (l.drop (typeLen l))).2)
termination_by l.length
decreasing_by all_goals (have := typeLen_le l; simp; omega)
theorem cuts_end {l : List UInt8} (h : typeLen l = 0) : cuts l = ([], l) := by rw [cuts, dif_pos h]
theorem cuts_step {l : List UInt8} (h : typeLen l ≠ 0) : cuts l = ((l.take (typeLen l)) :: (cuts (l.drop (typeLen l))).1, (cuts (l.drop (typeLen l))).2) := by rw [cuts, dif_neg h]
theorem cuts_told : ∀ (n : Nat) (l : List UInt8), l.length ≤ n → (cuts l).1.flatten ++ (cuts l).2 = l ∧ typeLen (cuts l).2 = 0 ∧ ∀ t ∈ (cuts l).1, isTypeB t = true
  | 0, l, h => by
    obtain rfl : l = [] := List.eq_nil_of_length_eq_zero (by omega)
    rw [cuts_end typeLen_nil]; exact ⟨rfl, typeLen_nil, fun t ht => by cases ht⟩
  | n + 1, l, h => by
    by_cases h0 : typeLen l = 0
    · rw [cuts_end h0]; exact ⟨rfl, h0, fun t ht => by cases ht⟩
    · have hl := typeLen_le l
      obtain ⟨a, b, c⟩ := cuts_told n (l.drop (typeLen l)) (by simp; omega)
      rw [cuts_step h0]
      refine ⟨?_, b, fun t ht => ?_⟩
      · simp only [List.flatten_cons, List.append_assoc, a, List.take_append_drop]
      · rcases List.mem_cons.mp ht with rfl | ht
        · exact isTypeB_take l h0
        · exact c t ht
theorem cuts_join : ∀ (a : List (List UInt8)) (r : List UInt8), (∀ t ∈ a, isTypeB t = true) → typeLen r = 0 → cuts (a.flatten ++ r) = (a, r)
  | [], r, _, hr => cuts_end hr
  | t :: a, r, ha, hr => by
    obtain ⟨h1, h2⟩ := isTypeB_len (ha t (List.mem_cons_self ..))
    have e : typeLen (t ++ (a.flatten ++ r)) = t.length := by rw [typeLen_append _ _ h1, h2]
    have ih := cuts_join a r (fun x hx => ha x (List.mem_cons_of_mem _ hx)) hr
    rw [List.flatten_cons, List.append_assoc, cuts_step (by rw [e]; omega), e]
    simp [ih]

/-! Method types. -/
def resultB (g : List UInt8) : Bool := g == [86] || isTypeB g
def makeText (a : List (List UInt8)) (g : List UInt8) : List UInt8 := 40 :: (a.flatten ++ 41 :: g)
def methodB : List UInt8 → Option (List (List UInt8) × List UInt8)
  | [] => none
  | c :: t => if c = 40 then match (cuts t).2 with
      | [] => none
      | d :: g => if d = 41 ∧ (cuts t).1.length ≤ 5 ∧ resultB g = true then some ((cuts t).1, g) else none
    else none
theorem typeLen_shut (g : List UInt8) : typeLen (41 :: g) = 0 := by simp [typeLen, brk, itemLen]
theorem methodB_make {a : List (List UInt8)} {g : List UInt8} (ha : ∀ t ∈ a, isTypeB t = true) (h5 : a.length ≤ 5) (hg : resultB g = true) : methodB (makeText a g) = some (a, g) := by
  simp only [makeText, methodB, cuts_join a (41 :: g) ha (typeLen_shut g)]
  simp [h5, hg]
theorem methodB_some {l : List UInt8} {a : List (List UInt8)} {g : List UInt8} (h : methodB l = some (a, g)) : l = makeText a g ∧ (∀ t ∈ a, isTypeB t = true) ∧ a.length ≤ 5 ∧ resultB g = true := by
  cases l with
  | nil => cases h
  | cons c t =>
    obtain ⟨h1, h2, h3⟩ := cuts_told t.length t (Nat.le_refl _)
    simp only [methodB] at h
    by_cases hc : c = 40
    · rw [if_pos hc] at h
      generalize hq : cuts t = q at *
      obtain ⟨x, y⟩ := q
      cases y with
      | nil => cases h
      | cons d g' =>
        simp only at h
        by_cases hd : d = 41 ∧ x.length ≤ 5 ∧ resultB g' = true
        · rw [if_pos hd] at h
          obtain ⟨rfl, rfl⟩ := Prod.mk.inj (Option.some.inj h)
          exact ⟨by rw [makeText, ← h1, hc, hd.1], h3, hd.2.1, hd.2.2⟩
        · rw [if_neg hd] at h; cases h
    · rw [if_neg hc] at h; cases h

/-! Types of one letter; arrays; classes. -/
theorem isTypeB_word {c : UInt8} {r : List UInt8} (h : isTypeB (c :: r) = true) (hc : c = 73 ∨ c = 74) : r = [] := by
  obtain ⟨h1, h2⟩ := isTypeB_len h
  have hb : brk (c :: r) = 0 := by rcases hc with rfl | rfl <;> simp [brk]
  have h3 := (typeLen_pos h1).2.2.1
  have h4 : itemLen (c :: r) = 1 := by simp only [itemLen, hc, if_true]
  rw [hb, List.drop_zero, h4, h2, List.length_cons] at h3
  exact List.eq_nil_of_length_eq_zero (by omega)
theorem brk_cons (l : List UInt8) : brk (91 :: l) = brk l + 1 := by simp [brk]
theorem isTypeB_array (l : List UInt8) : isTypeB (91 :: l) = (isTypeB l && decide (brk l < 3)) := by
  have e : typeLen (91 :: l) = if brk l < 3 ∧ itemLen (l.drop (brk l)) ≠ 0 then brk l + 1 + itemLen (l.drop (brk l)) else 0 := by
    unfold typeLen
    rw [brk_cons, List.drop_succ_cons]
    congr 1
  rw [Bool.eq_iff_iff]
  simp only [isTypeB, Bool.and_eq_true, decide_eq_true_eq, e, List.length_cons]
  unfold typeLen
  by_cases h3 : brk l < 3
  · have h3' : brk l ≤ 3 := by omega
    by_cases h4 : itemLen (l.drop (brk l)) = 0
    · simp [h4]
    · simp only [h3, h3', h4, ne_eq, not_false_eq_true, and_self, if_true, and_true]
      omega
  · simp [h3]
theorem word_semi : wordB 59 = false := by decide
theorem nameB_semi {l : List UInt8} (h : nameB l = true) : ∀ c ∈ l, c ≠ 59 := by
  intro c hc he
  subst he
  cases l with
  | nil => cases h
  | cons d r =>
    simp only [nameB, Bool.and_eq_true] at h
    have := List.all_eq_true.mp h.2 _ hc
    rw [word_semi] at this
    cases this
theorem semi_all {l u : List UInt8} (h : ∀ c ∈ l, c ≠ 59) : semi (l ++ 59 :: u) = l.length :=
  tw_eq _ _ _ (by simp) (fun j hj => by rw [List.getElem_append_left hj]; simpa using h _ (List.getElem_mem hj)) (fun _ => by rw [List.getElem_append_right (Nat.le_refl _)]; simp)
theorem isTypeB_class (l : List UInt8) : isTypeB (76 :: (l ++ [59])) = nameB l := by
  have hb : brk (76 :: (l ++ [59])) = 0 := by simp [brk]
  have e : typeLen (76 :: (l ++ [59])) = itemLen (76 :: (l ++ [59])) := by
    unfold typeLen
    rw [hb, List.drop_zero]
    by_cases h : itemLen (76 :: (l ++ [59])) = 0 <;> simp [h]
  have hi : itemLen (76 :: (l ++ [59])) = if semi (l ++ [59]) < (l ++ [59]).length ∧ nameB ((l ++ [59]).take (semi (l ++ [59]))) = true then semi (l ++ [59]) + 2 else 0 := by
    simp [itemLen]
  rw [Bool.eq_iff_iff]
  simp only [isTypeB, decide_eq_true_eq, e, hi, List.length_cons]
  constructor
  · intro h
    by_cases h' : semi (l ++ [59]) < (l ++ [59]).length ∧ nameB ((l ++ [59]).take (semi (l ++ [59]))) = true
    · rw [if_pos h'] at h
      have hs : semi (l ++ [59]) = l.length := by have := h.2; simp at this; omega
      have := h'.2
      rw [hs, List.take_left] at this
      exact this
    · rw [if_neg h'] at h; exact absurd rfl h.1
  · intro h
    have hs : semi (l ++ [59]) = l.length := semi_all (nameB_semi h)
    rw [hs, List.take_left, if_pos ⟨by simp, h⟩]
    simp
end Go.Proofs.YtkabkpkfglngnaaDoor
