/- Right instructions: their words have no space and are short, and their text reads as themselves. No program. -/
import Derived.Test.YtkabkpkfglngnaaDoorInM
namespace Go.Proofs.YtkabkpkfglngnaaDoor
open Go.RowKit
set_option linter.unusedVariables false

theorem insF_zero {x : InsD} (h : insF x = 0) : ∃ k : Nat, x.op = k ∧ 0 < k ∧ k < 29 ∧ onlyB x (opF k) = true ∧ rangeB x = true ∧ typedB x = true ∧ namedB x (opF k) = true := by
  unfold insF at h
  split at h
  · cases h
  · rename_i h1
    split at h
    · cases h
    · rename_i h2
      split at h
      · cases h
      · rename_i h3
        split at h
        · cases h
        · rename_i h4
          simp only [Bool.not_eq_false, Bool.and_eq_true] at h2 h3 h4
          exact ⟨x.op.toNat, by omega, by omega, by omega, h2, h3, h4.1, h4.2⟩
theorem bits_all : ∀ k, k < 29 → ((opF k).testBit 0, (opF k).testBit 1, (opF k).testBit 2, (opF k).testBit 3, (opF k).testBit 4) ∈ [(false, false, false, false, false), (true, false, false, false, false), (true, true, false, false, false), (false, false, true, false, false), (true, false, true, false, false), (false, false, false, true, false), (false, false, false, true, true), (false, false, true, true, true)] := by decide
theorem opW_form : ∀ k, k < 29 → (∀ c ∈ opW k, c ≠ 32) ∧ (opW k).length ≤ 8 := by decide
theorem opW_find : ∀ k, k < 29 → 0 < k → findN (opW k) = k := by decide
theorem bit_two : ∀ k, k < 29 → (opF k).testBit 2 = true → k = 2 ∨ k = 9 ∨ k = 10 ∨ k = 18 ∨ k = 20 ∨ k = 21 ∨ k = 22 ∨ k = 23 ∨ k = 24 ∨ k = 25 := by decide
theorem typed_form {x : InsD} {k : Nat} (hx : x.op = k) (hk : k < 29) (hb : (opF k).testBit 2 = true) (h : typedB x = true) : (∀ c ∈ x.ty, c ≠ 32) ∧ x.ty.length ≤ 160 := by
  have ht : ∀ {l : List UInt8}, isTypeB l = true → (∀ c ∈ l, c ≠ 32) ∧ l.length ≤ 160 := fun h => ⟨(type_form h).1, Nat.le_trans (type_form h).2 (by decide)⟩
  have ha : isTypeB (91 :: x.ty) = true → (∀ c ∈ x.ty, c ≠ 32) ∧ x.ty.length ≤ 160 := fun h => by
    rw [isTypeB_array, Bool.and_eq_true] at h
    exact ht h.1
  unfold typedB at h
  rw [hx] at h
  rcases bit_two k hk hb with rfl | rfl | rfl | rfl | rfl | rfl | rfl | rfl | rfl | rfl
  · exact ht (word_type h)
  · exact ht (word_type h)
  · exact ht (word_type h)
  · exact ha h
  · exact ha h
  · exact ha h
  · have h' : (isTypeB x.ty && !refWordB x.ty) = true := h
    exact ht (Bool.and_eq_true .. ▸ h').1
  · have h' : (isTypeB x.ty && !refWordB x.ty) = true := h
    exact ht (Bool.and_eq_true .. ▸ h').1
  · exact meth_form h
  · exact meth_form h
theorem parts_form {x : InsD} (hw : x.wf) (h : insF x = 0) : ∀ p ∈ partsM x, (∀ c ∈ p, c ≠ 32) ∧ p.length ≤ 160 := by
  obtain ⟨k, hx, h0, hk, ho, hr, ht, hn⟩ := insF_zero h
  have hN := hn
  unfold namedB at hN
  rw [Bool.and_eq_true, Bool.or_eq_true, Bool.or_eq_true] at hN
  intro p hp
  unfold partsM at hp
  rw [hx, Int.toNat_natCast] at hp
  simp only [List.mem_append] at hp
  rcases hp with (((hp | hp) | hp) | hp) | hp
  · split at hp
    · obtain rfl := List.mem_singleton.1 hp
      exact ⟨itoa_space _, Nat.le_trans (Lib.itoa_length_le _ hw.2.1.1 hw.2.1.2) (by decide)⟩
    · cases hp
  · split at hp
    · obtain rfl := List.mem_singleton.1 hp
      exact ⟨itoa_space _, Nat.le_trans (Lib.itoa_length_le _ hw.2.2.1 hw.2.2.2) (by decide)⟩
    · cases hp
  · split at hp
    · rename_i hb
      obtain rfl := List.mem_singleton.1 hp
      exact typed_form hx hk hb ht
    · cases hp
  · split at hp
    · rename_i hb
      obtain rfl := List.mem_singleton.1 hp
      have := hN.1
      rw [hb] at this
      have hc : nameB x.cl = true := by simpa using this
      exact ⟨name_space hc, Nat.le_trans (name_len hc) (by decide)⟩
    · cases hp
  · split at hp
    · rename_i hb
      obtain rfl := List.mem_singleton.1 hp
      have := hN.2
      rw [hb] at this
      have hc : nameB x.nm = true := by simpa using this
      exact ⟨name_space hc, Nat.le_trans (name_len hc) (by decide)⟩
    · cases hp
theorem flat_len (l : List (List UInt8)) (h : ∀ p ∈ l, p.length ≤ 160) : (l.flatMap (32 :: ·)).length ≤ 161 * l.length := by
  induction l with
  | nil => simp
  | cons a r ih =>
    have h1 := h a (List.mem_cons_self ..)
    have h2 := ih (fun p hp => h p (List.mem_cons_of_mem _ hp))
    rw [List.flatMap_cons, List.length_append, List.length_cons, List.length_cons]
    omega
theorem ite_len (b : Bool) (l : List UInt8) : (if b = true then [l] else []).length ≤ 1 := by cases b <;> simp
theorem parts_len (x : InsD) : (partsM x).length ≤ 5 := by
  unfold partsM
  simp only [List.length_append]
  have h1 := ite_len ((opF x.op.toNat).testBit 0) (Lib.itoa x.a)
  have h2 := ite_len ((opF x.op.toNat).testBit 1) (Lib.itoa x.b)
  have h3 := ite_len ((opF x.op.toNat).testBit 2) x.ty
  have h4 := ite_len ((opF x.op.toNat).testBit 3) x.cl
  have h5 := ite_len ((opF x.op.toNat).testBit 4) x.nm
  omega
theorem text_len {x : InsD} (hw : x.wf) (h : insF x = 0) : (textM x).length ≤ 1000 := by
  obtain ⟨k, hx, h0, hk, ho, hr, ht, hn⟩ := insF_zero h
  have h1 := flat_len (partsM x) (fun p hp => (parts_form hw h p hp).2)
  have h2 := parts_len x
  have h3 := (opW_form k hk).2
  unfold textM
  rw [List.length_append, hx, Int.toNat_natCast]
  omega

/-! The words are read again. -/
theorem word_first {u : List UInt8} (hu : ∀ c ∈ u, c ≠ 32) (l : List (List UInt8)) : wordL (u ++ l.flatMap (32 :: ·)) = u ∧ restL (u ++ l.flatMap (32 :: ·)) = (match l with | [] => [] | p :: r => p ++ r.flatMap (32 :: ·)) := by
  cases l with
  | nil => rw [List.flatMap_nil, List.append_nil]; exact wordL_all hu
  | cons p r =>
    rw [List.flatMap_cons]
    exact wordL_cut hu _
theorem read_text {x : InsD} (hw : x.wf) (h : insF x = 0) : readM (textM x) = x := by
  have hp := parts_form hw h
  obtain ⟨k, hx, h0, hk, ho, hr, ht, hn⟩ := insF_zero h
  have hb := bits_all k hk
  have hf := opW_find k hk h0
  have hs := (opW_form k hk).1
  have hA := num_itoa x.a hw.2.1
  have hB := num_itoa x.b hw.2.2
  obtain ⟨op, a, b, ty, cl, nm⟩ := x
  obtain rfl : op = k := hx
  unfold partsM at hp
  unfold textM partsM
  unfold onlyB at ho
  simp only [Int.toNat_natCast] at hp ⊢
  generalize h0' : (opF k).testBit 0 = b0 at *
  generalize h1' : (opF k).testBit 1 = b1 at *
  generalize h2' : (opF k).testBit 2 = b2 at *
  generalize h3' : (opF k).testBit 3 = b3 at *
  generalize h4' : (opF k).testBit 4 = b4 at *
  simp only [List.mem_cons, Prod.mk.injEq, List.not_mem_nil, or_false] at hb
  unfold readM
  rcases hb with ⟨rfl, rfl, rfl, rfl, rfl⟩ | ⟨rfl, rfl, rfl, rfl, rfl⟩ | ⟨rfl, rfl, rfl, rfl, rfl⟩ | ⟨rfl, rfl, rfl, rfl, rfl⟩ | ⟨rfl, rfl, rfl, rfl, rfl⟩ | ⟨rfl, rfl, rfl, rfl, rfl⟩ | ⟨rfl, rfl, rfl, rfl, rfl⟩ | ⟨rfl, rfl, rfl, rfl, rfl⟩
  all_goals
    simp only [Bool.false_eq_true, if_false, if_true, List.nil_append, List.append_nil, List.cons_append] at hp ⊢
    simp only [Bool.or_false, Bool.or_true, Bool.and_true, Bool.true_and, Bool.and_eq_true, beq_iff_eq] at ho
    simp only [(word_first hs _).1, (word_first hs _).2, hf, h0', h1', h2', h3', h4', Bool.false_eq_true, if_false, if_true]
  all_goals
    clear hr ht hn h hw
    have hty : ∀ c ∈ ty, c ≠ 32 := by first | (intro c hc; simp [ho] at hc; done) | exact (hp ty (by simp)).1
    have hcl : ∀ c ∈ cl, c ≠ 32 := by first | (intro c hc; simp [ho] at hc; done) | exact (hp cl (by simp)).1
    have hnm : ∀ c ∈ nm, c ≠ 32 := by first | (intro c hc; simp [ho] at hc; done) | exact (hp nm (by simp)).1
    have hA' : numM (Lib.itoa a) = a := hA
    have hB' : numM (Lib.itoa b) = b := hB
    try simp only [(word_first hty _).1, (word_first hty _).2, (word_first hcl _).1, (word_first hcl _).2, (word_first hnm _).1, (word_first (itoa_space a) _).1, (word_first (itoa_space a) _).2, (word_first (itoa_space b) _).1, hA', hB']
    simp [ho]
def InsD.fits (x : InsD) : Prop := x.ty.length ≤ 140737488351232 ∧ x.cl.length ≤ 140737488351232 ∧ x.nm.length ≤ 140737488351232
end Go.Proofs.YtkabkpkfglngnaaDoor
