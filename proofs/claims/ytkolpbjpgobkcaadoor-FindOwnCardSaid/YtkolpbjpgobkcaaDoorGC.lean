/- Instructions as plain data: which fields an operation has, what is wrong with one, its text, and what a text reads as. No program. Right instructions: their words have no space and are short, and their text reads as themselves. No program. Right instructions: their words are short; the first fault of a list's instructions. No program. Control flow on lists of instructions: what goes on, what jumps, what follows, what is reached; the search that marks what is found. No program. Classes as plain data, and what is wrong with one. No program. What classF says, part by part; lists none of whose first elements has a fault. No program. -/
import Derived.Test.YtkolpbjpgobkcaaDoorGB
import Derived.Lib.AtoiAll
import Derived.Lib.ItoaNum
import Derived.Lib.ItoaMem
import Derived.Lib.ItoaLen
namespace Go.Proofs.YtkolpbjpgobkcaaDoor
open Go.RowKit
set_option linter.unusedVariables false

/-- An instruction, and its value. -/
structure InsD where
  op : Int
  a : Int
  b : Int
  ty : List UInt8
  cl : List UInt8
  nm : List UInt8
deriving DecidableEq
def insV (x : InsD) : Value := .agg #[.int .i64 x.op, .int .i64 x.a, .int .i64 x.b, .string (bs x.ty), .string (bs x.cl), .string (bs x.nm)]
def i64B (n : Int) : Prop := -9223372036854775808 ≤ n ∧ n ≤ 9223372036854775807
def InsD.wf (x : InsD) : Prop := i64B x.op ∧ i64B x.a ∧ i64B x.b
def zeroI : InsD := ⟨0, 0, 0, [], [], []⟩

/-- The operations' names and fields. -/
def opTab : List (List UInt8 × Nat) := [([], 0), ([110, 111, 112], 0), ([112, 117, 115, 104], 5), ([110, 117, 108, 108], 0), ([108, 111, 97, 100], 1), ([115, 116, 111, 114, 101], 1), ([112, 111, 112], 0), ([100, 117, 112], 0), ([115, 119, 97, 112], 0), ([109, 97, 116, 104], 5), ([99, 111, 110, 118], 4), ([111, 114, 100, 101, 114], 0), ([105, 102], 3), ([105, 102, 110, 117, 108, 108], 1), ([103, 111, 116, 111], 1), ([110, 101, 119], 8), ([103, 101, 116], 24), ([112, 117, 116], 24), ([110, 101, 119, 97, 114, 114, 97, 121], 4), ([108, 101, 110, 103, 116, 104], 0), ([97, 108, 111, 97, 100], 4), ([97, 115, 116, 111, 114, 101], 4), ([99, 97, 115, 116], 4), ([105, 115], 4), ([99, 97, 108, 108], 28), ([99, 97, 108, 108, 115], 28), ([114, 101, 116, 117, 114, 110], 0), ([103, 105, 118, 101], 0), ([116, 104, 114, 111, 119], 0)]
def opW (k : Nat) : List UInt8 := (opTab.getD k ([], 0)).1
def opF (k : Nat) : Nat := (opTab.getD k ([], 0)).2
theorem opF_some : ∀ k, k < 29 → opF k ∈ [0, 1, 3, 4, 5, 8, 24, 28] := by decide
theorem opF_lt {k : Nat} (h : k < 29) : opF k < 32 := by
  have := opF_some k h
  simp only [List.mem_cons, List.not_mem_nil, or_false] at this
  omega

def onlyB (x : InsD) (f : Nat) : Bool := (x.a == 0 || f.testBit 0) && (x.b == 0 || f.testBit 1) && (x.ty == [] || f.testBit 2) && (x.cl == [] || f.testBit 3) && (x.nm == [] || f.testBit 4)
def targetB (n : Int) : Bool := decide (0 ≤ n ∧ n ≤ 40)
def rangeB (x : InsD) : Bool :=
  if x.op = 2 then !(x.ty == [73]) || decide (-2147483648 ≤ x.a ∧ x.a ≤ 2147483647)
  else if x.op = 4 ∨ x.op = 5 then decide (0 ≤ x.a ∧ x.a < 8)
  else if x.op = 9 then decide (1 ≤ x.a ∧ x.a ≤ 12)
  else if x.op = 12 then targetB x.a && decide (0 ≤ x.b ∧ x.b ≤ 5)
  else if x.op = 13 ∨ x.op = 14 then targetB x.a
  else true
def typedB (x : InsD) : Bool :=
  if x.op = 2 ∨ x.op = 9 ∨ x.op = 10 then refWordB x.ty
  else if x.op = 18 ∨ x.op = 20 ∨ x.op = 21 then isTypeB (91 :: x.ty)
  else if x.op = 22 ∨ x.op = 23 then isTypeB x.ty && !refWordB x.ty
  else if x.op = 24 ∨ x.op = 25 then (methodB x.ty).isSome
  else true
def namedB (x : InsD) (f : Nat) : Bool := (!f.testBit 3 || nameB x.cl) && (!f.testBit 4 || nameB x.nm)
/-- What is wrong with an instruction: 0 nothing, 1 its form, 2 a number out of range. -/
def insF (x : InsD) : Nat :=
  if x.op ≤ 0 ∨ 29 ≤ x.op then 1
  else if onlyB x (opF x.op.toNat) = false then 1
  else if rangeB x = false then 2
  else if (typedB x && namedB x (opF x.op.toNat)) = false then 1
  else 0
/-- The words of an instruction's text behind the operation's name. -/
def partsM (x : InsD) : List (List UInt8) :=
  (if (opF x.op.toNat).testBit 0 then [Lib.itoa x.a] else []) ++ (if (opF x.op.toNat).testBit 1 then [Lib.itoa x.b] else []) ++ (if (opF x.op.toNat).testBit 2 then [x.ty] else []) ++
    (if (opF x.op.toNat).testBit 3 then [x.cl] else []) ++ (if (opF x.op.toNat).testBit 4 then [x.nm] else [])
def textM (x : InsD) : List UInt8 := opW x.op.toNat ++ (partsM x).flatMap (32 :: ·)

/-! A text's words. -/
def wordL (l : List UInt8) : List UInt8 := l.takeWhile (· != 32)
def restL (l : List UInt8) : List UInt8 := (l.dropWhile (· != 32)).drop 1
def numM (l : List UInt8) : Int := match Lib.atoiAll l with
  | .ok v => v
  | .range => Lib.atoiSat l
  | _ => 0
def findN (l : List UInt8) : Nat := ((List.range 29).drop 1).find? (fun k => opW k == l) |>.getD 0
def readM (s : List UInt8) : InsD :=
  let op := findN (wordL s)
  let f := opF op
  let r0 := restL s
  let r1 := if f.testBit 0 then restL r0 else r0
  let r2 := if f.testBit 1 then restL r1 else r1
  let r3 := if f.testBit 2 then restL r2 else r2
  let r4 := if f.testBit 3 then restL r3 else r3
  ⟨op, if f.testBit 0 then numM (wordL r0) else 0, if f.testBit 1 then numM (wordL r1) else 0, if f.testBit 2 then wordL r2 else [], if f.testBit 3 then wordL r3 else [], if f.testBit 4 then wordL r4 else []⟩

theorem wordL_cut {u : List UInt8} (h : ∀ c ∈ u, c ≠ 32) (v : List UInt8) : wordL (u ++ 32 :: v) = u ∧ restL (u ++ 32 :: v) = v := by
  induction u with
  | nil => exact ⟨rfl, rfl⟩
  | cons c r ih =>
    have hc : (c != 32) = true := by simpa using h c (List.mem_cons_self ..)
    obtain ⟨h1, h2⟩ := ih (fun d hd => h d (List.mem_cons_of_mem _ hd))
    constructor
    · show (c :: (r ++ 32 :: v)).takeWhile _ = _
      rw [List.takeWhile_cons_of_pos (p := (· != 32)) hc]
      exact congrArg (c :: ·) h1
    · show ((c :: (r ++ 32 :: v)).dropWhile _).drop 1 = _
      rw [List.dropWhile_cons_of_pos (p := (· != 32)) hc]
      exact h2
theorem wordL_all {u : List UInt8} (h : ∀ c ∈ u, c ≠ 32) : wordL u = u ∧ restL u = [] := by
  induction u with
  | nil => exact ⟨rfl, rfl⟩
  | cons c r ih =>
    have hc : (c != 32) = true := by simpa using h c (List.mem_cons_self ..)
    obtain ⟨h1, h2⟩ := ih (fun d hd => h d (List.mem_cons_of_mem _ hd))
    constructor
    · show (c :: r).takeWhile _ = _
      rw [List.takeWhile_cons_of_pos (p := (· != 32)) hc]
      exact congrArg (c :: ·) h1
    · show ((c :: r).dropWhile _).drop 1 = _
      rw [List.dropWhile_cons_of_pos (p := (· != 32)) hc]
      exact h2

/-! Digits read again. -/
theorem dec_digit (u : Nat) : ∀ c ∈ Lib.decDigits u, 48 ≤ c.toNat ∧ c.toNat ≤ 57 := by
  induction u using Nat.strongRecOn with
  | _ u ih =>
    rw [Lib.decDigits]
    split
    · intro c hc
      obtain rfl := List.mem_singleton.1 hc
      rw [UInt8.toNat_ofNat']
      omega
    · intro c hc
      rcases List.mem_append.1 hc with h | h
      · exact ih _ (by omega) c h
      · obtain rfl := List.mem_singleton.1 h
        rw [UInt8.toNat_ofNat']
        omega
theorem parse_last (l : List UInt8) (c : UInt8) : ∀ acc u, Lib.parseUint10 acc l = .ok u → 48 ≤ c.toNat → c.toNat ≤ 57 → u < 1844674407370955162 → u * 10 + (c.toNat - 48) < 18446744073709551616 → Lib.parseUint10 acc (l ++ [c]) = .ok (u * 10 + (c.toNat - 48)) := by
  induction l with
  | nil =>
    intro acc u h h1 h2 h3 h4
    simp only [Lib.parseUint10] at h
    injection h with h
    subst h
    simp only [List.nil_append, Lib.parseUint10]
    rw [if_pos ⟨h1, h2⟩, if_neg (by omega), if_neg (by omega)]
  | cons d r ih =>
    intro acc u h h1 h2 h3 h4
    simp only [Lib.parseUint10] at h
    simp only [List.cons_append, Lib.parseUint10]
    split at h
    · rename_i hd
      rw [if_pos hd]
      split at h
      · cases h
      · rename_i h5
        rw [if_neg h5]
        split at h
        · cases h
        · rename_i h6
          rw [if_neg h6]
          exact ih _ u h h1 h2 h3 h4
    · cases h
theorem parse_dec (u : Nat) (h : u < 18446744073709551616) : Lib.parseUint10 0 (Lib.decDigits u) = .ok u := by
  induction u using Nat.strongRecOn with
  | _ u ih =>
    rw [Lib.decDigits]
    split
    · rename_i h1
      have e : (UInt8.ofNat (48 + u)).toNat = 48 + u := by rw [UInt8.toNat_ofNat']; omega
      simp only [Lib.parseUint10, e]
      rw [if_pos ⟨by omega, by omega⟩, if_neg (by omega), if_neg (by omega)]
      congr 1; omega
    · rename_i h1
      have e : (UInt8.ofNat (48 + u % 10)).toNat = 48 + u % 10 := by rw [UInt8.toNat_ofNat']; omega
      have := parse_last (Lib.decDigits (u / 10)) (UInt8.ofNat (48 + u % 10)) 0 (u / 10) (ih _ (by omega) (by omega)) (by omega) (by omega) (by omega) (by omega)
      rw [this, e]
      congr 1; omega
theorem dec_ne (u : Nat) : Lib.decDigits u ≠ [] := by
  rw [Lib.decDigits]
  split <;> simp
theorem num_itoa (n : Int) (h : i64B n) : numM (Lib.itoa n) = n := by
  obtain ⟨h0, h1⟩ := h
  unfold numM
  have e : Lib.atoiAll (Lib.itoa n) = .ok n := by
    unfold Lib.itoa
    split
    · rename_i hn
      have hp : Lib.parseMag (Lib.decDigits n.natAbs) = .ok n.natAbs := by
        unfold Lib.parseMag
        rw [if_neg (dec_ne _), parse_dec _ (by omega)]
      simp only [Lib.atoiAll]
      rw [if_pos (by decide), hp]
      simp only
      rw [if_neg (by simp), if_neg (by simp; omega), if_pos (by decide)]
      congr 1; omega
    · rename_i hn
      have hp : Lib.parseMag (Lib.decDigits n.toNat) = .ok n.toNat := by
        unfold Lib.parseMag
        rw [if_neg (dec_ne _), parse_dec _ (by omega)]
      cases hc : Lib.decDigits n.toNat with
      | nil => exact absurd hc (dec_ne _)
      | cons c r =>
        have hd := dec_digit n.toNat c (by rw [hc]; exact List.mem_cons_self ..)
        simp only [Lib.atoiAll]
        rw [if_neg (by omega), ← hc, hp]
        simp only
        rw [if_neg (by omega), if_neg (by omega), if_neg (by omega)]
        congr 1; omega
  rw [e]
theorem itoa_space (n : Int) : ∀ c ∈ Lib.itoa n, c ≠ 32 := by
  intro c hc he
  subst he
  unfold Lib.itoa at hc
  split at hc
  · rcases List.mem_cons.1 hc with h | h
    · cases h
    · have := dec_digit _ _ h; simp at this
  · have := dec_digit _ _ hc; simp at this

/-! Names and types have no space in them, and are short. -/
theorem name_space {l : List UInt8} (h : nameB l = true) : ∀ c ∈ l, c ≠ 32 := by
  intro c hc he
  subst he
  cases l with
  | nil => cases hc
  | cons d r =>
    simp only [nameB, Bool.and_eq_true] at h
    have := List.all_eq_true.mp h.2 _ hc
    exact absurd this (by decide)
theorem name_len {l : List UInt8} (h : nameB l = true) : l.length ≤ 20 := by
  cases l with
  | nil => cases h
  | cons d r =>
    simp only [nameB, Bool.and_eq_true, decide_eq_true_eq] at h
    exact h.1.1
theorem item_form : ∀ (l : List UInt8), itemLen l ≠ 0 → (∀ c ∈ l.take (itemLen l), c ≠ 32) ∧ itemLen l ≤ 22
  | [], h => by simp [itemLen] at h
  | c :: r, h => by
    by_cases h1 : c = 73 ∨ c = 74
    · have e : itemLen (c :: r) = 1 := by simp only [itemLen, h1, if_true]
      rw [e]
      refine ⟨fun d hd => ?_, by omega⟩
      simp only [List.take_succ_cons, List.take_zero, List.mem_singleton] at hd
      subst hd
      rcases h1 with rfl | rfl <;> decide
    · by_cases h2 : c = 76 ∧ semi r < r.length ∧ nameB (r.take (semi r)) = true
      · have e : itemLen (c :: r) = semi r + 2 := by simp only [itemLen, h1, if_false, if_pos h2]
        have hl := name_len h2.2.2
        rw [List.length_take] at hl
        rw [e]
        refine ⟨fun d hd => ?_, by omega⟩
        rw [List.take_succ_cons] at hd
        rcases List.mem_cons.1 hd with rfl | hd
        · rw [h2.1]; decide
        · rw [List.take_succ_eq_append_getElem h2.2.1] at hd
          rcases List.mem_append.1 hd with hd | hd
          · exact name_space h2.2.2 d hd
          · obtain rfl := List.mem_singleton.1 hd
            have := tw_at (· != 59) r h2.2.1
            have e2 : r[semi r]'h2.2.1 = 59 := bne_eq_false_iff_eq.1 this
            rw [e2]; decide
      · simp only [itemLen, h1, if_false, if_neg h2] at h
        exact absurd rfl h
theorem brk_take (l : List UInt8) : ∀ c ∈ l.take (brk l), c ≠ 32 := by
  intro c hc he
  subst he
  obtain ⟨i, hi, hx⟩ := List.mem_iff_getElem.1 hc
  rw [List.length_take] at hi
  obtain ⟨h', hp⟩ := tw_lt (· == 91) l i (by show i < brk l; omega)
  rw [List.getElem_take] at hx
  rw [hx] at hp
  exact absurd hp (by decide)
theorem type_form {l : List UInt8} (h : isTypeB l = true) : (∀ c ∈ l, c ≠ 32) ∧ l.length ≤ 25 := by
  obtain ⟨h1, h2⟩ := isTypeB_len h
  obtain ⟨h3, h4, h5, h6⟩ := typeLen_pos h1
  obtain ⟨h7, h8⟩ := item_form _ h4
  refine ⟨fun c hc => ?_, by omega⟩
  rw [← List.take_append_drop (brk l) l] at hc
  rcases List.mem_append.1 hc with hc | hc
  · exact brk_take l c hc
  · refine h7 c ?_
    rw [List.take_of_length_le]
    · exact hc
    · rw [List.length_drop]; omega
theorem word_type {l : List UInt8} (h : refWordB l = true) : isTypeB l = true := by
  cases ht : isTypeB l with
  | true => rfl
  | false => rw [refWord_no ht] at h; cases h
theorem flat_form {a : List (List UInt8)} (h : ∀ t ∈ a, isTypeB t = true) : (∀ c ∈ a.flatten, c ≠ 32) ∧ a.flatten.length ≤ 25 * a.length := by
  induction a with
  | nil => exact ⟨fun c hc => (by cases hc), by simp⟩
  | cons t r ih =>
    obtain ⟨h1, h2⟩ := ih (fun u hu => h u (List.mem_cons_of_mem _ hu))
    obtain ⟨h3, h4⟩ := type_form (h t (List.mem_cons_self ..))
    rw [List.flatten_cons]
    refine ⟨fun c hc => ?_, by rw [List.length_append, List.length_cons]; omega⟩
    rcases List.mem_append.1 hc with hc | hc
    · exact h3 c hc
    · exact h1 c hc
theorem meth_form {l : List UInt8} (h : (methodB l).isSome = true) : (∀ c ∈ l, c ≠ 32) ∧ l.length ≤ 160 := by
  obtain ⟨⟨a, g⟩, hm⟩ := Option.isSome_iff_exists.1 h
  obtain ⟨rfl, ha, h5, hg⟩ := methodB_some hm
  obtain ⟨h1, h2⟩ := flat_form ha
  have hgf : (∀ c ∈ g, c ≠ 32) ∧ g.length ≤ 25 := by
    unfold resultB at hg
    rcases Bool.or_eq_true _ _ ▸ hg with h | h
    · obtain rfl : g = [86] := by simpa using h
      exact ⟨by decide, by decide⟩
    · exact type_form h
  refine ⟨fun c hc => ?_, ?_⟩
  · simp only [makeText, List.mem_cons, List.mem_append] at hc
    rcases hc with rfl | hc | rfl | hc
    · decide
    · exact h1 c hc
    · decide
    · exact hgf.1 c hc
  · simp only [makeText, List.length_cons, List.length_append]
    have := hgf.2
    omega
end Go.Proofs.YtkolpbjpgobkcaaDoor
namespace Go.Proofs.YtkolpbjpgobkcaaDoor
open Go.RowKit
set_option linter.unusedVariables false

theorem insF_zero {x : InsD} (h : insF x = 0) : ∃ k : Nat, x.op = k ∧ 0 < k ∧ k < 29 ∧ onlyB x (opF k) = true ∧ rangeB x = true ∧ typedB x = true ∧ namedB x (opF k) = true := by
  unfold insF at h
  split at h
  · cases h
  · rename_i h1
    split at h
    · cases h
    · rename_i h2
      split at h
      · cases h
      · rename_i h3
        split at h
        · cases h
        · rename_i h4
          simp only [Bool.not_eq_false, Bool.and_eq_true] at h2 h3 h4
          exact ⟨x.op.toNat, by omega, by omega, by omega, h2, h3, h4.1, h4.2⟩
theorem bits_all : ∀ k, k < 29 → ((opF k).testBit 0, (opF k).testBit 1, (opF k).testBit 2, (opF k).testBit 3, (opF k).testBit 4) ∈ [(false, false, false, false, false), (true, false, false, false, false), (true, true, false, false, false), (false, false, true, false, false), (true, false, true, false, false), (false, false, false, true, false), (false, false, false, true, true), (false, false, true, true, true)] := by decide
theorem opW_form : ∀ k, k < 29 → (∀ c ∈ opW k, c ≠ 32) ∧ (opW k).length ≤ 8 := by decide
theorem opW_find : ∀ k, k < 29 → 0 < k → findN (opW k) = k := by decide
theorem bit_two : ∀ k, k < 29 → (opF k).testBit 2 = true → k = 2 ∨ k = 9 ∨ k = 10 ∨ k = 18 ∨ k = 20 ∨ k = 21 ∨ k = 22 ∨ k = 23 ∨ k = 24 ∨ k = 25 := by decide
theorem typed_form {x : InsD} {k : Nat} (hx : x.op = k) (hk : k < 29) (hb : (opF k).testBit 2 = true) (h : typedB x = true) : (∀ c ∈ x.ty, c ≠ 32) ∧ x.ty.length ≤ 160 := by
  have ht : ∀ {l : List UInt8}, isTypeB l = true → (∀ c ∈ l, c ≠ 32) ∧ l.length ≤ 160 := fun h => ⟨(type_form h).1, Nat.le_trans (type_form h).2 (by decide)⟩
  have ha : isTypeB (91 :: x.ty) = true → (∀ c ∈ x.ty, c ≠ 32) ∧ x.ty.length ≤ 160 := fun h => by
    rw [isTypeB_array, Bool.and_eq_true] at h
    exact ht h.1
  unfold typedB at h
  rw [hx] at h
  rcases bit_two k hk hb with rfl | rfl | rfl | rfl | rfl | rfl | rfl | rfl | rfl | rfl
  · exact ht (word_type h)
  · exact ht (word_type h)
  · exact ht (word_type h)
  · exact ha h
  · exact ha h
  · exact ha h
  · have h' : (isTypeB x.ty && !refWordB x.ty) = true := h
    exact ht (Bool.and_eq_true .. ▸ h').1
  · have h' : (isTypeB x.ty && !refWordB x.ty) = true := h
    exact ht (Bool.and_eq_true .. ▸ h').1
  · exact meth_form h
  · exact meth_form h
theorem parts_form {x : InsD} (hw : x.wf) (h : insF x = 0) : ∀ p ∈ partsM x, (∀ c ∈ p, c ≠ 32) ∧ p.length ≤ 160 := by
  obtain ⟨k, hx, h0, hk, ho, hr, ht, hn⟩ := insF_zero h
  have hN := hn
  unfold namedB at hN
  rw [Bool.and_eq_true, Bool.or_eq_true, Bool.or_eq_true] at hN
  intro p hp
  unfold partsM at hp
  rw [hx, Int.toNat_natCast] at hp
  simp only [List.mem_append] at hp
  rcases hp with (((hp | hp) | hp) | hp) | hp
  · split at hp
    · obtain rfl := List.mem_singleton.1 hp
      exact ⟨itoa_space _, Nat.le_trans (Lib.itoa_length_le _ hw.2.1.1 hw.2.1.2) (by decide)⟩
    · cases hp
  · split at hp
    · obtain rfl := List.mem_singleton.1 hp
      exact ⟨itoa_space _, Nat.le_trans (Lib.itoa_length_le _ hw.2.2.1 hw.2.2.2) (by decide)⟩
    · cases hp
  · split at hp
    · rename_i hb
      obtain rfl := List.mem_singleton.1 hp
      exact typed_form hx hk hb ht
    · cases hp
  · split at hp
    · rename_i hb
      obtain rfl := List.mem_singleton.1 hp
      have := hN.1
      rw [hb] at this
      have hc : nameB x.cl = true := by simpa using this
      exact ⟨name_space hc, Nat.le_trans (name_len hc) (by decide)⟩
    · cases hp
  · split at hp
    · rename_i hb
      obtain rfl := List.mem_singleton.1 hp
      have := hN.2
      rw [hb] at this
      have hc : nameB x.nm = true := by simpa using this
      exact ⟨name_space hc, Nat.le_trans (name_len hc) (by decide)⟩
    · cases hp
theorem flat_len (l : List (List UInt8)) (h : ∀ p ∈ l, p.length ≤ 160) : (l.flatMap (32 :: ·)).length ≤ 161 * l.length := by
  induction l with
  | nil => simp
  | cons a r ih =>
    have h1 := h a (List.mem_cons_self ..)
    have h2 := ih (fun p hp => h p (List.mem_cons_of_mem _ hp))
    rw [List.flatMap_cons, List.length_append, List.length_cons, List.length_cons]
    omega
theorem ite_len (b : Bool) (l : List UInt8) : (if b = true then [l] else []).length ≤ 1 := by cases b <;> simp
theorem parts_len (x : InsD) : (partsM x).length ≤ 5 := by
  unfold partsM
  simp only [List.length_append]
  have h1 := ite_len ((opF x.op.toNat).testBit 0) (Lib.itoa x.a)
  have h2 := ite_len ((opF x.op.toNat).testBit 1) (Lib.itoa x.b)
  have h3 := ite_len ((opF x.op.toNat).testBit 2) x.ty
  have h4 := ite_len ((opF x.op.toNat).testBit 3) x.cl
  have h5 := ite_len ((opF x.op.toNat).testBit 4) x.nm
  omega
theorem text_len {x : InsD} (hw : x.wf) (h : insF x = 0) : (textM x).length ≤ 1000 := by
  obtain ⟨k, hx, h0, hk, ho, hr, ht, hn⟩ := insF_zero h
  have h1 := flat_len (partsM x) (fun p hp => (parts_form hw h p hp).2)
  have h2 := parts_len x
  have h3 := (opW_form k hk).2
  unfold textM
  rw [List.length_append, hx, Int.toNat_natCast]
  omega

/-! The words are read again. -/
theorem word_first {u : List UInt8} (hu : ∀ c ∈ u, c ≠ 32) (l : List (List UInt8)) : wordL (u ++ l.flatMap (32 :: ·)) = u ∧ restL (u ++ l.flatMap (32 :: ·)) = (match l with | [] => [] | p :: r => p ++ r.flatMap (32 :: ·)) := by
  cases l with
  | nil => rw [List.flatMap_nil, List.append_nil]; exact wordL_all hu
  | cons p r =>
    rw [List.flatMap_cons]
    exact wordL_cut hu _
theorem read_text {x : InsD} (hw : x.wf) (h : insF x = 0) : readM (textM x) = x := by
  have hp := parts_form hw h
  obtain ⟨k, hx, h0, hk, ho, hr, ht, hn⟩ := insF_zero h
  have hb := bits_all k hk
  have hf := opW_find k hk h0
  have hs := (opW_form k hk).1
  have hA := num_itoa x.a hw.2.1
  have hB := num_itoa x.b hw.2.2
  obtain ⟨op, a, b, ty, cl, nm⟩ := x
  obtain rfl : op = k := hx
  unfold partsM at hp
  unfold textM partsM
  unfold onlyB at ho
  simp only [Int.toNat_natCast] at hp ⊢
  generalize h0' : (opF k).testBit 0 = b0 at *
  generalize h1' : (opF k).testBit 1 = b1 at *
  generalize h2' : (opF k).testBit 2 = b2 at *
  generalize h3' : (opF k).testBit 3 = b3 at *
  generalize h4' : (opF k).testBit 4 = b4 at *
  simp only [List.mem_cons, Prod.mk.injEq, List.not_mem_nil, or_false] at hb
  unfold readM
  rcases hb with ⟨rfl, rfl, rfl, rfl, rfl⟩ | ⟨rfl, rfl, rfl, rfl, rfl⟩ | ⟨rfl, rfl, rfl, rfl, rfl⟩ | ⟨rfl, rfl, rfl, rfl, rfl⟩ | ⟨rfl, rfl, rfl, rfl, rfl⟩ | ⟨rfl, rfl, rfl, rfl, rfl⟩ | ⟨rfl, rfl, rfl, rfl, rfl⟩ | ⟨rfl, rfl, rfl, rfl, rfl⟩
  all_goals
    simp only [Bool.false_eq_true, if_false, if_true, List.nil_append, List.append_nil, List.cons_append] at hp ⊢
    simp only [Bool.or_false, Bool.or_true, Bool.and_true, Bool.true_and, Bool.and_eq_true, beq_iff_eq] at ho
    simp only [(word_first hs _).1, (word_first hs _).2, hf, h0', h1', h2', h3', h4', Bool.false_eq_true, if_false, if_true]
  all_goals
    clear hr ht hn h hw
    have hty : ∀ c ∈ ty, c ≠ 32 := by first | (intro c hc; simp [ho] at hc; done) | exact (hp ty (by simp)).1
    have hcl : ∀ c ∈ cl, c ≠ 32 := by first | (intro c hc; simp [ho] at hc; done) | exact (hp cl (by simp)).1
    have hnm : ∀ c ∈ nm, c ≠ 32 := by first | (intro c hc; simp [ho] at hc; done) | exact (hp nm (by simp)).1
    have hA' : numM (Lib.itoa a) = a := hA
    have hB' : numM (Lib.itoa b) = b := hB
    try simp only [(word_first hty _).1, (word_first hty _).2, (word_first hcl _).1, (word_first hcl _).2, (word_first hnm _).1, (word_first (itoa_space a) _).1, (word_first (itoa_space a) _).2, (word_first (itoa_space b) _).1, hA', hB']
    simp [ho]
def InsD.fits (x : InsD) : Prop := x.ty.length ≤ 140737488351232 ∧ x.cl.length ≤ 140737488351232 ∧ x.nm.length ≤ 140737488351232
end Go.Proofs.YtkolpbjpgobkcaaDoor
namespace Go.Proofs.YtkolpbjpgobkcaaDoor
open Go.RowKit
set_option linter.unusedVariables false

/-- A right instruction. -/
def InsD.good (x : InsD) : Prop := x.wf ∧ insF x = 0

theorem good_len {x : InsD} (hx : x.good) : x.ty.length ≤ 160 ∧ x.cl.length ≤ 20 ∧ x.nm.length ≤ 20 := by
  obtain ⟨hw, h⟩ := hx
  obtain ⟨k, hx, h0, hk, ho, hr, ht, hn⟩ := insF_zero h
  unfold namedB at hn
  unfold onlyB at ho
  simp only [Bool.and_eq_true, Bool.or_eq_true] at hn ho
  obtain ⟨⟨⟨_, ot⟩, oc⟩, on⟩ := ho
  have e0 : ∀ {l : List UInt8} {n : Nat}, (l == []) = true → l.length ≤ n := fun h => by rw [eq_of_beq h]; exact Nat.zero_le _
  refine ⟨?_, ?_, ?_⟩
  · rcases ot with h | h
    · exact e0 h
    · exact (typed_form hx hk h ht).2
  · rcases oc with h | h
    · exact e0 h
    · exact name_len (by have := hn.1; rw [h] at this; simpa using this)
  · rcases on with h | h
    · exact e0 h
    · exact name_len (by have := hn.2; rw [h] at this; simpa using this)
theorem good_fits {x : InsD} (hx : x.good) : x.fits := by
  obtain ⟨h1, h2, h3⟩ := good_len hx
  exact ⟨by omega, by omega, by omega⟩

/-- The first fault of a list's instructions. -/
def firstF : List InsD → Nat
  | [] => 0
  | x :: r => if insF x = 0 then firstF r else insF x
theorem firstF_zero : ∀ {l : List InsD}, firstF l = 0 → ∀ x ∈ l, insF x = 0
  | [], _, x, hx => by cases hx
  | y :: r, h, x, hx => by
    unfold firstF at h
    split at h
    · rename_i h0
      rcases List.mem_cons.1 hx with rfl | hx
      · exact h0
      · exact firstF_zero h x hx
    · rename_i h0; exact absurd h h0
theorem firstF_skip : ∀ {l : List InsD} (r : List InsD), (∀ x ∈ l, insF x = 0) → firstF (l ++ r) = firstF r
  | [], r, _ => rfl
  | y :: t, r, h => by
    show (if insF y = 0 then firstF (t ++ r) else insF y) = _
    rw [if_pos (h y (List.mem_cons_self ..))]
    exact firstF_skip r (fun x hx => h x (List.mem_cons_of_mem _ hx))
theorem firstF_nil {l : List InsD} (h : ∀ x ∈ l, insF x = 0) : firstF l = 0 := by
  have := firstF_skip [] h
  rwa [List.append_nil] at this
/-- The first fault, where those ahead have none. -/
theorem firstF_at {l : List InsD} {j : Nat} (hj : j < l.length) (h : ∀ x ∈ l.take j, insF x = 0) (hf : insF l[j] ≠ 0) : firstF l = insF l[j] := by
  have e : l.take j ++ (l[j] :: l.drop (j + 1)) = l := by
    rw [← List.drop_eq_getElem_cons hj, List.take_append_drop]
  have := firstF_skip (l[j] :: l.drop (j + 1)) h
  rw [e] at this
  rw [this]
  show (if insF l[j] = 0 then _ else _) = _
  rw [if_neg hf]
theorem first_bad {l : List InsD} (h : firstF l ≠ 0) : ∃ j, ∃ hj : j < l.length, (∀ x ∈ l.take j, insF x = 0) ∧ insF l[j] ≠ 0 ∧ firstF l = insF l[j] := by
  induction l with
  | nil => exact absurd rfl h
  | cons x r ih =>
    by_cases hx : insF x = 0
    · have e : firstF (x :: r) = firstF r := by show (if insF x = 0 then _ else _) = _; rw [if_pos hx]
      obtain ⟨j, hj, h1, h2, h3⟩ := ih (by rw [← e]; exact h)
      refine ⟨j + 1, by simpa using hj, fun y hy => ?_, by simpa using h2, by rw [e, h3]; simp⟩
      rw [List.take_succ_cons] at hy
      rcases List.mem_cons.1 hy with rfl | hy
      · exact hx
      · exact h1 y hy
    · exact ⟨0, by simp, fun y hy => (by cases hy), hx, by show (if insF x = 0 then _ else _) = _; rw [if_neg hx]; rfl⟩
end Go.Proofs.YtkolpbjpgobkcaaDoor
namespace Go.Proofs.YtkolpbjpgobkcaaDoor
open Go.RowKit
set_option linter.unusedVariables false

/-- Does the following instruction come next? Does the instruction jump? -/
def goesB (op : Int) : Bool := !decide (op = 14 ∨ op = 26 ∨ op = 27 ∨ op = 28)
def jumpB (op : Int) : Bool := decide (op = 12 ∨ op = 13 ∨ op = 14)
/-- What may follow the instruction x, which is the one at k. -/
def nextM (x : InsD) (k : Nat) : List Nat :=
  (if goesB x.op then [k + 1] else []) ++ (if jumpB x.op && !(goesB x.op && decide (x.a = (k : Int) + 1)) then [x.a.toNat] else [])
def aftM (l : List InsD) (k : Nat) : List Nat := nextM (l.getD k zeroI) k
theorem aft_at {l : List InsD} {k : Nat} (h : k < l.length) : aftM l k = nextM l[k] k := by
  unfold aftM
  rw [List.getD_eq_getElem?_getD, List.getElem?_eq_getElem h]; rfl
theorem aft_none {l : List InsD} {k : Nat} (h : l.length ≤ k) : aftM l k = [k + 1] := by
  unfold aftM
  rw [List.getD_eq_getElem?_getD, List.getElem?_eq_none h]
  rfl
/-- The first fault of code, as a number. -/
def farB (n : Nat) (x : InsD) : Bool := jumpB x.op && decide ((n : Int) ≤ x.a)
def lastGoesB (l : List InsD) : Bool := l.length == 0 || goesB (l.getD (l.length - 1) zeroI).op
def flowF (l : List InsD) : Nat :=
  if 40 < l.length then 4
  else if firstF l ≠ 0 then firstF l
  else if l.any (farB l.length) then 2
  else if lastGoesB l then 8
  else 0
/-- Valid code. -/
def FlowOk (l : List InsD) : Prop := l.length ≤ 40 ∧ (∀ x ∈ l, x.good) ∧ (∀ x ∈ l, jumpB x.op = true → x.a < (l.length : Int)) ∧ 0 < l.length ∧ goesB (l.getD (l.length - 1) zeroI).op = false

theorem good_jump {x : InsD} (h : insF x = 0) (hj : jumpB x.op = true) : 0 ≤ x.a ∧ x.a ≤ 40 := by
  obtain ⟨k, hx, h0, hk, ho, hr, ht, hn⟩ := insF_zero h
  unfold jumpB at hj
  have hj := of_decide_eq_true hj
  unfold rangeB at hr
  rw [if_neg (by omega), if_neg (by omega), if_neg (by omega)] at hr
  split at hr
  · rw [Bool.and_eq_true] at hr
    exact of_decide_eq_true hr.1
  · rw [if_pos (by omega)] at hr
    exact of_decide_eq_true hr
theorem flowF_ok {l : List InsD} (hw : ∀ x ∈ l, x.wf) : flowF l = 0 ↔ FlowOk l := by
  unfold flowF FlowOk
  constructor
  · intro h
    split at h
    · cases h
    · split at h
      · contradiction
      · split at h
        · cases h
        · split at h
          · cases h
          · rename_i h1 h2 h3 h4
            have h2' : firstF l = 0 := by simpa using h2
            have h3' : l.any (farB l.length) = false := by simpa using h3
            have h4' : lastGoesB l = false := by simpa using h4
            unfold lastGoesB at h4'
            rw [Bool.or_eq_false_iff] at h4'
            refine ⟨by omega, fun x hx => ⟨hw x hx, firstF_zero h2' x hx⟩, fun x hx hj => ?_, ?_, h4'.2⟩
            · have := List.any_eq_false.1 h3' x hx
              unfold farB at this
              rw [hj, Bool.true_and, decide_eq_true_eq] at this
              omega
            · have := h4'.1
              rw [beq_eq_false_iff_ne] at this
              omega
  · rintro ⟨h1, h2, h3, h4, h5⟩
    rw [if_neg (by omega), if_neg (by rw [firstF_nil (fun x hx => (h2 x hx).2)]; simp), if_neg ?_, if_neg ?_]
    · unfold lastGoesB
      rw [h5, Bool.or_false]
      simp
      intro h; subst h; exact absurd h4 (by simp)
    · simp only [Bool.not_eq_true]
      rw [List.any_eq_false]
      intro x hx
      unfold farB
      simp only [Bool.and_eq_true, decide_eq_true_eq, not_and]
      intro hj
      have := h3 x hx hj
      omega
theorem aft_lt {l : List InsD} (h : FlowOk l) {k : Nat} (hk : k < l.length) : ∀ j ∈ aftM l k, j < l.length := by
  obtain ⟨h1, h2, h3, h4, h5⟩ := h
  intro j hj
  rw [aft_at hk] at hj
  unfold nextM at hj
  have hx : l[k] ∈ l := List.getElem_mem hk
  rcases List.mem_append.1 hj with hj | hj
  · split at hj
    · rename_i hg
      obtain rfl := List.mem_singleton.1 hj
      by_cases e : k + 1 = l.length
      · rw [show l.length - 1 = k by omega, List.getD_eq_getElem?_getD, List.getElem?_eq_getElem hk] at h5
        have h5' : goesB l[k].op = false := h5
        rw [h5'] at hg; cases hg
      · omega
    · cases hj
  · split at hj
    · rename_i hg
      obtain rfl := List.mem_singleton.1 hj
      rw [Bool.and_eq_true] at hg
      have := h3 _ hx hg.1
      have := (good_jump (h2 _ hx).2 hg.1).1
      omega
    · cases hj

/-! What is reached. -/
inductive Path (l : List InsD) : Nat → Nat → Prop
  | here (k : Nat) : Path l k k
  | step {k j i : Nat} : j ∈ aftM l k → Path l j i → Path l k i
theorem Path.more {l : List InsD} {k i j : Nat} (h : Path l k i) (hj : j ∈ aftM l i) : Path l k j := by
  induction h with
  | here k => exact .step hj (.here _)
  | step h1 _ ih => exact .step h1 (ih hj)
theorem Path.last {l : List InsD} {k i : Nat} (h : Path l k i) : i = k ∨ ∃ t, Path l k t ∧ i ∈ aftM l t := by
  induction h with
  | here k => exact .inl rfl
  | step h1 h2 ih =>
    rcases ih with rfl | ⟨t, ht, hi⟩
    · exact .inr ⟨_, .here _, h1⟩
    · exact .inr ⟨t, .step h1 ht, hi⟩
theorem Path.lt {l : List InsD} (h : FlowOk l) {k i : Nat} (hp : Path l k i) (hk : k < l.length) : i < l.length := by
  induction hp with
  | here k => exact hk
  | step h1 _ ih => exact ih (aft_lt h hk _ h1)
/-- A set that holds the start and what follows its elements holds what is reached. -/
theorem Path.within {l : List InsD} {k i : Nat} (hp : Path l k i) (f : Nat → Bool) (h0 : f k = true) (hc : ∀ t, f t = true → ∀ j ∈ aftM l t, f j = true) : f i = true := by
  induction hp with
  | here k => exact h0
  | step h1 _ ih => exact ih (hc _ h0 _ h1)
/-- xs: the indices of what is reached from the first, in order. -/
def ReachL (l : List InsD) (xs : List Nat) : Prop := ∃ f : Nat → Bool, (∀ i, i < l.length → (f i = true ↔ Path l 0 i)) ∧ xs = (List.range l.length).filter f
theorem filter_same {n : Nat} {f g : Nat → Bool} (h : ∀ i, i < n → f i = g i) : (List.range n).filter f = (List.range n).filter g :=
  List.filter_congr fun i hi => h i (List.mem_range.1 hi)
theorem ReachL.of {l : List InsD} {xs : List Nat} (h : ReachL l xs) {g : Nat → Bool} (hg : ∀ i, i < l.length → (g i = true ↔ Path l 0 i)) : (List.range l.length).filter g = xs := by
  obtain ⟨f, hf, rfl⟩ := h
  apply filter_same
  intro i hi
  rw [Bool.eq_iff_iff, hf i hi, hg i hi]
theorem reach_exists (l : List InsD) : ∃ xs, ReachL l xs := by
  classical
  exact ⟨_, fun i => decide (Path l 0 i), fun i _ => by simp, rfl⟩
theorem ReachL.mem {l : List InsD} {xs : List Nat} (h : ReachL l xs) (i : Nat) : i ∈ xs ↔ i < l.length ∧ Path l 0 i := by
  obtain ⟨f, hf, rfl⟩ := h
  rw [List.mem_filter, List.mem_range]
  constructor
  · rintro ⟨h1, h2⟩; exact ⟨h1, (hf i h1).1 h2⟩
  · rintro ⟨h1, h2⟩; exact ⟨h1, (hf i h1).2 h2⟩
theorem ReachL.length {l : List InsD} {xs : List Nat} (h : ReachL l xs) : xs.length ≤ l.length := by
  obtain ⟨f, hf, rfl⟩ := h
  exact Nat.le_trans (List.length_filter_le _ _) (by simp)

/-! The search: f is what was found ahead, g what is found behind. -/
def Marks (l : List InsD) (f g : Nat → Bool) (k : Nat) : Prop :=
  (∀ i, f i = true → g i = true) ∧ g k = true ∧ (∀ i, g i = true → f i = false → Path l k i) ∧ (∀ i, g i = true → f i = false → ∀ j ∈ aftM l i, g j = true)
/-- The search at k: f ahead; p is what of its followers was looked at, g what is found so far. -/
def Marking (l : List InsD) (f g : Nat → Bool) (k : Nat) (p : List Nat) : Prop :=
  (∀ i, f i = true → g i = true) ∧ g k = true ∧ (∀ i, g i = true → f i = false → Path l k i) ∧ (∀ i, g i = true → f i = false → i ≠ k → ∀ j ∈ aftM l i, g j = true) ∧ (∀ j ∈ p, g j = true)
theorem Marking.start (l : List InsD) (f : Nat → Bool) (k : Nat) : Marking l f (fun j => if j = k then true else f j) k [] := by
  refine ⟨fun i hi => ?_, by simp, fun i hi hf => ?_, fun i hi hf hk => ?_, fun j hj => by cases hj⟩
  · show (if i = k then true else f i) = true
    split
    · rfl
    · exact hi
  · replace hi : (if i = k then true else f i) = true := hi
    split at hi
    · rename_i e; subst e; exact .here _
    · rw [hf] at hi; cases hi
  · replace hi : (if i = k then true else f i) = true := hi
    rw [if_neg hk, hf] at hi; cases hi
theorem Marking.skip {l : List InsD} {f g : Nat → Bool} {k j : Nat} {p : List Nat} (h : Marking l f g k p) (hj : g j = true) : Marking l f g k (p ++ [j]) :=
  ⟨h.1, h.2.1, h.2.2.1, h.2.2.2.1, fun i hi => by
    rcases List.mem_append.1 hi with h1 | h1
    · exact h.2.2.2.2 i h1
    · obtain rfl := List.mem_singleton.1 h1; exact hj⟩
theorem Marking.call {l : List InsD} {f g g' : Nat → Bool} {k j : Nat} {p : List Nat} (h : Marking l f g k p) (hj : j ∈ aftM l k) (hm : Marks l g g' j) : Marking l f g' k (p ++ [j]) := by
  obtain ⟨h1, h2, h3, h4, h5⟩ := h
  obtain ⟨m1, m2, m3, m4⟩ := hm
  refine ⟨fun i hi => m1 i (h1 i hi), m1 k h2, fun i hi hf => ?_, fun i hi hf hk t ht => ?_, fun i hi => ?_⟩
  · cases hg : g i with
    | true => exact h3 i hg hf
    | false => exact .step hj (m3 i hi hg)
  · cases hg : g i with
    | true => exact m1 t (h4 i hg hf hk t ht)
    | false => exact m4 i hi hg t ht
  · rcases List.mem_append.1 hi with h6 | h6
    · exact m1 i (h5 i h6)
    · obtain rfl := List.mem_singleton.1 h6; exact m2
theorem Marking.done {l : List InsD} {f g : Nat → Bool} {k : Nat} (h : Marking l f g k (aftM l k)) : Marks l f g k := by
  obtain ⟨h1, h2, h3, h4, h5⟩ := h
  refine ⟨h1, h2, h3, fun i hi hf => ?_⟩
  by_cases e : i = k
  · subst e; exact h5
  · exact h4 i hi hf e
theorem Marks.reach {l : List InsD} {g : Nat → Bool} (h : Marks l (fun _ => false) g 0) (i : Nat) : g i = true ↔ Path l 0 i :=
  ⟨fun hi => h.2.2.1 i hi rfl, fun hp => hp.within g h.2.1 fun t ht => h.2.2.2 t ht rfl⟩

/-! How many are not found yet. -/
def cnt (f : Nat → Bool) : Nat → Nat
  | 0 => 0
  | n + 1 => cnt f n + (if f n = true then 0 else 1)
theorem cnt_le {f g : Nat → Bool} (h : ∀ i, f i = true → g i = true) (n : Nat) : cnt g n ≤ cnt f n := by
  induction n with
  | zero => exact Nat.le_refl _
  | succ n ih =>
    show cnt g n + (if g n = true then 0 else 1) ≤ cnt f n + (if f n = true then 0 else 1)
    cases hf : f n with
    | true => rw [h n hf]; exact ih
    | false => simp only [Bool.false_eq_true, if_false]; split <;> omega
theorem cnt_lt {f g : Nat → Bool} (h : ∀ i, f i = true → g i = true) {k : Nat} (hk : f k = false) (hg : g k = true) : ∀ {n : Nat}, k < n → cnt g n < cnt f n
  | 0, hn => by omega
  | n + 1, hn => by
    show cnt g n + (if g n = true then 0 else 1) < cnt f n + (if f n = true then 0 else 1)
    by_cases e : k = n
    · subst e
      have := cnt_le h k
      rw [hk, hg]
      simp only [if_true, Bool.false_eq_true, if_false]
      omega
    · have := cnt_lt h hk hg (n := n) (by omega)
      cases hf : f n with
      | true => rw [h n hf]; simp only [if_true]; omega
      | false => simp only [Bool.false_eq_true, if_false]; split <;> omega
theorem cnt_top (f : Nat → Bool) (n : Nat) : cnt f n ≤ n := by
  induction n with
  | zero => exact Nat.le_refl _
  | succ n ih => show cnt f n + (if f n = true then 0 else 1) ≤ n + 1; split <;> omega
theorem cnt_pos {f : Nat → Bool} {k n : Nat} (hk : f k = false) (hn : k < n) : 0 < cnt f n :=
  Nat.lt_of_le_of_lt (Nat.zero_le _) (cnt_lt (g := fun _ => true) (fun _ _ => rfl) hk rfl hn)
end Go.Proofs.YtkolpbjpgobkcaaDoor
namespace Go.Proofs.YtkolpbjpgobkcaaDoor
open Go.RowKit
set_option linter.unusedVariables false

structure FieldD where
  nm : List UInt8
  ty : List UInt8
deriving DecidableEq, Inhabited
structure HandD where
  fr : Int
  tu : Int
  pos : Int
  cl : List UInt8
deriving DecidableEq, Inhabited
structure MethD where
  nm : List UInt8
  ty : List UInt8
  st : Bool
  ab : Bool
  pr : Bool
  lo : Int
  code : List InsD
  hs : List HandD
deriving DecidableEq, Inhabited
structure ClassD where
  nm : List UInt8
  su : List UInt8
  faces : List (List UInt8)
  face : Bool
  fields : List FieldD
  meths : List MethD
deriving DecidableEq, Inhabited

/-! The first fault of a list's elements, each told with those ahead of it. -/
def firstFrom {α : Type} (f : List α → α → Nat) : List α → List α → Nat
  | _, [] => 0
  | pre, x :: r => if f pre x = 0 then firstFrom f (pre ++ [x]) r else f pre x
def firstAt {α : Type} (f : List α → α → Nat) (l : List α) : Nat := firstFrom f [] l
section
variable {α : Type} {f : List α → α → Nat}
theorem firstFrom_skip : ∀ {l : List α} {pre : List α} (r : List α), (∀ (j : Nat) (hj : j < l.length), f (pre ++ l.take j) l[j] = 0) → firstFrom f pre (l ++ r) = firstFrom f (pre ++ l) r
  | [], pre, r, _ => by rw [List.append_nil]; rfl
  | x :: t, pre, r, h => by
    have h0 : f pre x = 0 := by have := h 0 (by simp); simpa using this
    show (if f pre x = 0 then firstFrom f (pre ++ [x]) (t ++ r) else f pre x) = _
    rw [if_pos h0, firstFrom_skip r fun j hj => ?_, List.append_assoc]
    · rfl
    · have := h (j + 1) (by simpa using hj)
      rw [List.append_assoc]
      simpa using this
theorem firstAt_skip {l : List α} (r : List α) (h : ∀ (j : Nat) (hj : j < l.length), f (l.take j) l[j] = 0) : firstAt f (l ++ r) = firstFrom f l r := by
  have := firstFrom_skip (f := f) (l := l) (pre := []) r (by simpa using h)
  unfold firstAt
  simpa using this
theorem firstAt_zero {l : List α} (h : ∀ (j : Nat) (hj : j < l.length), f (l.take j) l[j] = 0) : firstAt f l = 0 := by
  have := firstAt_skip [] h
  rw [List.append_nil] at this
  exact this
theorem firstAt_at {l : List α} {j : Nat} (hj : j < l.length) (h : ∀ (i : Nat) (hi : i < j), f (l.take i) (l[i]'(by omega)) = 0) (hf : f (l.take j) l[j] ≠ 0) : firstAt f l = f (l.take j) l[j] := by
  have e : l.take j ++ (l[j] :: l.drop (j + 1)) = l := by
    rw [← List.drop_eq_getElem_cons hj, List.take_append_drop]
  have hs := firstAt_skip (f := f) (l := l.take j) (l[j] :: l.drop (j + 1)) (fun i hi => by
    have hij : i < j := by rw [List.length_take] at hi; omega
    have := h i hij
    rw [List.take_take, show min i j = i by omega]
    simpa using this)
  rw [e] at hs
  rw [hs]
  show (if f (l.take j) l[j] = 0 then _ else _) = _
  rw [if_neg hf]
theorem firstFrom_all : ∀ {l : List α} {pre : List α}, firstFrom f pre l = 0 → ∀ (j : Nat) (hj : j < l.length), f (pre ++ l.take j) l[j] = 0
  | x :: t, pre, h, j, hj => by
    replace h : (if f pre x = 0 then firstFrom f (pre ++ [x]) t else f pre x) = 0 := h
    split at h
    · rename_i h0
      cases j with
      | zero => simpa using h0
      | succ j =>
        have := firstFrom_all h j (by simpa using hj)
        rw [List.append_assoc] at this
        simpa using this
    · rename_i h0; exact absurd h h0
theorem firstAt_all {l : List α} (h : firstAt f l = 0) (j : Nat) (hj : j < l.length) : f (l.take j) l[j] = 0 := by
  have := firstFrom_all (f := f) (pre := []) h j hj
  simpa using this
theorem firstAt_take {l : List α} (h : firstAt f l = 0) (k : Nat) : firstAt f (l.take k) = 0 := by
  refine firstAt_zero fun j hj => ?_
  have hjk : j < k ∧ j < l.length := by rw [List.length_take] at hj; omega
  have := firstAt_all h j hjk.2
  rw [List.take_take, show min j k = j by omega]
  simpa using this
theorem firstAt_more {l : List α} (x : α) (h : firstAt f l = 0) : firstAt f (l ++ [x]) = f l x := by
  rw [firstAt_skip [x] (firstAt_all h)]
  show (if f l x = 0 then 0 else f l x) = _
  split <;> simp_all
end

/-! What is wrong with the parts, and with a class. -/
def faceF (pre : List (List UInt8)) (x : List UInt8) : Nat := if nameB x = false then 1 else if pre.any (· == x) = true then 5 else 0
def fieldF (pre : List FieldD) (x : FieldD) : Nat := if (nameB x.nm && isTypeB x.ty) = false then 1 else if pre.any (fun y => y.nm == x.nm) = true then 5 else 0
def spanB (n : Nat) (x : HandD) : Bool := decide (0 ≤ x.fr ∧ x.fr < x.tu ∧ x.tu ≤ (n : Int) ∧ 0 ≤ x.pos ∧ x.pos < (n : Int))
def handF (n : Nat) (_ : List HandD) (x : HandD) : Nat := if spanB n x = false then 2 else if nameB x.cl = false then 1 else 0
def handsF (l : List HandD) (n : Nat) : Nat := if firstAt (handF n) l ≠ 0 then firstAt (handF n) l else if 8 < l.length then 4 else 0
def argsN (l : List UInt8) : Nat := match methodB l with
  | some (a, _) => a.length
  | none => 0
def localB (lo : Int) (x : InsD) : Bool := decide (x.op = 4 ∨ x.op = 5) && decide (lo ≤ x.a)
def wantsN (m : MethD) : Nat := argsN m.ty + (if m.st then 0 else 1)
def bodyF (m : MethD) : Nat :=
  if flowF m.code ≠ 0 then flowF m.code else if m.lo < (wantsN m : Int) then 2 else if m.code.any (localB m.lo) = true then 2 else handsF m.hs m.code.length
def bareF (m : MethD) : Nat := if (m.st || m.pr || m.code.length != 0 || m.hs.length != 0) = true then 8 else 0
def mtdF (pre : List MethD) (m : MethD) : Nat :=
  if (nameB m.nm && (methodB m.ty).isSome) = false then 1 else if pre.any (fun y => y.nm == m.nm && y.ty == m.ty) = true then 5 else if m.lo < 0 ∨ 8 < m.lo then 2 else if m.ab = true then bareF m else bodyF m
def classF (c : ClassD) : Nat :=
  if (nameB c.nm && (c.su == [] || nameB c.su)) = false then 1
  else if firstAt faceF c.faces ≠ 0 then firstAt faceF c.faces
  else if 8 < c.faces.length ∨ 8 < c.fields.length ∨ 8 < c.meths.length then 4
  else if firstAt fieldF c.fields ≠ 0 then firstAt fieldF c.fields
  else if firstAt mtdF c.meths ≠ 0 then firstAt mtdF c.meths
  else if (c.face && c.fields.length != 0) = true then 8
  else 0

def HandD.wf (h : HandD) : Prop := i64B h.fr ∧ i64B h.tu ∧ i64B h.pos
def MethD.wf (m : MethD) : Prop := i64B m.lo ∧ (∀ x ∈ m.code, x.wf) ∧ ∀ h ∈ m.hs, h.wf
def ClassD.wf (c : ClassD) : Prop := ∀ m ∈ c.meths, m.wf
/-- The texts and lists are of at most N bytes or elements. -/
def HandD.upto (N : Nat) (h : HandD) : Prop := h.cl.length ≤ N
def InsD.upto (N : Nat) (x : InsD) : Prop := x.ty.length ≤ N ∧ x.cl.length ≤ N ∧ x.nm.length ≤ N
def FieldD.upto (N : Nat) (x : FieldD) : Prop := x.nm.length ≤ N ∧ x.ty.length ≤ N
def MethD.upto (N : Nat) (m : MethD) : Prop := m.nm.length ≤ N ∧ m.ty.length ≤ N ∧ ((∀ x ∈ m.code, x.upto N) ∧ m.code.length ≤ N) ∧ (∀ h ∈ m.hs, h.upto N) ∧ m.hs.length ≤ N
def ClassD.upto (N : Nat) (c : ClassD) : Prop := c.nm.length ≤ N ∧ c.su.length ≤ N ∧ ((∀ x ∈ c.faces, x.length ≤ N) ∧ c.faces.length ≤ N) ∧ ((∀ x ∈ c.fields, x.upto N) ∧ c.fields.length ≤ N) ∧ (∀ m ∈ c.meths, m.upto N) ∧ c.meths.length ≤ N
end Go.Proofs.YtkolpbjpgobkcaaDoor
namespace Go.Proofs.YtkolpbjpgobkcaaDoor
open Go.RowKit
set_option linter.unusedVariables false

section
variable {c : ClassD}
def headB_ (c : ClassD) : Bool := nameB c.nm && (c.su == [] || nameB c.su)
theorem classF_name (h : headB_ c = false) : classF c = 1 := by unfold classF; exact if_pos h
theorem classF_face (h : headB_ c = true) (hf : firstAt faceF c.faces ≠ 0) : classF c = firstAt faceF c.faces := by unfold headB_ at h; unfold classF; rw [h, if_neg (by simp), if_pos hf]
theorem classF_full (h : headB_ c = true) (hf : firstAt faceF c.faces = 0) (h8 : 8 < c.faces.length ∨ 8 < c.fields.length ∨ 8 < c.meths.length) : classF c = 4 := by
  unfold headB_ at h; unfold classF; rw [h, if_neg (by simp), if_neg (by rw [hf]; simp), if_pos h8]
theorem classF_field (h : headB_ c = true) (hf : firstAt faceF c.faces = 0) (h8 : ¬ (8 < c.faces.length ∨ 8 < c.fields.length ∨ 8 < c.meths.length)) (hd : firstAt fieldF c.fields ≠ 0) : classF c = firstAt fieldF c.fields := by
  unfold headB_ at h; unfold classF; rw [h, if_neg (by simp), if_neg (by rw [hf]; simp), if_neg h8, if_pos hd]
theorem classF_meth (h : headB_ c = true) (hf : firstAt faceF c.faces = 0) (h8 : ¬ (8 < c.faces.length ∨ 8 < c.fields.length ∨ 8 < c.meths.length)) (hd : firstAt fieldF c.fields = 0) (hm : firstAt mtdF c.meths ≠ 0) : classF c = firstAt mtdF c.meths := by
  unfold headB_ at h; unfold classF; rw [h, if_neg (by simp), if_neg (by rw [hf]; simp), if_neg h8, if_neg (by rw [hd]; simp), if_pos hm]
theorem classF_end (h : headB_ c = true) (hf : firstAt faceF c.faces = 0) (h8 : ¬ (8 < c.faces.length ∨ 8 < c.fields.length ∨ 8 < c.meths.length)) (hd : firstAt fieldF c.fields = 0) (hm : firstAt mtdF c.meths = 0) : classF c = if (c.face && c.fields.length != 0) = true then 8 else 0 := by
  unfold headB_ at h; unfold classF; rw [h, if_neg (by simp), if_neg (by rw [hf]; simp), if_neg h8, if_neg (by rw [hd]; simp), if_neg (by rw [hm]; simp)]
end
/-- None of the first j elements has a fault. -/
def CleanTo {α : Type} (f : List α → α → Nat) (l : List α) (j : Nat) : Prop := ∀ (i : Nat) (hi : i < l.length), i < j → f (l.take i) l[i] = 0
theorem CleanTo.start {α : Type} (f : List α → α → Nat) (l : List α) : CleanTo f l 0 := fun i hi h => by omega
theorem CleanTo.next {α : Type} {f : List α → α → Nat} {l : List α} {j : Nat} (h : CleanTo f l j) (hj : j < l.length) (h0 : f (l.take j) l[j] = 0) : CleanTo f l (j + 1) := fun i hi hij => by
  by_cases e : i = j
  · subst e; exact h0
  · exact h i hi (by omega)
theorem CleanTo.fault {α : Type} {f : List α → α → Nat} {l : List α} {j : Nat} (h : CleanTo f l j) (hj : j < l.length) (hf : f (l.take j) l[j] ≠ 0) : firstAt f l = f (l.take j) l[j] := firstAt_at hj (fun i hi => h i (by omega) hi) hf
theorem CleanTo.all {α : Type} {f : List α → α → Nat} {l : List α} {n : Nat} (h : CleanTo f l n) (hn : l.length = n) : firstAt f l = 0 := firstAt_zero fun j hj => h j hj (by omega)

theorem head_cases {c : ClassD} : (nameB c.nm = false ∧ headB_ c = false) ∨ (nameB c.nm = true ∧ c.su = [] ∧ headB_ c = true) ∨ (nameB c.nm = true ∧ c.su ≠ [] ∧ nameB c.su = false ∧ headB_ c = false) ∨ (nameB c.nm = true ∧ c.su ≠ [] ∧ nameB c.su = true ∧ headB_ c = true) := by
  unfold headB_
  cases h1 : nameB c.nm with
  | false => exact .inl ⟨rfl, rfl⟩
  | true =>
    by_cases h2 : c.su = []
    · exact .inr (.inl ⟨rfl, h2, by simp [h2]⟩)
    · cases h3 : nameB c.su with
      | false => exact .inr (.inr (.inl ⟨rfl, h2, rfl, by simp [h2]⟩))
      | true => exact .inr (.inr (.inr ⟨rfl, h2, rfl, by simp⟩))
theorem faceF_name {pre : List (List UInt8)} {x : List UInt8} (h : nameB x = false) : faceF pre x = 1 := by unfold faceF; rw [if_pos h]
theorem faceF_twice {pre : List (List UInt8)} {x : List UInt8} (h : nameB x = true) (h2 : pre.any (· == x) = true) : faceF pre x = 5 := by unfold faceF; rw [h, if_neg (by simp), if_pos h2]
theorem faceF_none {pre : List (List UInt8)} {x : List UInt8} (h : nameB x = true) (h2 : pre.any (· == x) = false) : faceF pre x = 0 := by unfold faceF; rw [h, h2, if_neg (by simp), if_neg (by simp)]
theorem fieldF_bad {pre : List FieldD} {x : FieldD} (h : (nameB x.nm && isTypeB x.ty) = false) : fieldF pre x = 1 := by unfold fieldF; rw [if_pos h]
theorem fieldF_twice {pre : List FieldD} {x : FieldD} (h : (nameB x.nm && isTypeB x.ty) = true) (h2 : pre.any (fun y => y.nm == x.nm) = true) : fieldF pre x = 5 := by unfold fieldF; rw [h, if_neg (by simp), if_pos h2]
theorem fieldF_none {pre : List FieldD} {x : FieldD} (h : (nameB x.nm && isTypeB x.ty) = true) (h2 : pre.any (fun y => y.nm == x.nm) = false) : fieldF pre x = 0 := by unfold fieldF; rw [h, h2, if_neg (by simp), if_neg (by simp)]

theorem classF_zero {c : ClassD} : classF c = 0 ↔ headB_ c = true ∧ firstAt faceF c.faces = 0 ∧ ¬ (8 < c.faces.length ∨ 8 < c.fields.length ∨ 8 < c.meths.length) ∧ firstAt fieldF c.fields = 0 ∧ firstAt mtdF c.meths = 0 ∧ (c.face && c.fields.length != 0) = false := by
  constructor
  · intro h
    cases h1 : headB_ c with
    | false => rw [classF_name h1] at h; cases h
    | true =>
      by_cases h2 : firstAt faceF c.faces = 0
      · by_cases h3 : 8 < c.faces.length ∨ 8 < c.fields.length ∨ 8 < c.meths.length
        · rw [classF_full h1 h2 h3] at h; cases h
        · by_cases h4 : firstAt fieldF c.fields = 0
          · by_cases h5 : firstAt mtdF c.meths = 0
            · rw [classF_end h1 h2 h3 h4 h5] at h
              cases h6 : (c.face && c.fields.length != 0) with
              | true => rw [h6] at h; cases h
              | false => exact ⟨rfl, h2, h3, h4, h5, rfl⟩
            · rw [classF_meth h1 h2 h3 h4 h5] at h; exact absurd h h5
          · rw [classF_field h1 h2 h3 h4] at h; exact absurd h h4
      · rw [classF_face h1 h2] at h; exact absurd h h2
  · rintro ⟨h1, h2, h3, h4, h5, h6⟩
    rw [classF_end h1 h2 h3 h4 h5, h6]; rfl
theorem parts_meths {c : ClassD} (h : classF c = 0) (n : Nat) : classF ⟨c.nm, c.su, c.faces, c.face, c.fields, c.meths.take n⟩ = 0 := by
  obtain ⟨h1, h2, h3, h4, h5, h6⟩ := classF_zero.1 h
  exact classF_zero.2 ⟨h1, h2, by show ¬ (8 < c.faces.length ∨ 8 < c.fields.length ∨ 8 < (c.meths.take n).length); rw [List.length_take]; omega, h4, firstAt_take h5 n, h6⟩
theorem parts_fields {c : ClassD} (h : classF c = 0) (n : Nat) : classF ⟨c.nm, c.su, c.faces, c.face, c.fields.take n, c.meths⟩ = 0 := by
  obtain ⟨h1, h2, h3, h4, h5, h6⟩ := classF_zero.1 h
  refine classF_zero.2 ⟨h1, h2, by show ¬ (8 < c.faces.length ∨ 8 < (c.fields.take n).length ∨ 8 < c.meths.length); rw [List.length_take]; omega, firstAt_take h4 n, h5, ?_⟩
  show (c.face && (c.fields.take n).length != 0) = false
  cases hf : c.face with
  | false => rfl
  | true =>
    rw [hf, Bool.true_and, bne_eq_false_iff_eq] at h6
    rw [List.length_take, h6]; simp
theorem parts_faces {c : ClassD} (h : classF c = 0) (n : Nat) : classF ⟨c.nm, c.su, c.faces.take n, c.face, c.fields, c.meths⟩ = 0 := by
  obtain ⟨h1, h2, h3, h4, h5, h6⟩ := classF_zero.1 h
  exact classF_zero.2 ⟨h1, firstAt_take h2 n, by show ¬ (8 < (c.faces.take n).length ∨ 8 < c.fields.length ∨ 8 < c.meths.length); rw [List.length_take]; omega, h4, h5, h6⟩
end Go.Proofs.YtkolpbjpgobkcaaDoor
