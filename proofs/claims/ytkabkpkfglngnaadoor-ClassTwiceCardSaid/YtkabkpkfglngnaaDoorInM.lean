/- Instructions as plain data: which fields an operation has, what is wrong with one, its text, and what a text reads as. No program. -/
import Derived.Test.YtkabkpkfglngnaaDoorDeX
import Derived.Lib.AtoiAll
import Derived.Lib.ItoaNum
import Derived.Lib.ItoaMem
import Derived.Lib.ItoaLen
namespace Go.Proofs.YtkabkpkfglngnaaDoor
open Go.RowKit
set_option linter.unusedVariables false

/-- An instruction, and its value. -/
structure InsD where
  op : Int
  a : Int
  b : Int
  ty : List UInt8
  cl : List UInt8
  nm : List UInt8
deriving DecidableEq
def insV (x : InsD) : Value := .agg #[.int .i64 x.op, .int .i64 x.a, .int .i64 x.b, .string (bs x.ty), .string (bs x.cl), .string (bs x.nm)]
def i64B (n : Int) : Prop := -9223372036854775808 ≤ n ∧ n ≤ 9223372036854775807
def InsD.wf (x : InsD) : Prop := i64B x.op ∧ i64B x.a ∧ i64B x.b
def zeroI : InsD := ⟨0, 0, 0, [], [], []⟩

/-- The operations' names and fields. -/
def opTab : List (List UInt8 × Nat) := [([], 0), ([110, 111, 112], 0), ([112, 117, 115, 104], 5), ([110, 117, 108, 108], 0), ([108, 111, 97, 100], 1), ([115, 116, 111, 114, 101], 1), ([112, 111, 112], 0), ([100, 117, 112], 0), ([115, 119, 97, 112], 0), ([109, 97, 116, 104], 5), ([99, 111, 110, 118], 4), ([111, 114, 100, 101, 114], 0), ([105, 102], 3), ([105, 102, 110, 117, 108, 108], 1), ([103, 111, 116, 111], 1), ([110, 101, 119], 8), ([103, 101, 116], 24), ([112, 117, 116], 24), ([110, 101, 119, 97, 114, 114, 97, 121], 4), ([108, 101, 110, 103, 116, 104], 0), ([97, 108, 111, 97, 100], 4), ([97, 115, 116, 111, 114, 101], 4), ([99, 97, 115, 116], 4), ([105, 115], 4), ([99, 97, 108, 108], 28), ([99, 97, 108, 108, 115], 28), ([114, 101, 116, 117, 114, 110], 0), ([103, 105, 118, 101], 0), ([116, 104, 114, 111, 119], 0)]
def opW (k : Nat) : List UInt8 := (opTab.getD k ([], 0)).1
def opF (k : Nat) : Nat := (opTab.getD k ([], 0)).2
theorem opF_some : ∀ k, k < 29 → opF k ∈ [0, 1, 3, 4, 5, 8, 24, 28] := by decide
theorem opF_lt {k : Nat} (h : k < 29) : opF k < 32 := by
  have := opF_some k h
  simp only [List.mem_cons, List.not_mem_nil, or_false] at this
  omega

def onlyB (x : InsD) (f : Nat) : Bool := (x.a == 0 || f.testBit 0) && (x.b == 0 || f.testBit 1) && (x.ty == [] || f.testBit 2) && (x.cl == [] || f.testBit 3) && (x.nm == [] || f.testBit 4)
def targetB (n : Int) : Bool := decide (0 ≤ n ∧ n ≤ 40)
def rangeB (x : InsD) : Bool :=
  if x.op = 2 then !(x.ty == [73]) || decide (-2147483648 ≤ x.a ∧ x.a ≤ 2147483647)
  else if x.op = 4 ∨ x.op = 5 then decide (0 ≤ x.a ∧ x.a < 8)
  else if x.op = 9 then decide (1 ≤ x.a ∧ x.a ≤ 12)
  else if x.op = 12 then targetB x.a && decide (0 ≤ x.b ∧ x.b ≤ 5)
  else if x.op = 13 ∨ x.op = 14 then targetB x.a
  else true
def typedB (x : InsD) : Bool :=
  if x.op = 2 ∨ x.op = 9 ∨ x.op = 10 then refWordB x.ty
  else if x.op = 18 ∨ x.op = 20 ∨ x.op = 21 then isTypeB (91 :: x.ty)
  else if x.op = 22 ∨ x.op = 23 then isTypeB x.ty && !refWordB x.ty
  else if x.op = 24 ∨ x.op = 25 then (methodB x.ty).isSome
  else true
def namedB (x : InsD) (f : Nat) : Bool := (!f.testBit 3 || nameB x.cl) && (!f.testBit 4 || nameB x.nm)
/-- What is wrong with an instruction: 0 nothing, 1 its form, 2 a number out of range. -/
def insF (x : InsD) : Nat :=
  if x.op ≤ 0 ∨ 29 ≤ x.op then 1
  else if onlyB x (opF x.op.toNat) = false then 1
  else if rangeB x = false then 2
  else if (typedB x && namedB x (opF x.op.toNat)) = false then 1
  else 0
/-- The words of an instruction's text behind the operation's name. -/
def partsM (x : InsD) : List (List UInt8) :=
  (if (opF x.op.toNat).testBit 0 then [Lib.itoa x.a] else []) ++ (if (opF x.op.toNat).testBit 1 then [Lib.itoa x.b] else []) ++ (if (opF x.op.toNat).testBit 2 then [x.ty] else []) ++
    (if (opF x.op.toNat).testBit 3 then [x.cl] else []) ++ (if (opF x.op.toNat).testBit 4 then [x.nm] else [])
def textM (x : InsD) : List UInt8 := opW x.op.toNat ++ (partsM x).flatMap (32 :: ·)

/-! A text's words. -/
def wordL (l : List UInt8) : List UInt8 := l.takeWhile (· != 32)
def restL (l : List UInt8) : List UInt8 := (l.dropWhile (· != 32)).drop 1
def numM (l : List UInt8) : Int := match Lib.atoiAll l with
  | .ok v => v
  | .range => Lib.atoiSat l
  | _ => 0
def findN (l : List UInt8) : Nat := ((List.range 29).drop 1).find? (fun k => opW k == l) |>.getD 0
def readM (s : List UInt8) : InsD :=
  let op := findN (wordL s)
  let f := opF op
  let r0 := restL s
  let r1 := if f.testBit 0 then restL r0 else r0
  let r2 := if f.testBit 1 then restL r1 else r1
  let r3 := if f.testBit 2 then restL r2 else r2
  let r4 := if f.testBit 3 then restL r3 else r3
  ⟨op, if f.testBit 0 then numM (wordL r0) else 0, if f.testBit 1 then numM (wordL r1) else 0, if f.testBit 2 then wordL r2 else [], if f.testBit 3 then wordL r3 else [], if f.testBit 4 then wordL r4 else []⟩

theorem wordL_cut {u : List UInt8} (h : ∀ c ∈ u, c ≠ 32) (v : List UInt8) : wordL (u ++ 32 :: v) = u ∧ restL (u ++ 32 :: v) = v := by
  induction u with
  | nil => exact ⟨rfl, rfl⟩
  | cons c r ih =>
    have hc : (c != 32) = true := by simpa using h c (List.mem_cons_self ..)
    obtain ⟨h1, h2⟩ := ih (fun d hd => h d (List.mem_cons_of_mem _ hd))
    constructor
    · show (c :: (r ++ 32 :: v)).takeWhile _ = _
      rw [List.takeWhile_cons_of_pos (p := (· != 32)) hc]
      exact congrArg (c :: ·) h1
    · show ((c :: (r ++ 32 :: v)).dropWhile _).drop 1 = _
      rw [List.dropWhile_cons_of_pos (p := (· != 32)) hc]
      exact h2
theorem wordL_all {u : List UInt8} (h : ∀ c ∈ u, c ≠ 32) : wordL u = u ∧ restL u = [] := by
  induction u with
  | nil => exact ⟨rfl, rfl⟩
  | cons c r ih =>
    have hc : (c != 32) = true := by simpa using h c (List.mem_cons_self ..)
    obtain ⟨h1, h2⟩ := ih (fun d hd => h d (List.mem_cons_of_mem _ hd))
    constructor
    · show (c :: r).takeWhile _ = _
      rw [List.takeWhile_cons_of_pos (p := (· != 32)) hc]
      exact congrArg (c :: ·) h1
    · show ((c :: r).dropWhile _).drop 1 = _
      rw [List.dropWhile_cons_of_pos (p := (· != 32)) hc]
      exact h2

/-! Digits read again. -/
theorem dec_digit (u : Nat) : ∀ c ∈ Lib.decDigits u, 48 ≤ c.toNat ∧ c.toNat ≤ 57 := by
  induction u using Nat.strongRecOn with
  | _ u ih =>
    rw [Lib.decDigits]
    split
    · intro c hc
      obtain rfl := List.mem_singleton.1 hc
      rw [UInt8.toNat_ofNat']
      omega
    · intro c hc
      rcases List.mem_append.1 hc with h | h
      · exact ih _ (by omega) c h
      · obtain rfl := List.mem_singleton.1 h
        rw [UInt8.toNat_ofNat']
        omega
theorem parse_last (l : List UInt8) (c : UInt8) : ∀ acc u, Lib.parseUint10 acc l = .ok u → 48 ≤ c.toNat → c.toNat ≤ 57 → u < 1844674407370955162 → u * 10 + (c.toNat - 48) < 18446744073709551616 → Lib.parseUint10 acc (l ++ [c]) = .ok (u * 10 + (c.toNat - 48)) := by
  induction l with
  | nil =>
    intro acc u h h1 h2 h3 h4
    simp only [Lib.parseUint10] at h
    injection h with h
    subst h
    simp only [List.nil_append, Lib.parseUint10]
    rw [if_pos ⟨h1, h2⟩, if_neg (by omega), if_neg (by omega)]
  | cons d r ih =>
    intro acc u h h1 h2 h3 h4
    simp only [Lib.parseUint10] at h
    simp only [List.cons_append, Lib.parseUint10]
    split at h
    · rename_i hd
      rw [if_pos hd]
      split at h
      · cases h
      · rename_i h5
        rw [if_neg h5]
        split at h
        · cases h
        · rename_i h6
          rw [if_neg h6]
          exact ih _ u h h1 h2 h3 h4
    · cases h
theorem parse_dec (u : Nat) (h : u < 18446744073709551616) : Lib.parseUint10 0 (Lib.decDigits u) = .ok u := by
  induction u using Nat.strongRecOn with
  | _ u ih =>
    rw [Lib.decDigits]
    split
    · rename_i h1
      have e : (UInt8.ofNat (48 + u)).toNat = 48 + u := by rw [UInt8.toNat_ofNat']; omega
      simp only [Lib.parseUint10, e]
      rw [if_pos ⟨by omega, by omega⟩, if_neg (by omega), if_neg (by omega)]
      congr 1; omega
    · rename_i h1
      have e : (UInt8.ofNat (48 + u % 10)).toNat = 48 + u % 10 := by rw [UInt8.toNat_ofNat']; omega
      have := parse_last (Lib.decDigits (u / 10)) (UInt8.ofNat (48 + u % 10)) 0 (u / 10) (ih _ (by omega) (by omega)) (by omega) (by omega) (by omega) (by omega)
      rw [this, e]
      congr 1; omega
theorem dec_ne (u : Nat) : Lib.decDigits u ≠ [] := by
  rw [Lib.decDigits]
  split <;> simp
theorem num_itoa (n : Int) (h : i64B n) : numM (Lib.itoa n) = n := by
  obtain ⟨h0, h1⟩ := h
  unfold numM
  have e : Lib.atoiAll (Lib.itoa n) = .ok n := by
    unfold Lib.itoa
    split
    · rename_i hn
      have hp : Lib.parseMag (Lib.decDigits n.natAbs) = .ok n.natAbs := by
        unfold Lib.parseMag
        rw [if_neg (dec_ne _), parse_dec _ (by omega)]
      simp only [Lib.atoiAll]
      rw [if_pos (by decide), hp]
      simp only
      rw [if_neg (by simp), if_neg (by simp; omega), if_pos (by decide)]
      congr 1; omega
    · rename_i hn
      have hp : Lib.parseMag (Lib.decDigits n.toNat) = .ok n.toNat := by
        unfold Lib.parseMag
        rw [if_neg (dec_ne _), parse_dec _ (by omega)]
      cases hc : Lib.decDigits n.toNat with
      | nil => exact absurd hc (dec_ne _)
      | cons c r =>
        have hd := dec_digit n.toNat c (by rw [hc]; exact List.mem_cons_self ..)
        simp only [Lib.atoiAll]
        rw [if_neg (by omega), ← hc, hp]
        simp only
        rw [if_neg (by omega), if_neg (by omega), if_neg (by omega)]
        congr 1; omega
  rw [e]
theorem itoa_space (n : Int) : ∀ c ∈ Lib.itoa n, c ≠ 32 := by
  intro c hc he
  subst he
  unfold Lib.itoa at hc
  split at hc
  · rcases List.mem_cons.1 hc with h | h
    · cases h
    · have := dec_digit _ _ h; simp at this
  · have := dec_digit _ _ hc; simp at this

/-! Names and types have no space in them, and are short. -/
theorem name_space {l : List UInt8} (h : nameB l = true) : ∀ c ∈ l, c ≠ 32 := by
  intro c hc he
  subst he
  cases l with
  | nil => cases hc
  | cons d r =>
    simp only [nameB, Bool.and_eq_true] at h
    have := List.all_eq_true.mp h.2 _ hc
    exact absurd this (by decide)
theorem name_len {l : List UInt8} (h : nameB l = true) : l.length ≤ 20 := by
  cases l with
  | nil => cases h
  | cons d r =>
    simp only [nameB, Bool.and_eq_true, decide_eq_true_eq] at h
    exact h.1.1
theorem item_form : ∀ (l : List UInt8), itemLen l ≠ 0 → (∀ c ∈ l.take (itemLen l), c ≠ 32) ∧ itemLen l ≤ 22
  | [], h => by simp [itemLen] at h
  | c :: r, h => by
    by_cases h1 : c = 73 ∨ c = 74
    · have e : itemLen (c :: r) = 1 := by simp only [itemLen, h1, if_true]
      rw [e]
      refine ⟨fun d hd => ?_, by omega⟩
      simp only [List.take_succ_cons, List.take_zero, List.mem_singleton] at hd
      subst hd
      rcases h1 with rfl | rfl <;> decide
    · by_cases h2 : c = 76 ∧ semi r < r.length ∧ nameB (r.take (semi r)) = true
      · have e : itemLen (c :: r) = semi r + 2 := by simp only [itemLen, h1, if_false, if_pos h2]
        have hl := name_len h2.2.2
        rw [List.length_take] at hl
        rw [e]
        refine ⟨fun d hd => ?_, by omega⟩
        rw [List.take_succ_cons] at hd
        rcases List.mem_cons.1 hd with rfl | hd
        · rw [h2.1]; decide
        · rw [List.take_succ_eq_append_getElem h2.2.1] at hd
          rcases List.mem_append.1 hd with hd | hd
          · exact name_space h2.2.2 d hd
          · obtain rfl := List.mem_singleton.1 hd
            have := tw_at (· != 59) r h2.2.1
            have e2 : r[semi r]'h2.2.1 = 59 := bne_eq_false_iff_eq.1 this
            rw [e2]; decide
      · simp only [itemLen, h1, if_false, if_neg h2] at h
        exact absurd rfl h
theorem brk_take (l : List UInt8) : ∀ c ∈ l.take (brk l), c ≠ 32 := by
  intro c hc he
  subst he
  obtain ⟨i, hi, hx⟩ := List.mem_iff_getElem.1 hc
  rw [List.length_take] at hi
  obtain ⟨h', hp⟩ := tw_lt (· == 91) l i (by show i < brk l; omega)
  rw [List.getElem_take] at hx
  rw [hx] at hp
  exact absurd hp (by decide)
theorem type_form {l : List UInt8} (h : isTypeB l = true) : (∀ c ∈ l, c ≠ 32) ∧ l.length ≤ 25 := by
  obtain ⟨h1, h2⟩ := isTypeB_len h
  obtain ⟨h3, h4, h5, h6⟩ := typeLen_pos h1
  obtain ⟨h7, h8⟩ := item_form _ h4
  refine ⟨fun c hc => ?_, by omega⟩
  rw [← List.take_append_drop (brk l) l] at hc
  rcases List.mem_append.1 hc with hc | hc
  · exact brk_take l c hc
  · refine h7 c ?_
    rw [List.take_of_length_le]
    · exact hc
    · rw [List.length_drop]; omega
theorem word_type {l : List UInt8} (h : refWordB l = true) : isTypeB l = true := by
  cases ht : isTypeB l with
  | true => rfl
  | false => rw [refWord_no ht] at h; cases h
theorem flat_form {a : List (List UInt8)} (h : ∀ t ∈ a, isTypeB t = true) : (∀ c ∈ a.flatten, c ≠ 32) ∧ a.flatten.length ≤ 25 * a.length := by
  induction a with
  | nil => exact ⟨fun c hc => (by cases hc), by simp⟩
  | cons t r ih =>
    obtain ⟨h1, h2⟩ := ih (fun u hu => h u (List.mem_cons_of_mem _ hu))
    obtain ⟨h3, h4⟩ := type_form (h t (List.mem_cons_self ..))
    rw [List.flatten_cons]
    refine ⟨fun c hc => ?_, by rw [List.length_append, List.length_cons]; omega⟩
    rcases List.mem_append.1 hc with hc | hc
    · exact h3 c hc
    · exact h1 c hc
theorem meth_form {l : List UInt8} (h : (methodB l).isSome = true) : (∀ c ∈ l, c ≠ 32) ∧ l.length ≤ 160 := by
  obtain ⟨⟨a, g⟩, hm⟩ := Option.isSome_iff_exists.1 h
  obtain ⟨rfl, ha, h5, hg⟩ := methodB_some hm
  obtain ⟨h1, h2⟩ := flat_form ha
  have hgf : (∀ c ∈ g, c ≠ 32) ∧ g.length ≤ 25 := by
    unfold resultB at hg
    rcases Bool.or_eq_true _ _ ▸ hg with h | h
    · obtain rfl : g = [86] := by simpa using h
      exact ⟨by decide, by decide⟩
    · exact type_form h
  refine ⟨fun c hc => ?_, ?_⟩
  · simp only [makeText, List.mem_cons, List.mem_append] at hc
    rcases hc with rfl | hc | rfl | hc
    · decide
    · exact h1 c hc
    · decide
    · exact hgf.1 c hc
  · simp only [makeText, List.length_cons, List.length_append]
    have := hgf.2
    omega
end Go.Proofs.YtkabkpkfglngnaaDoor
