/- Units of 16 bits as bytes, on lists: the encoding, its first piece, what a first piece says. -/
import Derived.Test.YtekpinicfgofgaaRow
namespace Go.Proofs.Ytekpinicfgofgaa
set_option linter.unusedVariables false

def byteV (c : UInt8) : Value := .int .u8 (c.toNat : Int)
def unitV (u : UInt16) : Value := .int .u16 (u.toNat : Int)
def sizeN (n : Nat) : Nat := if 1 ≤ n ∧ n ≤ 127 then 1 else if n ≤ 2047 then 2 else 3
def encN (n : Nat) : List UInt8 :=
  if 1 ≤ n ∧ n ≤ 127 then [.ofNat n] else if n ≤ 2047 then [.ofNat (192 + n / 64), .ofNat (128 + n % 64)] else [.ofNat (224 + n / 4096), .ofNat (128 + n / 64 % 64), .ofNat (128 + n % 64)]
def encU (u : UInt16) : List UInt8 := encN u.toNat
def encL (l : List UInt16) : List UInt8 := l.flatMap encU

theorem enc_size (n : Nat) : (encN n).length = sizeN n := by unfold encN sizeN; split; rfl; split <;> rfl
theorem size_range (n : Nat) : 1 ≤ sizeN n ∧ sizeN n ≤ 3 := by unfold sizeN; split; decide; split <;> decide
theorem encL_nil : encL [] = [] := rfl
theorem encL_cons (u : UInt16) (l : List UInt16) : encL (u :: l) = encU u ++ encL l := by simp [encL]
theorem encL_append (a b : List UInt16) : encL (a ++ b) = encL a ++ encL b := by simp [encL]
theorem encL_length (l : List UInt16) : l.length ≤ (encL l).length ∧ (encL l).length ≤ 3 * l.length := by
  induction l with
  | nil => exact ⟨Nat.le_refl _, Nat.le_refl _⟩
  | cons u l ih =>
    rw [encL_cons]
    have h := size_range u.toNat
    simp only [List.length_append, List.length_cons, encU, enc_size]
    omega
theorem encL_take (l : List UInt16) (i : Nat) (h : i < l.length) : encL (l.take (i + 1)) = encL (l.take i) ++ encU l[i] := by
  rw [List.take_add_one, encL_append, List.getElem?_eq_getElem h]
  simp [encL]

/-- What the first one to three bytes say: the unit, and how many bytes; 0: none. -/
def joinL (up : Nat) (l : List UInt8) : Nat := l.foldl (fun a c => a * 64 + c.toNat % 64) up
def followB (l : List UInt8) : Bool := l.all fun c => c.toNat / 64 == 2
def joinU (up : Nat) (b : List UInt8) (n : Nat) : Nat × Nat := if n ≤ b.length ∧ followB ((b.take n).drop 1) = true then (joinL up ((b.take n).drop 1), n) else (0, 0)
def firstU (b : List UInt8) : Nat × Nat :=
  let c := (b.getD 0 0).toNat
  if c < 128 then (c, 1) else if c / 32 = 6 then joinU (c % 32) b 2 else if c / 16 = 14 then joinU (c % 16) b 3 else (0, 0)

theorem two_of {b : List UInt8} (h : 2 ≤ b.length) : ∃ x y r, b = x :: y :: r := by
  match b, h with
  | x :: y :: r, _ => exact ⟨x, y, r, rfl⟩
theorem three_of {b : List UInt8} (h : 3 ≤ b.length) : ∃ x y z r, b = x :: y :: z :: r := by
  match b, h with
  | x :: y :: z :: r, _ => exact ⟨x, y, z, r, rfl⟩
theorem byte_eq {c : UInt8} {n : Nat} (h : c.toNat = n) : c = UInt8.ofNat n := by
  rw [← h]; simp
theorem byte_lt (c : UInt8) : c.toNat < 256 := c.toNat_lt
theorem of_byte (n : Nat) : (UInt8.ofNat n).toNat = n % 256 := by simp

theorem first_range (b : List UInt8) : (firstU b).1 < 65536 ∧ (firstU b).2 ≤ 3 ∧ (0 < b.length → (firstU b).2 ≤ b.length) := by
  have h0 := byte_lt (b.getD 0 0)
  simp only [firstU, joinU]
  split
  · exact ⟨show (b.getD 0 0).toNat < 65536 by omega, by simp, fun h => h⟩
  · split
    · split
      · rename_i h
        obtain ⟨x, y, r, rfl⟩ := two_of h.1
        simp only [joinL, List.take_succ_cons, List.take_zero, List.drop_succ_cons, List.drop_zero, List.foldl_cons, List.foldl_nil, List.getD_cons_zero, List.length_cons]
        omega
      · simp
    · split
      · split
        · rename_i h
          obtain ⟨x, y, z, r, rfl⟩ := three_of h.1
          simp only [joinL, List.take_succ_cons, List.take_zero, List.drop_succ_cons, List.drop_zero, List.foldl_cons, List.foldl_nil, List.getD_cons_zero, List.length_cons]
          omega
        · simp
      · simp

/-- A first piece of the right size is an encoding. -/
theorem first_yes {b : List UInt8} (hb : 0 < b.length) (h0 : (firstU b).2 ≠ 0) (hn : (firstU b).2 = sizeN (firstU b).1) : b = encN (firstU b).1 ++ b.drop (firstU b).2 := by
  revert h0 hn
  have hc := byte_lt (b.getD 0 0)
  simp only [firstU, joinU]
  split
  · intro _ hn
    match b, hb with
    | x :: r, _ =>
      simp only [List.getD_cons_zero] at *
      have : 1 ≤ x.toNat ∧ x.toNat ≤ 127 := by
        unfold sizeN at hn
        split at hn
        · assumption
        · split at hn <;> cases hn
      simp [encN, this]
  · split
    · split
      · rename_i h1 h2 h
        intro _ hn
        obtain ⟨x, y, r, rfl⟩ := two_of h.1
        simp only [List.getD_cons_zero] at *
        have hf : y.toNat / 64 = 2 := by simpa [followB] using h.2
        simp only [joinL, List.take_succ_cons, List.take_zero, List.drop_succ_cons, List.drop_zero, List.foldl_cons, List.foldl_nil] at hn ⊢
        have hs : ¬ (1 ≤ x.toNat % 32 * 64 + y.toNat % 64 ∧ x.toNat % 32 * 64 + y.toNat % 64 ≤ 127) ∧ x.toNat % 32 * 64 + y.toNat % 64 ≤ 2047 := by
          unfold sizeN at hn
          split at hn
          · cases hn
          · split at hn
            · exact ⟨by assumption, by assumption⟩
            · cases hn
        rw [encN, if_neg hs.1, if_pos hs.2]
        rw [← byte_eq (c := x) (by omega), ← byte_eq (c := y) (by omega)]
        rfl
      · intro h; exact absurd rfl h
    · split
      · split
        · rename_i h1 h2 h3 h
          intro _ hn
          obtain ⟨x, y, z, r, rfl⟩ := three_of h.1
          simp only [List.getD_cons_zero] at *
          have hf : y.toNat / 64 = 2 ∧ z.toNat / 64 = 2 := by simpa [followB] using h.2
          simp only [joinL, List.take_succ_cons, List.take_zero, List.drop_succ_cons, List.drop_zero, List.foldl_cons, List.foldl_nil] at hn ⊢
          have hs : ¬ (1 ≤ (x.toNat % 16 * 64 + y.toNat % 64) * 64 + z.toNat % 64 ∧ (x.toNat % 16 * 64 + y.toNat % 64) * 64 + z.toNat % 64 ≤ 127) ∧ ¬ (x.toNat % 16 * 64 + y.toNat % 64) * 64 + z.toNat % 64 ≤ 2047 := by
            unfold sizeN at hn
            split at hn
            · cases hn
            · split at hn
              · cases hn
              · exact ⟨by assumption, by assumption⟩
          rw [encN, if_neg hs.1, if_neg hs.2]
          rw [← byte_eq (c := x) (by omega), ← byte_eq (c := y) (by omega), ← byte_eq (c := z) (by omega)]
          rfl
        · intro h; exact absurd rfl h
      · intro h; exact absurd rfl h

/-- The first piece of an encoding is its unit. -/
theorem first_enc {n : Nat} (hn : n < 65536) (r : List UInt8) : firstU (encN n ++ r) = (n, sizeN n) := by
  unfold encN sizeN
  split
  · simp only [firstU, List.cons_append, List.nil_append, List.getD_cons_zero, of_byte]
    rw [if_pos (by omega)]
    congr 1
    omega
  · split
    · simp only [firstU, List.cons_append, List.nil_append, List.getD_cons_zero, of_byte]
      rw [if_neg (by omega), if_pos (by omega)]
      rw [joinU, if_pos ⟨by simp, by simp [followB]; omega⟩]
      simp only [joinL, List.take_succ_cons, List.take_zero, List.drop_succ_cons, List.drop_zero, List.foldl_cons, List.foldl_nil, of_byte]
      congr 1
      omega
    · simp only [firstU, List.cons_append, List.nil_append, List.getD_cons_zero, of_byte]
      rw [if_neg (by omega), if_neg (by omega), if_pos (by omega)]
      rw [joinU, if_pos ⟨by simp, by simp [followB]; omega⟩]
      simp only [joinL, List.take_succ_cons, List.take_zero, List.drop_succ_cons, List.drop_zero, List.foldl_cons, List.foldl_nil, of_byte]
      congr 1
      omega
theorem unit_of {n : Nat} (h : n < 65536) : (UInt16.ofNat n).toNat = n := by simp; omega
theorem unit_lt (u : UInt16) : u.toNat < 65536 := u.toNat_lt

/-- No encoding begins another. -/
theorem enc_cut {u v : UInt16} {r s : List UInt8} (h : encU u ++ r = encU v ++ s) : u = v ∧ r = s := by
  have h1 := first_enc (unit_lt u) r
  have h2 := first_enc (unit_lt v) s
  unfold encU at h
  rw [h, h2] at h1
  obtain rfl : v = u := by
    apply UInt16.toNat_inj.1
    simpa using (congrArg Prod.fst h1)
  exact ⟨rfl, List.append_cancel_left h⟩
theorem encU_cons (u : UInt16) : ∃ c r, encU u = c :: r := by
  have h := size_range u.toNat
  have h2 := enc_size u.toNat
  unfold encU
  match hh : encN u.toNat with
  | [] => rw [hh] at h2; simp at h2; omega
  | c :: r => exact ⟨c, r, rfl⟩
theorem encL_none {l : List UInt16} (h : encL l = []) : l = [] := by
  cases l with
  | nil => rfl
  | cons u l =>
    obtain ⟨c, r, e⟩ := encU_cons u
    rw [encL_cons, e] at h
    cases h
/-- Whose encoding begins with another's begins with its units. -/
theorem encL_prefix : ∀ {a b : List UInt16} {r : List UInt8}, encL a ++ r = encL b → ∃ c, b = a ++ c ∧ r = encL c
  | [], b, r, h => ⟨b, rfl, h⟩
  | u :: a, [], r, h => by
    obtain ⟨c, s, e⟩ := encU_cons u
    rw [encL_cons, e] at h
    cases h
  | u :: a, v :: b, r, h => by
    rw [encL_cons, encL_cons, List.append_assoc] at h
    obtain ⟨rfl, h2⟩ := enc_cut h
    obtain ⟨c, rfl, hr⟩ := encL_prefix h2
    exact ⟨c, rfl, hr⟩
theorem encL_inj {a b : List UInt16} (h : encL a = encL b) : a = b := by
  obtain ⟨c, rfl, hr⟩ := encL_prefix (r := []) (by simpa using h)
  rw [encL_none hr.symm, List.append_nil]
/-- No byte of an encoding is 0. -/
theorem encU_ne (u : UInt16) : ∀ c ∈ encU u, c ≠ 0 := by
  intro c hc h0
  subst h0
  have hu := unit_lt u
  unfold encU encN at hc
  split at hc
  · simp at hc
    have := congrArg UInt8.toNat hc
    simp at this
    omega
  · split at hc
    · simp at hc
      rcases hc with hc | hc <;> (have := congrArg UInt8.toNat hc; simp at this; omega)
    · simp at hc
      rcases hc with hc | hc | hc <;> (have := congrArg UInt8.toNat hc; simp at this; omega)
theorem encL_ne (l : List UInt16) : ∀ c ∈ encL l, c ≠ 0 := by
  intro c hc
  obtain ⟨u, _, hu⟩ := List.mem_flatMap.1 hc
  exact encU_ne u c hu
end Go.Proofs.Ytekpinicfgofgaa
