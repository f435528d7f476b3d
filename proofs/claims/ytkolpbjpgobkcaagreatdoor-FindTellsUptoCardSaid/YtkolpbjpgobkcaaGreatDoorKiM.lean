/- Kinds as plain data: what they look like as texts, which fit which. No program. -/
import Derived.Test.YtkolpbjpgobkcaaGreatDoorGH
import Derived.Test.YtkolpbjpgobkcaaGreatDoorGB
namespace Go.Proofs.YtkolpbjpgobkcaaGreatDoor
open Go.RowKit
set_option linter.unusedVariables false

/-- A kind: the null reference, any value, a type of d brackets. -/
inductive KindD
  | nul
  | top
  | word (d : Nat) (c : UInt8)
  | cls (d : Nat) (n : List UInt8)
deriving DecidableEq
def brksL (d : Nat) : List UInt8 := List.replicate d 91
def KindD.text : KindD → List UInt8
  | .nul => [78]
  | .top => [84]
  | .word d c => brksL d ++ [c]
  | .cls d n => brksL d ++ 76 :: (n ++ [59])
def KindD.ok : KindD → Prop
  | .nul => True
  | .top => True
  | .word d c => d ≤ 3 ∧ (c = 73 ∨ c = 74)
  | .cls d n => d ≤ 3 ∧ nameB n = true
def KindD.isType : KindD → Bool
  | .nul => false
  | .top => false
  | _ => true
def KindD.isRef : KindD → Bool
  | .nul => false
  | .top => false
  | .word d _ => decide (0 < d)
  | .cls _ _ => true
/-- The class in a kind; empty: none. -/
def KindD.name : KindD → List UInt8
  | .cls _ n => n
  | _ => []
theorem brk_word {d : Nat} {c : UInt8} (hc : c ≠ 91) (r : List UInt8) : brk (brksL d ++ c :: r) = d := by
  unfold brk brksL
  induction d with
  | zero => simp [hc]
  | succ d ih =>
    rw [List.replicate_succ, List.cons_append, List.takeWhile_cons_of_pos (by decide), List.length_cons, ih]
theorem drop_brks (d : Nat) (r : List UInt8) : (brksL d ++ r).drop d = r := by
  have : (brksL d).length = d := by simp [brksL]
  rw [List.drop_append_of_le_length (by omega)]
  rw [List.drop_of_length_le (by omega)]
  rfl
theorem semi_name {n : List UInt8} (h : nameB n = true) (r : List UInt8) : semi (n ++ 59 :: r) = n.length := by
  unfold semi
  have h2 := nameB_semi h
  clear h
  induction n with
  | nil => simp
  | cons c t ih =>
    rw [List.cons_append, List.takeWhile_cons_of_pos (by simpa using h2 c (by simp)), List.length_cons, List.length_cons, ih (fun x hx => h2 x (by simp [hx]))]
theorem item_cons (c : UInt8) (r : List UInt8) : itemLen (c :: r) = if c = 73 ∨ c = 74 then 1 else if c = 76 ∧ semi r < r.length ∧ nameB (r.take (semi r)) = true then semi r + 2 else 0 := rfl
theorem type_text {k : KindD} (hk : k.ok) (ht : k.isType = true) : isTypeB k.text = true := by
  cases k with
  | nul => cases ht
  | top => cases ht
  | word d c =>
    obtain ⟨h1, h2⟩ := hk
    have hc : c ≠ 91 := by rcases h2 with rfl | rfl <;> decide
    have hi : itemLen [c] = 1 := by rcases h2 with rfl | rfl <;> rfl
    have : typeLen (brksL d ++ [c]) = d + 1 := by
      rw [typeLen_eq, brk_word hc, drop_brks, hi, if_pos ⟨h1, by decide⟩]
    unfold isTypeB
    show decide (typeLen (brksL d ++ [c]) ≠ 0 ∧ typeLen (brksL d ++ [c]) = (brksL d ++ [c]).length) = true
    rw [this]
    simp [brksL]
  | cls d n =>
    obtain ⟨h1, h2⟩ := hk
    have hs := semi_name h2 []
    have hi : itemLen (76 :: (n ++ [59])) = n.length + 2 := by
      rw [item_cons, if_neg (by decide), if_pos ⟨rfl, by rw [hs]; simp, by rw [hs, List.take_left]; exact h2⟩, hs]
    have : typeLen (brksL d ++ 76 :: (n ++ [59])) = d + (n.length + 2) := by
      rw [typeLen_eq, brk_word (by decide), drop_brks, hi, if_pos ⟨h1, by omega⟩]
    unfold isTypeB
    show decide (typeLen (brksL d ++ 76 :: (n ++ [59])) ≠ 0 ∧ typeLen (brksL d ++ 76 :: (n ++ [59])) = (brksL d ++ 76 :: (n ++ [59])).length) = true
    rw [this]
    simp [brksL]
theorem brks_split : ∀ (l : List UInt8), l = brksL (brk l) ++ l.drop (brk l)
  | [] => rfl
  | c :: t => by
    unfold brk
    by_cases h : c = 91
    · subst h
      rw [List.takeWhile_cons_of_pos (by decide), List.length_cons]
      have := brks_split t
      unfold brk at this
      show 91 :: t = brksL ((t.takeWhile (· == 91)).length + 1) ++ t.drop (t.takeWhile (· == 91)).length
      unfold brksL
      rw [List.replicate_succ, List.cons_append]
      exact congrArg _ this
    · rw [List.takeWhile_cons_of_neg (by simpa using h)]
      rfl
theorem type_is {l : List UInt8} (h : isTypeB l = true) : ∃ k : KindD, k.ok ∧ k.isType = true ∧ k.text = l := by
  obtain ⟨h0, hl⟩ := isTypeB_len h
  obtain ⟨h3, hi, he, _⟩ := typeLen_pos h0
  have hsp := brks_split l
  obtain ⟨r, hr⟩ : ∃ r, r = l.drop (brk l) := ⟨_, rfl⟩
  rw [← hr] at hi he hsp
  have hlen : r.length = itemLen r := by
    have := congrArg List.length hsp
    rw [List.length_append] at this
    simp [brksL] at this
    omega
  cases r with
  | nil => exact absurd rfl hi
  | cons c t =>
    rw [item_cons] at hi hlen
    split at hlen
    · rename_i h1
      have : t = [] := List.eq_nil_of_length_eq_zero (by simpa using hlen)
      subst this
      exact ⟨.word (brk l) c, ⟨h3, h1⟩, rfl, hsp.symm⟩
    · split at hlen
      · rename_i h1 h2
        obtain ⟨rfl, h4, h5⟩ := h2
        have hn : t = t.take (semi t) ++ [59] := by
          have e1 : t.length = semi t + 1 := by simpa using hlen
          have e2 : t = t.take (semi t) ++ t.drop (semi t) := (List.take_append_drop _ _).symm
          have e3 : t.drop (semi t) = [t[semi t]] := by
            rw [List.drop_eq_getElem_cons h4, List.drop_of_length_le (by omega)]
          have e4 : t[semi t] = 59 := by
            have h : (t[semi t] != 59) = false := tw_at (· != 59) t h4
            exact Decidable.byContradiction fun hne => absurd (h.symm.trans (show (t[semi t] != 59) = true from bne_iff_ne.2 hne)) (by simp)
          rw [e3, e4] at e2
          exact e2
        refine ⟨.cls (brk l) (t.take (semi t)), ⟨h3, h5⟩, rfl, ?_⟩
        show brksL (brk l) ++ 76 :: (t.take (semi t) ++ [59]) = l
        rw [← hn]
        exact hsp.symm
      · rename_i h1 h2
        rw [if_neg h1, if_neg h2] at hi
        exact absurd rfl hi
/-- The class in a type's text; empty: none. -/
def inL (l : List UInt8) : List UInt8 := match l.drop (brk l) with
  | c :: r => if c = 76 then r.take (semi r) else []
  | [] => []
theorem inL_text {k : KindD} (hk : k.ok) (ht : k.isType = true) : inL k.text = k.name := by
  cases k with
  | nul => cases ht
  | top => cases ht
  | word d c =>
    have hc : c ≠ 91 ∧ c ≠ 76 := by rcases hk.2 with rfl | rfl <;> decide
    unfold inL
    show (match (brksL d ++ [c]).drop (brk (brksL d ++ [c])) with | c :: r => if c = 76 then r.take (semi r) else [] | [] => []) = []
    rw [brk_word hc.1, drop_brks]
    exact if_neg hc.2
  | cls d n =>
    unfold inL
    show (match (brksL d ++ 76 :: (n ++ [59])).drop (brk (brksL d ++ 76 :: (n ++ [59]))) with | c :: r => if c = 76 then r.take (semi r) else [] | [] => []) = n
    rw [brk_word (by decide), drop_brks]
    show (if (76 : UInt8) = 76 then (n ++ [59]).take (semi (n ++ [59])) else []) = n
    rw [if_pos rfl, semi_name hk.2 [], List.take_left]
/-- What is wrong with a kind's text: 1 it is none, 3 its class is none. -/
def kindE (w : List ClassD) (l : List UInt8) : Nat := if l = [78] ∨ l = [84] then 0 else if isTypeB l = false then 1 else if inL l ≠ [] ∧ knownB w (inL l) = false then 3 else 0
theorem kind_is {w : List ClassD} {l : List UInt8} (h : kindE w l ≠ 1) : ∃ k : KindD, k.ok ∧ k.text = l := by
  unfold kindE at h
  split at h
  · rename_i h1
    rcases h1 with rfl | rfl
    · exact ⟨.nul, trivial, rfl⟩
    · exact ⟨.top, trivial, rfl⟩
  · split at h
    · exact absurd rfl h
    · rename_i h2
      obtain ⟨k, h3, _, h4⟩ := type_is (by simpa using h2)
      exact ⟨k, h3, h4⟩
theorem not_type {k : KindD} (h : k.isType = false) : isTypeB k.text = false := by
  cases k with
  | nul => decide
  | top => decide
  | word d c => cases h
  | cls d n => cases h
theorem type_iff {k : KindD} (hk : k.ok) : isTypeB k.text = k.isType := by
  cases h : k.isType with
  | true => exact type_text hk h
  | false => exact not_type h
theorem kindE_text {w : List ClassD} {k : KindD} (hk : k.ok) : kindE w k.text = if k.name ≠ [] ∧ knownB w k.name = false then 3 else 0 := by
  cases ht : k.isType with
  | true =>
    have h1 := type_text hk ht
    have hnt : ¬ (k.text = [78] ∨ k.text = [84]) := by
      rintro (h | h) <;> rw [h] at h1 <;> revert h1 <;> decide
    unfold kindE
    rw [if_neg hnt, h1, if_neg (by simp), inL_text hk ht]
  | false =>
    cases k with
    | nul => rfl
    | top => rfl
    | word d c => cases ht
    | cls d n => cases ht
theorem text_inj {k j : KindD} (hk : k.ok) (hj : j.ok) (h : k.text = j.text) : k = j := by
  have ht : k.isType = j.isType := by rw [← type_iff hk, ← type_iff hj, h]
  cases k with
  | nul =>
    cases j with
    | nul => rfl
    | top => cases h
    | word d c => cases ht
    | cls d n => cases ht
  | top =>
    cases j with
    | nul => cases h
    | top => rfl
    | word d c => cases ht
    | cls d n => cases ht
  | word d c =>
    cases j with
    | nul => cases ht
    | top => cases ht
    | word e b =>
      have hc : c ≠ 91 := by rcases hk.2 with rfl | rfl <;> decide
      have hb : b ≠ 91 := by rcases hj.2 with rfl | rfl <;> decide
      have h1 := congrArg brk h
      rw [show brk (KindD.word d c).text = d from brk_word hc [], show brk (KindD.word e b).text = e from brk_word hb []] at h1
      subst h1
      have h2 := List.append_cancel_left h
      simp at h2
      rw [h2]
    | cls e n =>
      have hc : c ≠ 91 ∧ c ≠ 76 := by rcases hk.2 with rfl | rfl <;> decide
      have h1 := congrArg brk h
      rw [show brk (KindD.word d c).text = d from brk_word hc.1 [], show brk (KindD.cls e n).text = e from brk_word (by decide) _] at h1
      subst h1
      have h2 := List.append_cancel_left h
      simp at h2
  | cls d n =>
    cases j with
    | nul => cases ht
    | top => cases ht
    | word e b =>
      have hb : b ≠ 91 ∧ b ≠ 76 := by rcases hj.2 with rfl | rfl <;> decide
      have h1 := congrArg brk h
      rw [show brk (KindD.word e b).text = e from brk_word hb.1 [], show brk (KindD.cls d n).text = d from brk_word (by decide) _] at h1
      subst h1
      have h2 := List.append_cancel_left h
      simp at h2
    | cls e m =>
      have h1 := congrArg brk h
      rw [show brk (KindD.cls d n).text = d from brk_word (by decide) _, show brk (KindD.cls e m).text = e from brk_word (by decide) _] at h1
      subst h1
      have h2 := List.append_cancel_left h
      simp at h2
      rw [h2]
theorem ref_iff {k : KindD} (hk : k.ok) : (isTypeB k.text && !refWordB k.text) = k.isRef := by
  rw [type_iff hk]
  cases k with
  | nul => rfl
  | top => rfl
  | word d c =>
    unfold KindD.isRef KindD.isType
    rcases Nat.eq_zero_or_pos d with rfl | h
    · have : refWordB (KindD.word 0 c).text = true := by rcases hk.2 with rfl | rfl <;> rfl
      rw [this]; rfl
    · have : refWordB (KindD.word d c).text = false := by
        unfold refWordB KindD.text
        rw [Bool.or_eq_false_iff]
        have hl : (brksL d ++ [c]).length ≠ 1 := by simp [brksL]; omega
        exact ⟨by rw [beq_eq_false_iff_ne]; exact fun e => hl (congrArg List.length e), by rw [beq_eq_false_iff_ne]; exact fun e => hl (congrArg List.length e)⟩
      rw [this]
      simp [h]
  | cls d n =>
    have : refWordB (KindD.cls d n).text = false := by
      unfold refWordB KindD.text
      rw [Bool.or_eq_false_iff]
      have hl : (brksL d ++ 76 :: (n ++ [59])).length ≠ 1 := by simp; omega
      exact ⟨by rw [beq_eq_false_iff_ne]; exact fun e => hl (congrArg List.length e), by rw [beq_eq_false_iff_ne]; exact fun e => hl (congrArg List.length e)⟩
    rw [this]
    rfl
def KindD.depth : KindD → Nat
  | .word d _ => d
  | .cls d _ => d
  | _ => 0
end Go.Proofs.YtkolpbjpgobkcaaGreatDoor
