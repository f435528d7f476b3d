/- Lists of instructions in their binary form, as plain data: the form of one, of a list, what a form reads as. No program. -/
import Derived.Test.YthnilohilbacpaaDoorIn6
import Derived.Test.YthnilohilbacpaaDoorCoG
import Derived.Test.YthnilohilbacpaaDoorInE
namespace Go.Proofs.YthnilohilbacpaaDoor
open Go.RowKit
set_option linter.unusedVariables false

theorem parse_text2 {x : InsD} (hw : x.wf) (h : insF x = 0) : parseM (textM x) = x ∧ parseF (textM x) = 0 := by
  have hr := read_text hw h
  have hb : parseB (textM x) = true := by unfold parseB; rw [hr]; simp [h]
  exact ⟨by unfold parseM; rw [hb, if_pos rfl, hr], by unfold parseF; rw [hb, if_pos rfl]⟩
/-! A text has fewer than 256 bytes. -/
theorem part_len (b : Bool) (l : List UInt8) (n : Nat) (h : b = true → l.length ≤ n) : ((if b = true then [l] else []).flatMap (32 :: ·)).length ≤ n + 1 := by
  cases b with
  | false => simp
  | true => have := h rfl; simp; omega
theorem text_byte {x : InsD} (hx : x.good) : (textM x).length ≤ 255 := by
  obtain ⟨hw, h⟩ := hx
  obtain ⟨k, hx, h0, hk, ho, hr, ht, hn⟩ := insF_zero h
  have hN := hn
  unfold namedB at hN
  rw [Bool.and_eq_true, Bool.or_eq_true, Bool.or_eq_true] at hN
  have pa := part_len ((opF k).testBit 0) (Lib.itoa x.a) 21 (fun _ => Lib.itoa_length_le _ hw.2.1.1 hw.2.1.2)
  have pb := part_len ((opF k).testBit 1) (Lib.itoa x.b) 21 (fun _ => Lib.itoa_length_le _ hw.2.2.1 hw.2.2.2)
  have pt := part_len ((opF k).testBit 2) x.ty 160 (fun hb => (typed_form hx hk hb ht).2)
  have pc := part_len ((opF k).testBit 3) x.cl 20 (fun hb => name_len (by have := hN.1; rw [hb] at this; simpa using this))
  have pn := part_len ((opF k).testBit 4) x.nm 20 (fun hb => name_len (by have := hN.2; rw [hb] at this; simpa using this))
  have pk := (opW_form k hk).2
  have hb := bits_all k hk
  unfold textM partsM
  simp only [hx, Int.toNat_natCast, List.flatMap_append, List.length_append]
  simp only [List.mem_cons, Prod.mk.injEq, List.not_mem_nil, or_false] at hb
  rcases hb with ⟨e0, e1, e2, e3, e4⟩ | ⟨e0, e1, e2, e3, e4⟩ | ⟨e0, e1, e2, e3, e4⟩ | ⟨e0, e1, e2, e3, e4⟩ | ⟨e0, e1, e2, e3, e4⟩ | ⟨e0, e1, e2, e3, e4⟩ | ⟨e0, e1, e2, e3, e4⟩ | ⟨e0, e1, e2, e3, e4⟩
  all_goals
    rw [e0] at pa ⊢
    rw [e1] at pb ⊢
    rw [e2] at pt ⊢
    rw [e3] at pc ⊢
    rw [e4] at pn ⊢
    simp only [Bool.false_eq_true, if_false, List.flatMap_nil, List.length_nil] at pa pb pt pc pn ⊢
    omega

/-! The form of an instruction, of a list. -/
def itemL (x : InsD) : List UInt8 := UInt8.ofNat (textM x).length :: textM x
def bodyL (l : List InsD) : List UInt8 := l.flatMap itemL
def codeL (l : List InsD) : List UInt8 := UInt8.ofNat l.length :: bodyL l
/-- A list that has a form. -/
def Right (l : List InsD) : Prop := l.length ≤ 40 ∧ ∀ x ∈ l, x.good
/-- What is wrong with a list: 4: it is too long. -/
def codeF (l : List InsD) : Nat := if 40 < l.length then 4 else firstF l

theorem codeF_right {l : List InsD} (hw : ∀ x ∈ l, x.wf) : codeF l = 0 ↔ Right l := by
  unfold codeF Right
  constructor
  · intro h
    split at h
    · cases h
    · exact ⟨by omega, fun x hx => ⟨hw x hx, firstF_zero h x hx⟩⟩
  · rintro ⟨h1, h2⟩
    rw [if_neg (by omega)]
    exact firstF_nil fun x hx => (h2 x hx).2

theorem ofNat_small {n : Nat} (h : n ≤ 255) : (UInt8.ofNat n).toNat = n := by rw [UInt8.toNat_ofNat']; omega
theorem ofNat_inj {n m : Nat} (hn : n ≤ 255) (hm : m ≤ 255) (h : UInt8.ofNat n = UInt8.ofNat m) : n = m := by
  rw [← ofNat_small hn, ← ofNat_small hm, h]
theorem item_len (x : InsD) : (itemL x).length = (textM x).length + 1 := rfl
theorem bodyL_nil : bodyL [] = [] := rfl
theorem bodyL_cons (x : InsD) (l : List InsD) : bodyL (x :: l) = itemL x ++ bodyL l := by rw [bodyL, List.flatMap_cons]; rfl
theorem bodyL_append (l m : List InsD) : bodyL (l ++ m) = bodyL l ++ bodyL m := by rw [bodyL, List.flatMap_append]; rfl
theorem bodyL_take (l : List InsD) (j : Nat) (hj : j < l.length) : bodyL (l.take (j + 1)) = bodyL (l.take j) ++ itemL l[j] := by
  rw [List.take_succ_eq_append_getElem hj, bodyL_append, bodyL_cons, bodyL_nil, List.append_nil]
theorem body_len {l : List InsD} (h : ∀ x ∈ l, x.good) : (bodyL l).length ≤ 256 * l.length := by
  induction l with
  | nil => simp [bodyL]
  | cons x r ih =>
    have h1 := text_byte (h x (List.mem_cons_self ..))
    have h2 := ih (fun y hy => h y (List.mem_cons_of_mem _ hy))
    rw [bodyL_cons, List.length_append, item_len, List.length_cons]
    omega
theorem code_len {l : List InsD} (h : Right l) : (codeL l).length ≤ 10241 := by
  have := body_len h.2
  have := h.1
  show (bodyL l).length + 1 ≤ _
  omega

/-! No form begins another. -/
theorem cut_eq {a b : List UInt8} {r s : List UInt8} (hl : a.length = b.length) (h : a ++ r = b ++ s) : a = b ∧ r = s := List.append_inj h hl
theorem item_cut {x y : InsD} (hx : x.good) (hy : y.good) {r s : List UInt8} (h : itemL x ++ r = itemL y ++ s) : x = y ∧ r = s := by
  simp only [itemL, List.cons_append, List.cons.injEq] at h
  have hl := ofNat_inj (text_byte hx) (text_byte hy) h.1
  obtain ⟨h1, h2⟩ := cut_eq hl h.2
  refine ⟨?_, h2⟩
  rw [← read_text hx.1 hx.2, ← read_text hy.1 hy.2, h1]
theorem body_cut : ∀ {l m : List InsD}, l.length = m.length → (∀ x ∈ l, x.good) → (∀ x ∈ m, x.good) → ∀ {r s : List UInt8}, bodyL l ++ r = bodyL m ++ s → l = m ∧ r = s
  | [], [], _, _, _, r, s, h => ⟨rfl, h⟩
  | [], _ :: _, hl, _, _, r, s, h => by cases hl
  | _ :: _, [], hl, _, _, r, s, h => by cases hl
  | x :: l, y :: m, hl, hx, hy, r, s, h => by
    rw [bodyL_cons, bodyL_cons, List.append_assoc, List.append_assoc] at h
    obtain ⟨rfl, h2⟩ := item_cut (hx x (List.mem_cons_self ..)) (hy y (List.mem_cons_self ..)) h
    obtain ⟨rfl, h4⟩ := body_cut (by simpa using hl) (fun z hz => hx z (List.mem_cons_of_mem _ hz)) (fun z hz => hy z (List.mem_cons_of_mem _ hz)) h2
    exact ⟨rfl, h4⟩
theorem code_cut {l m : List InsD} (hl : Right l) (hm : Right m) {r s : List UInt8} (h : codeL l ++ r = codeL m ++ s) : l = m ∧ r = s := by
  simp only [codeL, List.cons_append, List.cons.injEq] at h
  exact body_cut (ofNat_inj (by have := hl.1; omega) (by have := hm.1; omega) h.1) hl.2 hm.2 h.2
theorem code_inj {l m : List InsD} (hl : Right l) (hm : Right m) (h : codeL l = codeL m) : l = m :=
  (code_cut hl hm (r := []) (s := []) (by rw [h])).1
/-- A form without its last byte, and one with a byte more, is none. -/
theorem code_short {l m : List InsD} (hl : Right l) (hm : Right m) : codeL m ≠ (codeL l).take ((codeL l).length - 1) := by
  intro h
  have e := List.take_append_drop ((codeL l).length - 1) (codeL l)
  rw [← h] at e
  have := (code_cut hm hl (r := (codeL l).drop ((codeL l).length - 1)) (s := []) (by rw [e, List.append_nil])).2
  have hz := congrArg List.length this
  rw [List.length_drop] at hz
  have : (codeL l).length = (bodyL l).length + 1 := rfl
  simp at hz
  omega
theorem code_long {l m : List InsD} (hl : Right l) (hm : Right m) (c : UInt8) : codeL m ≠ codeL l ++ [c] := by
  intro h
  have := (code_cut hm hl (r := []) (s := [c]) (by rw [List.append_nil, h])).2
  cases this

/-! What bytes begin with. -/
def firstM (b : List UInt8) : InsD × Nat := match b with
  | [] => (zeroI, 0)
  | c :: r => if c.toNat ≤ r.length ∧ parseF (r.take c.toNat) = 0 then (parseM (r.take c.toNat), c.toNat + 1) else (zeroI, 0)
theorem parse_good {t : List UInt8} (h : parseF t = 0) : (parseM t).good ∧ textM (parseM t) = t := by
  unfold parseF at h
  split at h
  · rename_i hb
    have hd : insF (readM t) = 0 ∧ textM (readM t) = t := by unfold parseB at hb; exact of_decide_eq_true hb
    have e : parseM t = readM t := by unfold parseM; rw [hb, if_pos rfl]
    rw [e]
    exact ⟨⟨read_wf t, hd.1⟩, hd.2⟩
  · cases h
theorem first_good {x : InsD} (hx : x.good) (r : List UInt8) : firstM (itemL x ++ r) = (x, (itemL x).length) := by
  have e := ofNat_small (text_byte hx)
  obtain ⟨h1, h2⟩ := parse_text2 hx.1 hx.2
  have ht : (textM x ++ r).take (textM x).length = textM x := List.take_left
  simp only [itemL, List.cons_append, firstM, e, ht, h1, h2]
  rw [if_pos ⟨by rw [List.length_append]; omega, trivial⟩]
  rfl
theorem first_some {b : List UInt8} (h : (firstM b).2 ≠ 0) : (firstM b).1.good ∧ (firstM b).2 = (itemL (firstM b).1).length ∧ itemL (firstM b).1 ++ b.drop (firstM b).2 = b ∧ (firstM b).2 ≤ b.length := by
  cases b with
  | nil => exact absurd rfl h
  | cons c r =>
    by_cases hc : c.toNat ≤ r.length ∧ parseF (r.take c.toNat) = 0
    · have e : firstM (c :: r) = (parseM (r.take c.toNat), c.toNat + 1) := by unfold firstM; simp only; rw [if_pos hc]
      rw [e]
      obtain ⟨h1, h2⟩ := parse_good hc.2
      have hl : (r.take c.toNat).length = c.toNat := by rw [List.length_take]; omega
      refine ⟨h1, ?_, ?_, ?_⟩
      · rw [item_len, h2, hl]
      · show itemL (parseM (r.take c.toNat)) ++ (c :: r).drop (c.toNat + 1) = c :: r
        rw [itemL, h2, hl, List.drop_succ_cons, List.cons_append, List.take_append_drop]
        congr 1
        simp
      · show c.toNat + 1 ≤ (c :: r).length
        rw [List.length_cons]; omega
    · exfalso
      apply h
      unfold firstM
      simp only
      rw [if_neg hc]
/-- Bytes that are no form, told by what is left behind some instructions. -/
theorem code_none {b : List UInt8} {l0 : List InsD} {r : List UInt8} {m : UInt8} (hb : b = m :: (bodyL l0 ++ r)) (h0 : ∀ x ∈ l0, x.good) (hlt : l0.length < m.toNat) (hf : (firstM r).2 = 0) (l : List InsD) (hl : Right l) : codeL l ≠ b := by
  intro h
  rw [hb] at h
  simp only [codeL, List.cons.injEq] at h
  have hm : l.length = m.toNat := by rw [← h.1, ofNat_small (by have := hl.1; omega)]
  have e : bodyL (l.take l0.length) ++ bodyL (l.drop l0.length) = bodyL l0 ++ r := by rw [← bodyL_append, List.take_append_drop]; exact h.2
  obtain ⟨_, h2⟩ := body_cut (by rw [List.length_take]; omega) (fun x hx => hl.2 x (List.mem_of_mem_take hx)) h0 e
  have hd : l.drop l0.length = l[l0.length]'(by omega) :: l.drop (l0.length + 1) := List.drop_eq_getElem_cons (by omega)
  rw [hd, bodyL_cons] at h2
  rw [← h2, first_good (hl.2 _ (List.getElem_mem _))] at hf
  simp [item_len] at hf
theorem code_rest {b : List UInt8} {l0 : List InsD} {r : List UInt8} {m : UInt8} (hb : b = m :: (bodyL l0 ++ r)) (h0 : ∀ x ∈ l0, x.good) (hlt : l0.length = m.toNat) (hr : r ≠ []) (l : List InsD) (hl : Right l) : codeL l ≠ b := by
  intro h
  rw [hb] at h
  simp only [codeL, List.cons.injEq] at h
  have hm : l.length = m.toNat := by rw [← h.1, ofNat_small (by have := hl.1; omega)]
  obtain ⟨_, h2⟩ := body_cut (r := []) (by rw [hm, hlt]) hl.2 h0 (by rw [List.append_nil]; exact h.2)
  exact hr h2.symm
theorem code_done {b : List UInt8} {l0 : List InsD} {m : UInt8} (hb : b = m :: (bodyL l0 ++ [])) (hlt : l0.length = m.toNat) : codeL l0 = b := by
  rw [hb, List.append_nil, codeL, hlt, UInt8.ofNat_toNat]
theorem code_many {b r : List UInt8} {m : UInt8} (hb : b = m :: r) (hm : 40 < m.toNat) (l : List InsD) (hl : Right l) : codeL l ≠ b := by
  intro h
  rw [hb] at h
  simp only [codeL, List.cons.injEq] at h
  have := hl.1
  rw [← h.1, ofNat_small (by omega)] at hm
  omega
theorem code_next {b : List UInt8} {l0 : List InsD} {r : List UInt8} {m : UInt8} (hb : b = m :: (bodyL l0 ++ r)) (hf : (firstM r).2 ≠ 0) : b = m :: (bodyL (l0 ++ [(firstM r).1]) ++ r.drop (firstM r).2) := by
  rw [bodyL_append, bodyL_cons, bodyL_nil, List.append_nil, List.append_assoc, (first_some hf).2.2.1, ← hb]
end Go.Proofs.YthnilohilbacpaaDoor
