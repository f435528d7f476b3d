/- The contracts of desc.Check, Word, isResult, of the library's HasPrefix and Clone, and of the reference's IsType, IsWord. -/
import Derived.Test.YtkabkpkfglngnaaDoorDe
import Derived.Test.YtkabkpkfglngnaaDoorRow
import Derived.Deep.QuietTactic
import Derived.BigQuiet
namespace Go.Proofs.YtkabkpkfglngnaaDoor
open Go.ChangeShapes Go.WideShapes Go.ChangeAt Go.RowKit
set_option linter.unusedVariables false
attribute [local go_sem] eqGuard_errV_nil eqGuard_errV_iface eql_errV_nil neq_errV_nil eql_errV_form

theorem tyNe {s : ByteArray} (h : isTypeB s.data.toList = true) : ((typeLen s.data.toList : Int) == 0) = false ∧ ((typeLen s.data.toList : Int) != s.size) = false := by
  obtain ⟨h1, h2⟩ := isTypeB_len h
  have h3 : typeLen s.data.toList = s.size := by simpa using h2
  exact ⟨by rw [beq_eq_false_iff_ne]; omega, by rw [bne_eq_false_iff_eq]; omega⟩
def typeF (l : List UInt8) : Nat := if isTypeB l = true then 0 else 1
theorem typeF_yes {l : List UInt8} (h : isTypeB l = true) : typeF l = 0 := by simp [typeF, h]
theorem typeF_no {l : List UInt8} (h : isTypeB l = false) : typeF l = 1 := by simp [typeF, h]
theorem dcheck_any (s : ByteArray) (w : World) (hs : s.size ≤ maxLen) : Calls Tryd.prog 21 #[.string s] w fun e w' => e = .returned (errV (typeF s.data.toList)) ∧ w = w' := by
  have hz := Lib.hid (fun w => size_any s w hs)
  unfold maxLen at hs
  by_cases ht : isTypeB s.data.toList = true
  · obtain ⟨h1, h2⟩ := tyNe ht
    have H := Lib.hid (typeF_yes ht)
    clear ht
    go_enter Tryd.func21, Tryd.ntmps21
    go_wp2_with (go_at_call 34; with_reducible refine (hz.out _).mono ?_; rintro e w' ⟨rfl, rfl⟩)
    go_ret
    exact ⟨ret_err (by rw [H.out]; rfl), rfl⟩
  · have H := Lib.hid (typeF_no (by simpa using ht))
    by_cases h0 : typeLen s.data.toList = 0
    · have h1 : ((typeLen s.data.toList : Int) == 0) = true := by rw [h0]; rfl
      clear ht h0
      go_enter Tryd.func21, Tryd.ntmps21
      go_wp2_with (go_at_call 34; with_reducible refine (hz.out _).mono ?_; rintro e w' ⟨rfl, rfl⟩)
      go_ret
      exact ⟨ret_err (by rw [H.out]; rfl), rfl⟩
    · have h1 : ((typeLen s.data.toList : Int) == 0) = false := by rw [beq_eq_false_iff_ne]; omega
      have h2 : ((typeLen s.data.toList : Int) != s.size) = true := by
        rw [bne_iff_ne]
        intro he
        refine ht (decide_eq_true ⟨h0, ?_⟩)
        have : typeLen s.data.toList = s.size := by omega
        rw [this]; simp
      clear ht h0
      go_enter Tryd.func21, Tryd.ntmps21
      go_wp2_with (go_at_call 34; with_reducible refine (hz.out _).mono ?_; rintro e w' ⟨rfl, rfl⟩)
      go_ret
      exact ⟨ret_err (by rw [H.out]; rfl), rfl⟩

theorem ret_two {a b : Value} {c d : Value} (h : a = c) (h2 : b = d) : Ending.returned (.tuple #[a, b]) = .returned (.tuple #[c, d]) := by rw [h, h2]
theorem bool_eq {a b : Bool} (h : a = b) : Value.bool a = .bool b := by rw [h]
def refWordB (l : List UInt8) : Bool := l == [73] || l == [74]
theorem word_same {s : ByteArray} (h : isTypeB s.data.toList = true) (h0 : 0 < s.size) : wordTyB s[0] = refWordB s.data.toList := by
  have e : s.data.toList = s[0] :: s.data.toList.drop 1 := by
    have := drop_of h0
    simpa using this
  rw [Bool.eq_iff_iff]
  constructor
  · intro hw
    have hc : s[0] = 73 ∨ s[0] = 74 := by simpa [wordTyB] using hw
    rw [e] at h
    have hr := isTypeB_word h hc
    rw [hr] at e
    rw [e]
    rcases hc with hc | hc <;> simp [refWordB, hc]
  · intro hw
    rw [e] at hw
    simp [refWordB] at hw
    simp [wordTyB]
    rcases hw with hw | hw
    · exact .inl hw.1
    · exact .inr hw.1
theorem refWord_no {l : List UInt8} (h : isTypeB l = false) : refWordB l = false := by
  rw [Bool.eq_false_iff]
  intro hw
  have : l = [73] ∨ l = [74] := by simpa [refWordB] using hw
  rcases this with rfl | rfl
  · have e : isTypeB [73] = true := by decide
    rw [e] at h; cases h
  · have e : isTypeB [74] = true := by decide
    rw [e] at h; cases h
theorem word_any (s : ByteArray) (w : World) (hs : s.size ≤ maxLen) :
    Calls Tryd.prog 67 #[.string s] w fun e w' => e = .returned (.tuple #[.bool (refWordB s.data.toList), errV (typeF s.data.toList)]) ∧ w = w' := by
  have hz := Lib.hid (fun w => dcheck_any s w hs)
  unfold maxLen at hs
  by_cases ht : isTypeB s.data.toList = true
  · have h0 : 0 < s.size := by
      obtain ⟨h1, h2⟩ := isTypeB_len ht
      have h3 : typeLen s.data.toList = s.size := by simpa using h2
      omega
    have HW := Lib.hid (word_same ht h0)
    have H := typeF_yes ht
    rw [H] at hz ⊢
    clear ht H
    go_enter Tryd.func67, Tryd.ntmps67
    go_wp2_with (first
      | (go_at_call 21; with_reducible refine (hz.out _).mono ?_; rintro e w' ⟨rfl, rfl⟩)
      | (go_at_call 46; refine (isWord_any _ _).mono ?_; rintro e w' ⟨rfl, rfl⟩))
    go_ret2
    exact ⟨ret_two (bool_eq HW.out) rfl, rfl⟩
  · have ht' : isTypeB s.data.toList = false := by simpa using ht
    have H := typeF_no ht'
    have HW := Lib.hid (refWord_no ht')
    rw [H] at hz ⊢
    clear ht H ht'
    go_enter Tryd.func67, Tryd.ntmps67
    go_wp2_with (first
      | (go_at_call 21; with_reducible refine (hz.out _).mono ?_; rintro e w' ⟨rfl, rfl⟩)
      | (go_at_call 46; refine (isWord_any _ _).mono ?_; rintro e w' ⟨rfl, rfl⟩))
    go_ret2
    exact ⟨ret_two (bool_eq HW.out.symm) rfl, rfl⟩

theorem isResult_any (s : ByteArray) (w : World) (hs : s.size ≤ maxLen) : Calls Tryd.prog 38 #[.string s] w fun e w' => e = .returned (.bool (resultB s.data.toList)) ∧ w = w' := by
  have hz := Lib.hid (fun w => dcheck_any s w hs)
  unfold maxLen at hs
  go_enter Tryd.func38, Tryd.ntmps38
  go_wp2_with (first
      | (go_at_call 21; with_reducible refine (hz.out _).mono ?_; rintro e w' ⟨rfl, rfl⟩))
  all_goals
    go_ret
    refine ⟨ret_bool ?_, rfl⟩
  · have h : s.toList = [86] := by assumption
    rw [ByteArray.toList_eq] at h
    rw [h]; rfl
  · have h : ¬ s.toList = [86] := by assumption
    rw [ByteArray.toList_eq] at h
    have h2 : (s.data.toList == [86]) = false := by simpa using h
    rw [resultB, h2, typeF]
    cases isTypeB s.data.toList <;> rfl
theorem refIsWord_any (s : ByteArray) (w : World) : Calls Tryd.prog 61 #[.string s] w fun e w' => e = .returned (.bool (refWordB s.data.toList)) ∧ w = w' := by
  go_enter Tryd.func61, Tryd.ntmps61
  go_wp2
  all_goals
    go_ret
    refine ⟨ret_bool ?_, rfl⟩
  · have h : s.toList = [73] := by assumption
    rw [ByteArray.toList_eq] at h
    rw [h]; rfl
  · have h : ¬ s.toList = [73] := by assumption
    rw [ByteArray.toList_eq] at *
    have h2 : (s.data.toList == [73]) = false := by simpa using h
    rw [refWordB, h2, Bool.false_or]

def headB (c : UInt8) : List UInt8 → Bool
  | [] => false
  | d :: _ => d == c
theorem hasPrefix_one (l : List UInt8) (c : UInt8) : Lib.hasPrefix l [c] = headB c l := by
  cases l with
  | nil => rfl
  | cons d r => simp only [Lib.hasPrefix, headB, List.isPrefixOf, Bool.and_true]; rw [Bool.eq_iff_iff, beq_iff_eq, beq_iff_eq]; exact eq_comm
theorem hasPrefix_any (s : ByteArray) (c : UInt8) (w : World) : Calls Tryd.prog 36 #[.string s, .string ⟨#[c]⟩] w fun e w' => e = .returned (.bool (headB c s.data.toList)) ∧ w = w' :=
  (Tryd.strings_HasPrefix s ⟨#[c]⟩ w).mono fun _ _ ⟨he, hw⟩ => ⟨by rw [he]; exact ret_bool (hasPrefix_one _ c), hw.symm⟩
theorem clone_any (s : ByteArray) (w : World) (hs : s.size ≤ 281474976710656) : Calls Tryd.prog 37 #[.string s] w fun e w' => e = .returned (.string s) ∧ Below w.heap.size w w' := by
  have hz := Lib.hid (fun w => Tryd.stringslite_Clone s w hs)
  clear hs
  go_enter Tryd.func37, Tryd.ntmps37
  go_wp2_with (go_at_call 49; with_reducible refine (hz.out _).mono ?_; rintro e w' ⟨rfl, hb⟩)
  go_ret
  exact ⟨rfl, hb⟩

end Go.Proofs.YtkabkpkfglngnaaDoor
