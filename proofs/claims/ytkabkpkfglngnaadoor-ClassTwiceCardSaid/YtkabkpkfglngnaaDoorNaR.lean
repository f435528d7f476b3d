/- The contracts of the reference's functions that decide names: what each of them returns, for every string. -/
import Derived.Test.YtkabkpkfglngnaaDoorNaP
namespace Go.Proofs.YtkabkpkfglngnaaDoor
open Go.RowKit
set_option linter.unusedVariables false

theorem refDigit_any (c : UInt8) (w : World) : Calls Tryd.prog 28 #[.int .u8 (c.toNat : Int)] w fun e w' => e = .returned (.bool (digitB c)) ∧ w = w' := by
  go_enter Tryd.func28, Tryd.ntmps28
  go_wp2
  all_goals
    go_ret
    exact ⟨ret_bool (by rw [Bool.eq_iff_iff]; simp [digitB, u8le]; omega), rfl⟩
theorem refLetter_any (c : UInt8) (w : World) : Calls Tryd.prog 29 #[.int .u8 (c.toNat : Int)] w fun e w' => e = .returned (.bool (letterB c)) ∧ w = w' := by
  go_enter Tryd.func29, Tryd.ntmps29
  go_wp2
  all_goals
    go_ret
    exact ⟨ret_bool (by rw [Bool.eq_iff_iff]; simp [letterB, u8le, u8eq]; omega), rfl⟩
set_option maxHeartbeats 600000 in
theorem isName_any (s : ByteArray) (w : World) (hs : s.size ≤ maxLen) :
    Calls Tryd.prog 15 #[.string s] w fun e w' => e = .returned (.bool (nameB s.data.toList)) ∧ w = w' := by
  unfold maxLen at hs
  by_cases h0 : s.size = 0
  · have H := Lib.hid (nameB_not (.inl h0))
    go_enter Tryd.func15, Tryd.ntmps15
    go_wp2
    go_ret
    exact ⟨ret_bool H.out.symm, rfl⟩
  have h0' : 0 < s.size := by omega
  have hz : ((s.size : Int) == 0) = false := by rw [beq_eq_false_iff_ne]; omega
  clear h0
  by_cases h1 : 20 < s.size
  · have H := Lib.hid (nameB_not (.inr (.inl h1)))
    go_enter Tryd.func15, Tryd.ntmps15
    go_wp2
    go_ret
    exact ⟨ret_bool H.out.symm, rfl⟩
  have h1' : s.size ≤ 20 := by omega
  have hg : ¬ 20 < (s.size : Int) := by omega
  clear h1
  by_cases h2 : digitB s[0] = true
  · have H := Lib.hid (nameB_not (.inr (.inr ⟨h0', h2⟩)))
    go_enter Tryd.func15, Tryd.ntmps15
    go_wp2_with (go_at_call 28; refine (refDigit_any _ _).mono ?_; rintro e w' ⟨rfl, rfl⟩)
    go_ret
    exact ⟨ret_bool H.out.symm, rfl⟩
  · have h2' : digitB s[0] = false := by simpa using h2
    have H := Lib.hid (nameB_of h0' (by omega) h2')
    go_enter Tryd.func15, Tryd.ntmps15
    go_wp2_with (go_at_call 28; refine (refDigit_any _ _).mono ?_; rintro e w' ⟨rfl, rfl⟩)
    clear h2 h2'
    go_loop [3] (fun i => ∃ k : Nat, k ≤ s.size ∧ i = .int .i64 k ∧ Hid ((s.data.toList.take k).all wordB = true)) (fun i => s.size - (intOf i).toNat)
    case atStart => exact ⟨0, Nat.zero_le _, rfl, Lib.hid (by simp)⟩
    case round =>
      obtain ⟨k, hk, rfl, HR⟩ := hrel
      by_cases hlt : k < s.size
      · have HT := Lib.hid (all_take_succ s wordB k hlt)
        by_cases hl : letterB s[k] = true
        · go_wp2_with (first
            | (go_at_call 29; refine (refLetter_any _ _).mono ?_; rintro e w' ⟨rfl, rfl⟩)
            | (go_at_call 28; refine (refDigit_any _ _).mono ?_; rintro e w' ⟨rfl, rfl⟩))
          go_round
          case rel => exact ⟨k + 1, by omega, by go_num, Lib.hid (by rw [HT.out, HR.out]; simp [wordB, hl])⟩
          case measure => first | (simp [intOf]; omega) | simp [intOf]
        · have hl' : letterB s[k] = false := by simpa using hl
          by_cases hd : digitB s[k] = true
          · go_wp2_with (first
              | (go_at_call 29; refine (refLetter_any _ _).mono ?_; rintro e w' ⟨rfl, rfl⟩)
              | (go_at_call 28; refine (refDigit_any _ _).mono ?_; rintro e w' ⟨rfl, rfl⟩))
            go_round
            case rel => exact ⟨k + 1, by omega, by go_num, Lib.hid (by rw [HT.out, HR.out]; simp [wordB, hd])⟩
            case measure => first | (simp [intOf]; omega) | simp [intOf]
          · have hd' : digitB s[k] = false := by simpa using hd
            have HF := Lib.hid (all_false_of s wordB k hlt (by simp [wordB, hl', hd']))
            go_wp2_with (first
              | (go_at_call 29; refine (refLetter_any _ _).mono ?_; rintro e w' ⟨rfl, rfl⟩)
              | (go_at_call 28; refine (refDigit_any _ _).mono ?_; rintro e w' ⟨rfl, rfl⟩))
            go_ret
            exact ⟨ret_bool (by rw [H.out, HF.out]), rfl⟩
      · obtain rfl : k = s.size := by omega
        go_wp2
        go_ret
        exact ⟨ret_bool (by rw [H.out]; have := HR.out; rw [List.take_of_length_le (by simp)] at this; rw [this]), rfl⟩
end Go.Proofs.YtkabkpkfglngnaaDoor
