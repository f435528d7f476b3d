/- The reference's digits of a number. -/
import Derived.Test.YthnilohilbacpaaDoorInM
namespace Go.Proofs.YthnilohilbacpaaDoor
open Go.ChangeShapes Go.WideShapes Go.ChangeAt Go.RowKit
set_option linter.unusedVariables false

theorem digit_piece (u : Nat) (h : u < 10) : (((⟨#[48, 49, 50, 51, 52, 53, 54, 55, 56, 57]⟩ : ByteArray).extract u (u + 1))) = bs (Lib.decDigits u) := by
  have : ∀ i : Fin 10, (((⟨#[48, 49, 50, 51, 52, 53, 54, 55, 56, 57]⟩ : ByteArray).extract i.val (i.val + 1))).data.toList = [UInt8.ofNat (48 + i.val)] := by decide +kernel
  rw [Lib.decDigits_one h]
  exact bs_eq (this ⟨u, h⟩)
theorem ret_string {a b : ByteArray} (h : a = b) : Ending.returned (.string a) = .returned (.string b) := by rw [h]
theorem digits_nat (u : Nat) (hu : u < 9223372036854775808) : ∀ w, Calls Tryd.prog 35 #[.int .i64 (u : Int)] w fun e w' => e = .returned (.string (bs (Lib.decDigits u))) ∧ w = w' := by
  induction u using Nat.strongRecOn with
  | _ u ih =>
    intro w
    have h1 : ((u : Int) == -9223372036854775808) = false := by rw [beq_eq_false_iff_ne]; omega
    have h2 : ¬ (u : Int) < 0 := by omega
    by_cases h : u < 10
    · have h3 : (u : Int) < 10 := by omega
      have e := digit_piece u h
      have em : u % 10 = u := by omega
      go_enter Tryd.func35, Tryd.ntmps35
      go_wp2
      go_ret
      exact ⟨ret_string (by first | exact e | rfl), rfl⟩
    · have H : ∀ w, Calls Tryd.prog 35 #[.int .i64 ((u : Int) / 10)] w fun e w' => e = .returned (.string (bs (Lib.decDigits (u / 10)))) ∧ w = w' := by
        rw [show (u : Int) / 10 = ((u / 10 : Nat) : Int) by omega]
        exact ih (u / 10) (by omega) (by omega)
      have h3 : ¬ (u : Int) < 10 := by omega
      have e := Lib.hid (digit_piece (u % 10) (by omega))
      have d := Lib.hid (show Lib.decDigits u = Lib.decDigits (u / 10) ++ Lib.decDigits (u % 10) by
        rw [Lib.decDigits, dif_neg h, Lib.decDigits_one (i := u % 10) (by omega)])
      have hl := Lib.nDigits_le20 (u / 10) (by omega)
      have hz : (bs (Lib.decDigits (u / 10))).size ≤ 20 := by rw [bs_size, Lib.decDigits_length]; exact hl
      have hz2 : ¬ 9223372036854775807 < (bs (Lib.decDigits (u / 10))).size + (min (u % 10 + 1) 10 - u % 10) := by omega
      clear hl hz
      replace H := Lib.hid H
      clear ih
      go_enter Tryd.func35, Tryd.ntmps35
      go_wp2_with (first
        | (go_at_call 35; (with_reducible refine (H.out _).mono ?_); rintro e w1 ⟨rfl, rfl⟩))
      go_ret
      exact ⟨ret_string (by rw [e.out, d.out]; exact bs_eq (by simp [bs_list])), rfl⟩
theorem dec_min : Lib.decDigits 9223372036854775808 = [57, 50, 50, 51, 51, 55, 50, 48, 51, 54, 56, 53, 52, 55, 55, 53, 56, 48, 56] ++ [] := by
  simp [Lib.decDigits]
theorem digits_any (n : Int) (hn : i64B n) (w : World) : Calls Tryd.prog 35 #[.int .i64 n] w fun e w' => e = .returned (.string (bs (Lib.itoa n))) ∧ w = w' := by
  obtain ⟨hn0, hn1⟩ := hn
  by_cases h0 : n < 0
  · by_cases hm : n = -9223372036854775808
    · have e : bs (Lib.itoa n) = ⟨#[45, 57, 50, 50, 51, 51, 55, 50, 48, 51, 54, 56, 53, 52, 55, 55, 53, 56, 48, 56]⟩ := by
        unfold Lib.itoa
        subst hm
        rw [if_pos (by decide), show (-9223372036854775808 : Int).natAbs = 9223372036854775808 from rfl, dec_min]
        rfl
      rw [e]
      clear e
      subst hm
      go_enter Tryd.func35, Tryd.ntmps35
      go_wp2
      go_ret
      exact ⟨rfl, rfl⟩
    · have h1 : (n == -9223372036854775808) = false := by rw [beq_eq_false_iff_ne]; exact hm
      have H : ∀ w, Calls Tryd.prog 35 #[.int .i64 (-n)] w fun e w' => e = .returned (.string (bs (Lib.decDigits n.natAbs))) ∧ w = w' := by
        rw [show -n = ((n.natAbs : Nat) : Int) by omega]
        exact digits_nat n.natAbs (by omega)
      have d : bs (Lib.itoa n) = (⟨#[45]⟩ : ByteArray) ++ bs (Lib.decDigits n.natAbs) := by
        unfold Lib.itoa
        rw [if_pos h0]
        exact (bs_eq (by simp [bs_list])).symm
      have hl := Lib.nDigits_le20 n.natAbs (by omega)
      have hz : (bs (Lib.decDigits n.natAbs)).size ≤ 20 := by rw [bs_size, Lib.decDigits_length]; exact hl
      have hz2 : ¬ 9223372036854775807 < 1 + (bs (Lib.decDigits n.natAbs)).size := by omega
      rw [d]
      replace H := Lib.hid H
      clear d hl hz
      go_enter Tryd.func35, Tryd.ntmps35
      go_wp2_with (first
        | (go_at_call 35; (with_reducible refine (H.out _).mono ?_); rintro e w1 ⟨rfl, rfl⟩))
      go_ret
      exact ⟨rfl, rfl⟩
  · have e : Lib.itoa n = Lib.decDigits n.toNat := by unfold Lib.itoa; rw [if_neg h0]
    rw [e, show n = ((n.toNat : Nat) : Int) by omega, Int.toNat_natCast]
    exact digits_nat n.toNat (by omega) w
end Go.Proofs.YthnilohilbacpaaDoor
