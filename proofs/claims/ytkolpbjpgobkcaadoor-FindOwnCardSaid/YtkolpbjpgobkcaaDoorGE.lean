/- The contracts of the reference's Ends, Jumps and CodeFault. The contracts of the reference's In and HandlersFault. -/
import Derived.Test.YtkolpbjpgobkcaaDoorGH
import Derived.Test.YtkolpbjpgobkcaaDoorInR
import Derived.Test.YtkolpbjpgobkcaaDoorGI
import Derived.Test.YtkolpbjpgobkcaaDoorGB
namespace Go.Proofs.YtkolpbjpgobkcaaDoor
open Go.ChangeShapes Go.WideShapes Go.ChangeAt Go.RowKit
set_option linter.unusedVariables false
attribute [local go_sem] eqGuard_errV_nil eqGuard_errV_iface eql_errV_nil neq_errV_nil eql_errV_form

def InsD.small (x : InsD) : Prop := x.ty.length ≤ 1048576 ∧ x.cl.length ≤ 1048576 ∧ x.nm.length ≤ 1048576
end Go.Proofs.YtkolpbjpgobkcaaDoor
namespace Go.Proofs.YtkolpbjpgobkcaaDoor
open Go.ChangeShapes Go.WideShapes Go.ChangeAt Go.RowKit
set_option linter.unusedVariables false
attribute [local go_sem] eqGuard_errV_nil eqGuard_errV_iface eql_errV_nil neq_errV_nil eql_errV_form

theorem str_ne {a b : List UInt8} (h : a ≠ b) : ((bs a).toList == (bs b).toList) = false := by rw [ByteArray.toList_eq, ByteArray.toList_eq, beq_eq_false_iff_ne]; exact h
theorem any_take {α : Type} {p : α → Bool} {l : List α} {j : Nat} (hj : j < l.length) (h : (l.take j).any p = false) (hn : p l[j] = false) : (l.take (j + 1)).any p = false := by
  rw [List.take_succ_eq_append_getElem hj, List.any_append, h, List.any_cons, hn]; rfl
theorem any_at {α : Type} {p : α → Bool} {l : List α} {j : Nat} (hj : j < l.length) (hn : p l[j] = true) : l.any p = true := List.any_eq_true.2 ⟨_, List.getElem_mem hj, hn⟩
set_option maxHeartbeats 1000000 in
theorem rin_any (A : Option Addr) (n c : Nat) (xs : List (List UInt8)) (y : List UInt8) (w : World) (R : StrRow w A n c xs) (hn : n ≤ 1099511627776) :
    Calls Tryd.prog 8 #[.slice A n c, .string (bs y)] w fun e w' => e = .returned (.bool (xs.any (· == y))) ∧ w = w' := by
  have hl : xs.length = n := R.1
  have HL := Lib.hid hl
  have HR := Lib.hid R
  clear hl R
  go_enter Tryd.func8, Tryd.ntmps8
  go_wp2
  go_loop [5] (fun i => ∃ k : Nat, k ≤ n ∧ i = .int .i64 k ∧ Hid ((xs.take k).any (· == y) = false)) (fun i => n - (intOf i).toNat)
  case atStart => exact ⟨0, Nat.zero_le _, rfl, Lib.hid rfl⟩
  case round =>
    obtain ⟨k, hk, rfl, HT⟩ := hrel
    by_cases hlt : k < n
    · obtain ⟨b1, o1, rfl, hb1, hc1⟩ := HR.out.at_ hlt
      have h1 : k < xs.length := by rw [HL.out]; exact hlt
      rw [Nat.mul_one] at hc1
      unfold StrAt at hc1
      by_cases he : xs[k] = y
      · have HA := Lib.hid (any_at (p := (· == y)) h1 (by simp [he]))
        rw [he] at hc1
        clear he
        go_wp2
        go_ret
        exact ⟨ret_bool HA.out.symm, rfl⟩
      · have HT2 := Lib.hid (any_take (p := (· == y)) h1 HT.out (by simpa using he))
        have hne := str_ne he
        clear he
        go_wp2
        go_round
        case rel => exact ⟨k + 1, by omega, by go_num, HT2⟩
        case measure => first | (simp [intOf]; omega) | simp [intOf]
    · obtain rfl : k = n := by omega
      go_wp2
      go_ret
      refine ⟨ret_bool ?_, rfl⟩
      have h := HT.out
      rw [List.take_of_length_le (by rw [HL.out]; exact Nat.le_refl _)] at h
      exact h.symm

theorem span_cases {n : Nat} {x : HandD} (h : spanB n x = false) : x.fr < 0 ∨ (¬ x.fr < 0 ∧ x.tu ≤ x.fr) ∨ (¬ x.fr < 0 ∧ ¬ x.tu ≤ x.fr ∧ (n : Int) < x.tu) ∨ (¬ x.fr < 0 ∧ ¬ x.tu ≤ x.fr ∧ ¬ (n : Int) < x.tu ∧ x.pos < 0) ∨ (¬ x.fr < 0 ∧ ¬ x.tu ≤ x.fr ∧ ¬ (n : Int) < x.tu ∧ ¬ x.pos < 0 ∧ (n : Int) ≤ x.pos) := by
  have := of_decide_eq_false h
  omega
theorem span_true {n : Nat} {x : HandD} (h : spanB n x = true) : ¬ x.fr < 0 ∧ ¬ x.tu ≤ x.fr ∧ ¬ (n : Int) < x.tu ∧ ¬ x.pos < 0 ∧ ¬ (n : Int) ≤ x.pos := by
  have := of_decide_eq_true h
  omega
theorem hand_next {n : Nat} {l : List HandD} {j : Nat} (h : ∀ (i : Nat) (hi : i < l.length), i < j → handF n (l.take i) l[i] = 0) (hj : j < l.length) (h0 : handF n (l.take j) l[j] = 0) : ∀ (i : Nat) (hi : i < l.length), i < j + 1 → handF n (l.take i) l[i] = 0 := fun i hi hij => by
  by_cases e : i = j
  · subst e; exact h0
  · exact h i hi (by omega)
theorem handsF_at {n : Nat} {l : List HandD} {j : Nat} (hj : j < l.length) (h : ∀ (i : Nat) (hi : i < l.length), i < j → handF n (l.take i) l[i] = 0) (hf : handF n (l.take j) l[j] ≠ 0) : handsF l n = handF n (l.take j) l[j] := by
  have e := firstAt_at hj (fun i hi => h i (by omega) hi) hf
  unfold handsF
  rw [e, if_pos hf]
theorem handsF_end {n : Nat} {l : List HandD} (h : ∀ (i : Nat) (hi : i < l.length), i < l.length → handF n (l.take i) l[i] = 0) : handsF l n = if 8 < l.length then 4 else 0 := by
  unfold handsF
  rw [if_neg]
  rw [firstAt_zero fun j hj => h j hj hj]; simp
end Go.Proofs.YtkolpbjpgobkcaaDoor
