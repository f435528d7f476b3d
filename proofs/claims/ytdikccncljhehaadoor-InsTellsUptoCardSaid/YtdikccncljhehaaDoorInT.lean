/- The walk of coffeehouselaw1.InsTells. -/
import Derived.Test.YtdikccncljhehaaDoorInG
import Derived.Test.YtdikccncljhehaaDoorInV
import Derived.Test.YtdikccncljhehaaDoorInP
import Derived.Test.YtdikccncljhehaaDoorSame
namespace Go.Proofs.YtdikccncljhehaaDoor
open Go.ChangeShapes Go.WideShapes Go.ChangeAt Go.RowKit
set_option linter.unusedVariables false
attribute [local go_sem] eqGuard_errV_nil eqGuard_errV_iface eql_errV_nil neq_errV_nil eql_errV_form

theorem same_zero (w : World) : Calls Tryd.prog 8 #[errV 0, .int .i64 0] w fun e w' => e = .returned (.bool true) ∧ w = w' := sameError_any 0 0 w
theorem same_self (f : Nat) (w : World) : Calls Tryd.prog 8 #[errV f, .int .i64 (f : Int)] w fun e w' => e = .returned (.bool true) ∧ w = w' := by
  have h := sameError_any f f w
  rw [show (f == f) = true from beq_self_eq_true f] at h
  exact h
set_option maxHeartbeats 2000000 in
theorem tells_ok (x : InsD) (tx : List UInt8) (w : World) (T : Tab w) (E : Errs w) (P : Pow w)
    (HF : ∀ w, Calls Tryd.prog 7 #[insV x] w fun e w' => e = .returned (.int .i64 0) ∧ Below w.heap.size w w')
    (HC : ∀ w, Tab w → Calls Tryd.prog 9 #[insV x] w fun e w' => e = .returned (errV 0) ∧ Below w.heap.size w w')
    (HX : ∀ w, Tab w → Pow w → Calls Tryd.prog 10 #[insV x] w fun e w' => e = .returned (.tuple #[.string (bs tx), errV 0]) ∧ Below w.heap.size w w')
    (HW : ∀ w, Calls Tryd.prog 11 #[insV x] w fun e w' => e = .returned (.string (bs tx)) ∧ Below w.heap.size w w') :
    Calls Tryd.prog 3 #[insV x] w fun e w' => e = .returned (.bool true) ∧ Below w.heap.size w w' := by
  have HU := Lib.hid pushed_any
  have HS := Lib.hid same_zero
  have HT := Lib.hid T
  have HE := Lib.hid E
  have HP := Lib.hid P
  clear T E P
  have s2 : (bs []).toList = [] := by rw [ByteArray.toList_eq]; rfl
  obtain ⟨xo, xa, xb, xt, xc, xn⟩ := x
  unfold insV at *
  replace HF := Lib.hid HF
  replace HC := Lib.hid HC
  replace HX := Lib.hid HX
  replace HW := Lib.hid HW
  go_enter Tryd.func3, Tryd.ntmps3
  go_wp2_with (first
      | (go_at_call 6; (with_reducible refine (HU.out _ (HT.out.below (al1 _ _)) (HE.out.below (al1 _ _)) (HP.out.below (al1 _ _))).mono ?_); rintro e w1 ⟨rfl, b1⟩
         have BX := box_new ⟨xo, xa, xb, xt, xc, xn⟩ _ _ rfl b1
         have HB := Lib.hid BX.1
         have HL := Lib.hid BX.2
         clear BX b1
         obtain ⟨q0, q1, q2, q3, q4, q5, q6⟩ := HB.out)
      | (go_at_call 7; (with_reducible refine (HF.out _).mono ?_); rintro e w2 ⟨rfl, b2⟩
         have HB := Lib.hid (HB.out.below b2)
         have HL := Lib.hid (bnext HL.out b2)
         clear b2
         obtain ⟨q0, q1, q2, q3, q4, q5, q6⟩ := HB.out)
      | (go_at_call 9; (with_reducible refine (HC.out _ (HT.out.below HL.out)).mono ?_); rintro e w2 ⟨rfl, b2⟩
         have HB := Lib.hid (HB.out.below b2)
         have HL := Lib.hid (bnext HL.out b2)
         clear b2
         obtain ⟨q0, q1, q2, q3, q4, q5, q6⟩ := HB.out)
      | (go_at_call 10; (with_reducible refine (HX.out _ (HT.out.below HL.out) (HP.out.below HL.out)).mono ?_); rintro e w2 ⟨rfl, b2⟩
         have HB := Lib.hid (HB.out.below b2)
         have HL := Lib.hid (bnext HL.out b2)
         clear b2
         obtain ⟨q0, q1, q2, q3, q4, q5, q6⟩ := HB.out)
      | (go_at_call 8; (with_reducible refine (HS.out _).mono ?_); rintro e w2 ⟨rfl, rfl⟩)
      | (go_at_call 11; (with_reducible refine (HW.out _).mono ?_); rintro e w2 ⟨rfl, b2⟩
         have HL := Lib.hid (bnext HL.out b2)
         clear b2))
  go_ret
  exact ⟨ret_bool (by simp), HL.out⟩
set_option maxHeartbeats 2000000 in
theorem tells_no (x : InsD) (tx : List UInt8) (f : Nat) (hf : ¬ (f : Int) = 0) (htx : tx = []) (w : World) (T : Tab w) (E : Errs w) (P : Pow w)
    (HF : ∀ w, Calls Tryd.prog 7 #[insV x] w fun e w' => e = .returned (.int .i64 (f : Int)) ∧ Below w.heap.size w w')
    (HC : ∀ w, Tab w → Calls Tryd.prog 9 #[insV x] w fun e w' => e = .returned (errV f) ∧ Below w.heap.size w w')
    (HX : ∀ w, Tab w → Pow w → Calls Tryd.prog 10 #[insV x] w fun e w' => e = .returned (.tuple #[.string (bs tx), errV f]) ∧ Below w.heap.size w w') :
    Calls Tryd.prog 3 #[insV x] w fun e w' => e = .returned (.bool true) ∧ Below w.heap.size w w' := by
  subst htx
  have HU := Lib.hid pushed_any
  have HS := Lib.hid (same_self f)
  have HT := Lib.hid T
  have HE := Lib.hid E
  have HP := Lib.hid P
  clear T E P
  have s2 : (bs []).toList = [] := by rw [ByteArray.toList_eq]; rfl
  obtain ⟨xo, xa, xb, xt, xc, xn⟩ := x
  unfold insV at *
  replace HF := Lib.hid HF
  replace HC := Lib.hid HC
  replace HX := Lib.hid HX
  go_enter Tryd.func3, Tryd.ntmps3
  go_wp2_with (first
      | (go_at_call 6; (with_reducible refine (HU.out _ (HT.out.below (al1 _ _)) (HE.out.below (al1 _ _)) (HP.out.below (al1 _ _))).mono ?_); rintro e w1 ⟨rfl, b1⟩
         have BX := box_new ⟨xo, xa, xb, xt, xc, xn⟩ _ _ rfl b1
         have HB := Lib.hid BX.1
         have HL := Lib.hid BX.2
         clear BX b1
         obtain ⟨q0, q1, q2, q3, q4, q5, q6⟩ := HB.out)
      | (go_at_call 7; (with_reducible refine (HF.out _).mono ?_); rintro e w2 ⟨rfl, b2⟩
         have HB := Lib.hid (HB.out.below b2)
         have HL := Lib.hid (bnext HL.out b2)
         clear b2
         obtain ⟨q0, q1, q2, q3, q4, q5, q6⟩ := HB.out)
      | (go_at_call 9; (with_reducible refine (HC.out _ (HT.out.below HL.out)).mono ?_); rintro e w2 ⟨rfl, b2⟩
         have HB := Lib.hid (HB.out.below b2)
         have HL := Lib.hid (bnext HL.out b2)
         clear b2
         obtain ⟨q0, q1, q2, q3, q4, q5, q6⟩ := HB.out)
      | (go_at_call 10; (with_reducible refine (HX.out _ (HT.out.below HL.out) (HP.out.below HL.out)).mono ?_); rintro e w2 ⟨rfl, b2⟩
         have HB := Lib.hid (HB.out.below b2)
         have HL := Lib.hid (bnext HL.out b2)
         clear b2
         obtain ⟨q0, q1, q2, q3, q4, q5, q6⟩ := HB.out)
      | (go_at_call 8; (with_reducible refine (HS.out _).mono ?_); rintro e w2 ⟨rfl, rfl⟩))
  go_ret
  exact ⟨ret_bool (by simp), HL.out⟩
theorem insTells_walk (x : InsD) (hx : x.wf) (zx : x.ty.length ≤ 1048576 ∧ x.cl.length ≤ 1048576 ∧ x.nm.length ≤ 1048576) (w : World) (T : Tab w) (E : Errs w) (P : Pow w) :
    Calls Tryd.prog 3 #[insV x] w fun e w' => e = .returned (.bool true) ∧ Below w.heap.size w w' := by
  obtain ⟨z1, z2, z3⟩ := zx
  have zf : x.fits := ⟨by omega, by omega, by omega⟩
  have HF := fun w => fault_any x w z1 z2 z3
  have HX := fun w T P => text_any x hx zf w T P
  have HC := fun w T => ins_check x w T zf.1 zf.2.1 zf.2.2
  by_cases fx : insF x = 0
  · have HW := fun w => insText_any x fx hx w z1 z2 z3
    rw [show textR x = textM x by unfold textR; rw [if_pos fx]] at HX
    rw [fx] at HF HC HX
    exact tells_ok x _ w T E P HF HC HX HW
  · rw [show textR x = [] by unfold textR; rw [if_neg fx]] at HX
    exact tells_no x _ _ (by omega) rfl w T E P HF HC HX
end Go.Proofs.YtdikccncljhehaaDoor
