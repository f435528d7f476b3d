/- The walk of coffeehouselaw1.ClassTells, from what class.Check says. -/
import Derived.Test.YtkabkpkfglngnaaDoorClG
import Derived.Test.YtkabkpkfglngnaaDoorClC
import Derived.Test.YtkabkpkfglngnaaDoorSame
namespace Go.Proofs.YtkabkpkfglngnaaDoor
open Go.ChangeShapes Go.WideShapes Go.ChangeAt Go.RowKit
set_option linter.unusedVariables false
attribute [local go_sem] eqGuard_errV_nil eqGuard_errV_iface eql_errV_nil neq_errV_nil eql_errV_form

theorem csame_self (q : Nat) (w : World) : Calls Tryd.prog 7 #[errV q, .int .i64 (q : Int)] w fun e w' => e = .returned (.bool true) ∧ w = w' :=
  (sameError_any q q w).mono fun _ _ ⟨h1, h2⟩ => ⟨by rw [h1]; simp, h2⟩
set_option maxRecDepth 20000 in
set_option maxHeartbeats 4000000 in
theorem classTells_walk (K : ClassChecks) (x : ClassD) (A : Option Addr) (i j : Nat) (B : Option Addr) (k l : Nat) (C : Option Addr) (m n : Nat) (w : World) (T : Tab w) (RA : StrRow w A i j x.faces) (RB : FieldRow w B k l x.fields) (RC : MethRow w C m n x.meths) (hA : A = none → i = 0 ∧ j = 0) (hB : B = none → k = 0 ∧ l = 0) (hC : C = none → m = 0 ∧ n = 0) (hx : x.upto 1048576) (hw : x.wf) :
    Calls Tryd.prog 3 #[classV x A i j B k l C m n] w fun e w' => e = .returned (.bool true) ∧ Below w.heap.size w w' := by
  have HCk := fun W T RA RB RC => K x A i j B k l C m n W T RA RB RC hA hB hC (hx.more (by decide)) hw
  have HRf := fun W RA RB RC => rclass_any x A i j B k l C m n W RA RB RC hx hw
  have HSe := Lib.hid csame_self
  have HCy := Lib.hid (fun W T => classy_any K W T)
  have HB0 := Lib.hid (al1 w (.cells #[.string (bs x.nm), .string (bs x.su), .slice A i j, .bool x.face, .slice B k l, .slice C m n] 26))
  have HCB := Lib.hid (cbox_at w x A i j B k l C m n 26 (0, 0))
  have HT := Lib.hid (T.below HB0.out)
  have HRA := Lib.hid (RA.below HB0.out)
  have HRB := Lib.hid (RB.below HB0.out)
  have HRC := Lib.hid (RC.below HB0.out)
  clear K T RA RB RC hA hB hC hx hw
  unfold classV at HCk HRf ⊢
  generalize classF x = q at *
  replace HCk := Lib.hid HCk
  replace HRf := Lib.hid HRf
  go_enter Tryd.func3, Tryd.ntmps3
  go_wp2_with (first
    | (go_at_call 6; (with_reducible refine (HCy.out _ HT.out).mono ?_); rintro e w1 ⟨rfl, hb⟩
       have HB1 := Lib.hid hb
       clear hb
       obtain ⟨p0, p1, p2, p3, p4, p5, p6⟩ := HCB.out.below HB1.out))
  first | go_region_held (fun w' => w'.cell? ⟨w.heap.size, 0, none⟩ = some (.string (bs x.nm)) ∧ w'.cell? ⟨w.heap.size, 1, none⟩ = some (.string (bs x.su)) ∧ w'.cell? ⟨w.heap.size, 2, none⟩ = some (.slice A i j) ∧ w'.cell? ⟨w.heap.size, 3, none⟩ = some (.bool x.face) ∧ w'.cell? ⟨w.heap.size, 4, none⟩ = some (.slice B k l) ∧ w'.cell? ⟨w.heap.size, 5, none⟩ = some (.slice C m n)) (first | exact ⟨p1, p2, p3, p4, p5, p6⟩ | exact ⟨q1, q2, q3, q4, q5, q6⟩ | exact ⟨t1, t2, t3, t4, t5, t6⟩)
    (first
      | (go_at_call 8; (with_reducible refine (HCk.out w1.drew (HT.out.below (drew_behind HB1.out)) (HRA.out.below (drew_behind HB1.out)) (HRB.out.below (drew_behind HB1.out)) (HRC.out.below (drew_behind HB1.out))).mono ?_); rintro e w2 ⟨rfl, hb⟩
         have HB2 := Lib.hid (bnext (drew_behind HB1.out) hb)
         obtain ⟨q0, q1, q2, q3, q4, q5, q6⟩ := HCB.out.below HB2.out
         clear hb)
      | (go_at_call 9; (with_reducible refine (HRf.out w1.drew (HRA.out.below (drew_behind HB1.out)) (HRB.out.below (drew_behind HB1.out)) (HRC.out.below (drew_behind HB1.out))).mono ?_); rintro e w2 ⟨rfl, hb⟩
         have HB2 := Lib.hid (bnext (drew_behind HB1.out) hb)
         obtain ⟨q0, q1, q2, q3, q4, q5, q6⟩ := HCB.out.below HB2.out
         clear hb)
      | (go_at_call 8; (with_reducible refine (HCk.out w2 (HT.out.below HB2.out) (HRA.out.below HB2.out) (HRB.out.below HB2.out) (HRC.out.below HB2.out)).mono ?_); rintro e w3 ⟨rfl, hb⟩
         have HB3 := Lib.hid (bnext HB2.out hb)
         obtain ⟨t0, t1, t2, t3, t4, t5, t6⟩ := HCB.out.below HB3.out
         clear hb)
      | (go_at_call 9; (with_reducible refine (HRf.out w2 (HRA.out.below HB2.out) (HRB.out.below HB2.out) (HRC.out.below HB2.out)).mono ?_); rintro e w3 ⟨rfl, hb⟩
         have HB3 := Lib.hid (bnext HB2.out hb)
         obtain ⟨t0, t1, t2, t3, t4, t5, t6⟩ := HCB.out.below HB3.out
         clear hb)
      | (go_at_call 7; (with_reducible refine (HSe.out _ _).mono ?_); rintro e w4 ⟨rfl, rfl⟩)) | fail
  all_goals
    go_wp2_with fail
    go_ret
    exact ⟨rfl, bnext HB0.out HB3.out⟩
end Go.Proofs.YtkabkpkfglngnaaDoor
