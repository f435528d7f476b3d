/- The walk of coffeehouselaw1.ClassParts, from what class.Check says. -/
import Derived.Test.YtkabkpkfglngnaaDoorClB
import Derived.Test.YtkabkpkfglngnaaDoorClC
namespace Go.Proofs.YtkabkpkfglngnaaDoor
open Go.ChangeShapes Go.WideShapes Go.ChangeAt Go.RowKit
set_option linter.unusedVariables false
attribute [local go_sem] eqGuard_errV_nil eqGuard_errV_iface eql_errV_nil neq_errV_nil eql_errV_form

theorem checks_zero (K : ClassChecks) (x : ClassD) (A : Option Addr) (i j : Nat) (B : Option Addr) (k l : Nat) (C : Option Addr) (m n : Nat) (w : World) (T : Tab w) (RA : StrRow w A i j x.faces) (RB : FieldRow w B k l x.fields) (RC : MethRow w C m n x.meths)
    (hA : A = none → i = 0 ∧ j = 0) (hB : B = none → k = 0 ∧ l = 0) (hC : C = none → m = 0 ∧ n = 0) (hx : x.upto 140737488351232) (hw : x.wf) (h0 : classF x = 0) :
    Calls Tryd.prog 8 #[.agg #[.string (bs x.nm), .string (bs x.su), .slice A i j, .bool x.face, .slice B k l, .slice C m n]] w fun e w' => e = .returned .nilIface ∧ Below w.heap.size w w' :=
  (K x A i j B k l C m n w T RA RB RC hA hB hC hx hw).mono fun _ _ ⟨h1, h2⟩ => ⟨by rw [h1, h0]; rfl, h2⟩
theorem none_cut {A : Option Addr} {i j : Nat} (h : A = none → i = 0 ∧ j = 0) : A = none → i - 1 = 0 ∧ j = 0 := fun e => by
  have := h e
  omega
theorem max_less (m : Nat) : max (0 : Int) ((m : Int) - 1) = ((m - 1 : Nat) : Int) := by omega
theorem al3 (w : World) (o p r : Obj) : Below w.heap.size w (((w.alloc o).alloc p).alloc r) := (((al1 w o).alloc (al1 w o).size p).alloc (((al1 w o).alloc (al1 w o).size p)).size r)
theorem cbox_second (w : World) (o : Obj) (x : ClassD) (A : Option Addr) (i j : Nat) (B : Option Addr) (k l : Nat) (C : Option Addr) (m n : Nat) (t : TypeId) (f : Nat × Nat) :
    CBox ((w.alloc o).alloc (.cells #[.string (bs x.nm), .string (bs x.su), .slice A i j, .bool x.face, .slice B k l, .slice C m n] t f)) (w.heap.size + 1) x A i j B k l C m n := by
  have := cbox_at (w.alloc o) x A i j B k l C m n t f
  rwa [show (w.alloc o).heap.size = w.heap.size + 1 by simp] at this
theorem cbox_third (w : World) (o p : Obj) (x : ClassD) (A : Option Addr) (i j : Nat) (B : Option Addr) (k l : Nat) (C : Option Addr) (m n : Nat) (t : TypeId) (f : Nat × Nat) :
    CBox (((w.alloc o).alloc p).alloc (.cells #[.string (bs x.nm), .string (bs x.su), .slice A i j, .bool x.face, .slice B k l, .slice C m n] t f)) (w.heap.size + 1 + 1) x A i j B k l C m n := by
  have := cbox_second (w.alloc o) p x A i j B k l C m n t f
  rwa [show (w.alloc o).heap.size + 1 = w.heap.size + 1 + 1 by simp] at this
set_option maxRecDepth 20000 in
set_option maxHeartbeats 4000000 in
theorem parts_bad (K : ClassChecks) (x : ClassD) (A : Option Addr) (i j : Nat) (B : Option Addr) (k l : Nat) (C : Option Addr) (m n : Nat) (w : World) (T : Tab w) (RA : StrRow w A i j x.faces) (RB : FieldRow w B k l x.fields) (RC : MethRow w C m n x.meths) (hA : A = none → i = 0 ∧ j = 0) (hB : B = none → k = 0 ∧ l = 0) (hC : C = none → m = 0 ∧ n = 0) (hx : x.upto 140737488351232) (hw : x.wf) (h0 : classF x ≠ 0) :
    Calls Tryd.prog 4 #[classV x A i j B k l C m n] w fun e w' => e = .returned (.bool true) ∧ Below w.heap.size w w' := by
  have HCk := fun W T RA RB RC => K x A i j B k l C m n W T RA RB RC hA hB hC hx hw
  have HCy := Lib.hid (fun W T => classy_any K W T)
  have HB0 := Lib.hid (al1 w (.cells #[.string (bs x.nm), .string (bs x.su), .slice A i j, .bool x.face, .slice B k l, .slice C m n] 26))
  have HCB := Lib.hid (cbox_at w x A i j B k l C m n 26 (0, 0))
  have HT := Lib.hid (T.below HB0.out)
  have HRA := Lib.hid (RA.below HB0.out)
  have HRB := Lib.hid (RB.below HB0.out)
  have HRC := Lib.hid (RC.below HB0.out)
  have hne : (classF x != 0) = true := by rw [bne_iff_ne]; exact h0
  clear K T RA RB RC hA hB hC hx hw h0
  unfold classV at HCk ⊢
  generalize classF x = q at *
  replace HCk := Lib.hid HCk
  go_enter Tryd.func4, Tryd.ntmps4
  go_wp2_with (first
    | (go_at_call 6; (with_reducible refine (HCy.out _ HT.out).mono ?_); rintro e w1 ⟨rfl, hb⟩
       have HB1 := Lib.hid hb
       clear hb
       obtain ⟨p0, p1, p2, p3, p4, p5, p6⟩ := HCB.out.below HB1.out)
    | (go_at_call 8; (with_reducible refine (HCk.out _ (HT.out.below HB1.out) (HRA.out.below HB1.out) (HRB.out.below HB1.out) (HRC.out.below HB1.out)).mono ?_); rintro e w2 ⟨rfl, hb⟩
       have HB2 := Lib.hid (bnext HB1.out hb)
       clear hb))
  go_ret
  exact ⟨rfl, bnext HB0.out HB2.out⟩
set_option maxRecDepth 20000 in
set_option maxHeartbeats 4000000 in
theorem parts_good (K : ClassChecks) (x : ClassD) (A : Option Addr) (i j : Nat) (B : Option Addr) (k l : Nat) (C : Option Addr) (m n : Nat) (w : World) (T : Tab w) (RA : StrRow w A i j x.faces) (RB : FieldRow w B k l x.fields) (RC : MethRow w C m n x.meths) (hA : A = none → i = 0 ∧ j = 0) (hB : B = none → k = 0 ∧ l = 0) (hC : C = none → m = 0 ∧ n = 0) (hx : x.upto 140737488351232) (hw : x.wf) (h0 : classF x = 0) :
    Calls Tryd.prog 4 #[classV x A i j B k l C m n] w fun e w' => e = .returned (.bool true) ∧ Below w.heap.size w w' := by
  have hli : x.faces.length = i := RA.1
  have hlk : x.fields.length = k := RB.1
  have hlm : x.meths.length = m := RC.1
  have h8 := (classF_zero.1 h0).2.2.1
  rw [hli, hlk, hlm] at h8
  have hj := RA.2.1
  have hl := RB.2.1
  have hn := RC.2.1
  have sub : ∀ (fs : List (List UInt8)) (ds : List FieldD) (ms : List MethD), (∀ y ∈ fs, y ∈ x.faces) → (∀ y ∈ ds, y ∈ x.fields) → (∀ y ∈ ms, y ∈ x.meths) → fs.length ≤ x.faces.length → ds.length ≤ x.fields.length → ms.length ≤ x.meths.length → (ClassD.mk x.nm x.su fs x.face ds ms).upto 140737488351232 := fun fs ds ms a1 a2 a3 b1 b2 b3 =>
    ⟨hx.1, hx.2.1, ⟨fun y hy => hx.2.2.1.1 y (a1 y hy), Nat.le_trans b1 hx.2.2.1.2⟩, ⟨fun y hy => hx.2.2.2.1.1 y (a2 y hy), Nat.le_trans b2 hx.2.2.2.1.2⟩, fun y hy => hx.2.2.2.2.1 y (a3 y hy), Nat.le_trans b3 hx.2.2.2.2.2⟩
  have HCk := Lib.hid (fun W T RA RB RC => checks_zero K x A i j B k l C m n W T RA RB RC hA hB hC hx hw h0)
  have HD := Lib.hid (fun W T RA RB RC => checks_zero K ⟨x.nm, x.su, x.faces, x.face, x.fields, x.meths.take (m - 1)⟩ A i j B k l C (m - 1) n W T RA RB RC hA hB (none_cut hC) (sub _ _ _ (fun _ h => h) (fun _ h => h) (fun _ h => List.mem_of_mem_take h) (Nat.le_refl _) (Nat.le_refl _) (List.length_take_le' ..)) (fun y hy => hw y (List.mem_of_mem_take hy)) (parts_meths h0 _))
  have HE := Lib.hid (fun W T RA RB RC => checks_zero K ⟨x.nm, x.su, x.faces, x.face, x.fields.take (k - 1), x.meths⟩ A i j B (k - 1) l C m n W T RA RB RC hA (none_cut hB) hC (sub _ _ _ (fun _ h => h) (fun _ h => List.mem_of_mem_take h) (fun _ h => h) (Nat.le_refl _) (List.length_take_le' ..) (Nat.le_refl _)) hw (parts_fields h0 _))
  have HF := Lib.hid (fun W T RA RB RC => checks_zero K ⟨x.nm, x.su, x.faces.take (i - 1), x.face, x.fields, x.meths⟩ A (i - 1) j B k l C m n W T RA RB RC (none_cut hA) hB hC (sub _ _ _ (fun _ h => List.mem_of_mem_take h) (fun _ h => h) (fun _ h => h) (List.length_take_le' ..) (Nat.le_refl _) (Nat.le_refl _)) hw (parts_faces h0 _))
  have HCy := Lib.hid (fun W T => classy_any K W T)
  have HB0 := Lib.hid (al1 w (.cells #[.string (bs x.nm), .string (bs x.su), .slice A i j, .bool x.face, .slice B k l, .slice C m n] 26))
  have HCB := Lib.hid (cbox_at w x A i j B k l C m n 26 (0, 0))
  have HT := Lib.hid (T.below HB0.out)
  have HRA := Lib.hid (RA.below HB0.out)
  have HRB := Lib.hid (RB.below HB0.out)
  have HRC := Lib.hid (RC.below HB0.out)
  have hm1 := max_less m
  have hm2 := max_less k
  have hm3 := max_less i
  clear K T RA RB RC hA hB hC hx hw h0 sub hli hlk hlm
  unfold classV
  go_enter Tryd.func4, Tryd.ntmps4
  go_wp2_with (first
    | (go_at_call 6; (with_reducible refine (HCy.out _ HT.out).mono ?_); rintro e w1 ⟨rfl, hb⟩
       have HB1 := Lib.hid hb
       clear hb
       obtain ⟨p0, p1, p2, p3, p4, p5, p6⟩ := HCB.out.below HB1.out)
    | (go_at_call 8; (with_reducible refine (HCk.out _ (HT.out.below HB1.out) (HRA.out.below HB1.out) (HRB.out.below HB1.out) (HRC.out.below HB1.out)).mono ?_); rintro e w2 ⟨rfl, hb⟩
       have HB2 := Lib.hid (bnext HB1.out hb)
       obtain ⟨q0, q1, q2, q3, q4, q5, q6⟩ := HCB.out.below HB2.out
       have hq3 := fun o p r => ((al3 w2 o p r).cell (p := ⟨w.heap.size, 2, none⟩) q0).trans q3
       have HB3 := Lib.hid (bnext HB2.out (al3 w2 (.cells #[.string (bs x.nm), .string (bs x.su), .slice A i j, .bool x.face, .slice B k l, .slice C (m - 1) n] 26) (.cells #[.string (bs x.nm), .string (bs x.su), .slice A i j, .bool x.face, .slice B (k - 1) l, .slice C m n] 26) (.cells #[.string (bs x.nm), .string (bs x.su), .slice A (i - 1) j, .bool x.face, .slice B k l, .slice C m n] 26)))
       have HCE := Lib.hid ((cbox_second w2 (.cells #[.string (bs x.nm), .string (bs x.su), .slice A i j, .bool x.face, .slice B k l, .slice C (m - 1) n] 26) ⟨x.nm, x.su, x.faces, x.face, x.fields.take (k - 1), x.meths⟩ A i j B (k - 1) l C m n 26 (0, 0)).below (al1 _ (.cells #[.string (bs x.nm), .string (bs x.su), .slice A (i - 1) j, .bool x.face, .slice B k l, .slice C m n] 26)))
       have HCF := Lib.hid (cbox_third w2 (.cells #[.string (bs x.nm), .string (bs x.su), .slice A i j, .bool x.face, .slice B k l, .slice C (m - 1) n] 26) (.cells #[.string (bs x.nm), .string (bs x.su), .slice A i j, .bool x.face, .slice B (k - 1) l, .slice C m n] 26) ⟨x.nm, x.su, x.faces.take (i - 1), x.face, x.fields, x.meths⟩ A (i - 1) j B k l C m n 26 (0, 0))
       clear hb)
    | (go_at_call 8; (with_reducible refine (HD.out _ (HT.out.below HB3.out) (HRA.out.below HB3.out) (HRB.out.below HB3.out) (MethRow.take (HRC.out.below HB3.out) (Nat.sub_le _ _))).mono ?_); rintro e w4 ⟨rfl, hb⟩
       have HB4 := Lib.hid (bnext HB3.out hb)
       have HCF4 := Lib.hid (HCF.out.below hb)
       obtain ⟨s0, s1, s2, s3, s4, s5, s6⟩ := HCE.out.below hb
       clear hb)
    | (go_at_call 8; (with_reducible refine (HE.out _ (HT.out.below HB4.out) (HRA.out.below HB4.out) (FieldRow.take (HRB.out.below HB4.out) (Nat.sub_le _ _)) (HRC.out.below HB4.out)).mono ?_); rintro e w5 ⟨rfl, hb⟩
       have HB5 := Lib.hid (bnext HB4.out hb)
       obtain ⟨u0, u1, u2, u3, u4, u5, u6⟩ := HCF4.out.below hb
       clear hb)
    | (go_at_call 8; (with_reducible refine (HF.out _ (HT.out.below HB5.out) (StrRow.take (HRA.out.below HB5.out) (Nat.sub_le _ _)) (HRB.out.below HB5.out) (HRC.out.below HB5.out)).mono ?_); rintro e w6 ⟨rfl, hb⟩
       have HB6 := Lib.hid (bnext HB5.out hb)
       clear hb))
  go_ret
  exact ⟨rfl, bnext HB0.out HB6.out⟩
theorem classParts_walk (K : ClassChecks) (x : ClassD) (A : Option Addr) (i j : Nat) (B : Option Addr) (k l : Nat) (C : Option Addr) (m n : Nat) (w : World) (T : Tab w) (RA : StrRow w A i j x.faces) (RB : FieldRow w B k l x.fields) (RC : MethRow w C m n x.meths) (hA : A = none → i = 0 ∧ j = 0) (hB : B = none → k = 0 ∧ l = 0) (hC : C = none → m = 0 ∧ n = 0) (hx : x.upto 140737488351232) (hw : x.wf) :
    Calls Tryd.prog 4 #[classV x A i j B k l C m n] w fun e w' => e = .returned (.bool true) ∧ Below w.heap.size w w' := by
  by_cases h0 : classF x = 0
  · exact parts_good K x A i j B k l C m n w T RA RB RC hA hB hC hx hw h0
  · exact parts_bad K x A i j B k l C m n w T RA RB RC hA hB hC hx hw h0
end Go.Proofs.YtkabkpkfglngnaaDoor
