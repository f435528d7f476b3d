/- The walk of coffeehouselaw1.InsBack. -/
import Derived.Test.YtdikccncljhehaaDoorInP
namespace Go.Proofs.YtdikccncljhehaaDoor
open Go.ChangeShapes Go.WideShapes Go.ChangeAt Go.RowKit
set_option linter.unusedVariables false
attribute [local go_sem] eqGuard_errV_nil eqGuard_errV_iface eql_errV_nil neq_errV_nil eql_errV_form
attribute [local go_sem high] eql_ins neq_ins

set_option maxHeartbeats 2000000 in
theorem back_AD (x : InsD) (tx : List UInt8) (fx : Nat) (y : InsD) (fy : Nat) (s : List UInt8) (hx : fx = 0) (hy : fy = 0) (w : World) (T : Tab w) (E : Errs w) (P : Pow w)
    (HX : ∀ w, Tab w → Pow w → Calls Tryd.prog 10 #[insV x] w fun e w' => e = .returned (.tuple #[.string (bs tx), errV fx]) ∧ Below w.heap.size w w')
    (HY : ∀ w, Tab w → Errs w → Pow w → Calls Tryd.prog 12 #[.string (bs tx)] w fun e w' => e = .returned (.tuple #[insV x, errV 0]) ∧ Below w.heap.size w w')
    (HZ : ∀ w, Tab w → Errs w → Pow w → Calls Tryd.prog 12 #[.string (bs s)] w fun e w' => e = .returned (.tuple #[insV y, errV 0]) ∧ Below w.heap.size w w')
    (HV : ∀ w, Tab w → Pow w → Calls Tryd.prog 10 #[insV y] w fun e w' => e = .returned (.tuple #[.string (bs s), errV 0]) ∧ Below w.heap.size w w')
    (HC : ∀ w, Tab w → Calls Tryd.prog 9 #[insV y] w fun e w' => e = .returned (errV 0) ∧ Below w.heap.size w w') :
    Calls Tryd.prog 4 #[insV x, .string (bs s)] w fun e w' => e = .returned (.bool true) ∧ Below w.heap.size w w' := by
  have HU := Lib.hid pushed_any
  have HT := Lib.hid T
  have HE := Lib.hid E
  have HP := Lib.hid P
  clear T E P
  have s2 : (bs []).toList = [] := by rw [ByteArray.toList_eq]; rfl
  obtain ⟨xo, xa, xb, xt, xc, xn⟩ := x
  obtain ⟨yo, ya, yb, yt, yc, yn⟩ := y
  subst hx
  subst hy
  unfold insV at *
  replace HX := Lib.hid HX
  replace HZ := Lib.hid HZ
  replace HY := Lib.hid HY
  replace HV := Lib.hid HV
  replace HC := Lib.hid HC
  go_enter Tryd.func4, Tryd.ntmps4
  go_wp2_with (first
      | (go_at_call 6; (with_reducible refine (HU.out _ (HT.out.below (al1 _ _)) (HE.out.below (al1 _ _)) (HP.out.below (al1 _ _))).mono ?_); rintro e w1 ⟨rfl, b1⟩
         have BX := box_new ⟨xo, xa, xb, xt, xc, xn⟩ _ _ rfl b1
         have HB := Lib.hid BX.1
         have HL := Lib.hid BX.2
         clear BX b1
         obtain ⟨q0, q1, q2, q3, q4, q5, q6⟩ := HB.out)
      | (go_at_call 10; (with_reducible refine (HX.out _ (HT.out.below HL.out) (HP.out.below HL.out)).mono ?_); rintro e w2 ⟨rfl, b2⟩
         have HB := Lib.hid (HB.out.below b2)
         have HL := Lib.hid (bnext HL.out b2)
         clear b2
         obtain ⟨q0, q1, q2, q3, q4, q5, q6⟩ := HB.out)
      | (go_at_call 12; (with_reducible refine (HY.out _ (HT.out.below HL.out) (HE.out.below HL.out) (HP.out.below HL.out)).mono ?_); rintro e w3 ⟨rfl, b3⟩
         have HB := Lib.hid ((HB.out.below b3).below (al1 _ (.cells #[.int .i64 xo, .int .i64 xa, .int .i64 xb, .string (bs xt), .string (bs xc), .string (bs xn)] 23)))
         have hq := (HB.out)
         have h3 := b3.size
         have HB3 := Lib.hid (bnext HL.out b3)
         have HL := Lib.hid (bnext (bnext HL.out b3) (al1 _ (.cells #[.int .i64 xo, .int .i64 xa, .int .i64 xb, .string (bs xt), .string (bs xc), .string (bs xn)] 23)))
         obtain ⟨q0, q1, q2, q3, q4, q5, q6⟩ := HB.out
         clear b3 hq)
      | (go_at_call 12; (with_reducible refine (HZ.out _ (HT.out.below HL.out) (HE.out.below HL.out) (HP.out.below HL.out)).mono ?_); rintro e w4 ⟨rfl, b4⟩
         have HL := Lib.hid (bnext HL.out b4)
         clear b4)
      | (go_at_call 10; (with_reducible refine (HV.out _ (HT.out.below (bnext HL.out (al1 _ _))) (HP.out.below (bnext HL.out (al1 _ _)))).mono ?_); rintro e w5 ⟨rfl, b5⟩
         have BY := (box_at _ ⟨yo, ya, yb, yt, yc, yn⟩ _ (0, 0)).below b5
         have HL := Lib.hid (bnext (bnext HL.out (al1 _ _)) b5)
         obtain ⟨r0, r1, r2, r3, r4, r5, r6⟩ := BY
         clear b5)
      | (go_at_call 9; (with_reducible refine (HC.out _ (HT.out.below HL.out)).mono ?_); rintro e w6 ⟨rfl, b6⟩
         have HL := Lib.hid (bnext HL.out b6)
         clear b6))
  go_ret
  exact ⟨rfl, HL.out⟩
set_option maxHeartbeats 2000000 in
theorem back_AC (x : InsD) (tx : List UInt8) (fx : Nat) (y : InsD) (fy : Nat) (s : List UInt8) (hx : fx = 0) (w : World) (T : Tab w) (E : Errs w) (P : Pow w)
    (HX : ∀ w, Tab w → Pow w → Calls Tryd.prog 10 #[insV x] w fun e w' => e = .returned (.tuple #[.string (bs tx), errV fx]) ∧ Below w.heap.size w w')
    (HY : ∀ w, Tab w → Errs w → Pow w → Calls Tryd.prog 12 #[.string (bs tx)] w fun e w' => e = .returned (.tuple #[insV x, errV 0]) ∧ Below w.heap.size w w')
    (HZ : ∀ w, Tab w → Errs w → Pow w → Calls Tryd.prog 12 #[.string (bs s)] w fun e w' => e = .returned (.tuple #[insV zeroI, errV 1]) ∧ Below w.heap.size w w') :
    Calls Tryd.prog 4 #[insV x, .string (bs s)] w fun e w' => e = .returned (.bool true) ∧ Below w.heap.size w w' := by
  have HU := Lib.hid pushed_any
  have HT := Lib.hid T
  have HE := Lib.hid E
  have HP := Lib.hid P
  clear T E P
  have s2 : (bs []).toList = [] := by rw [ByteArray.toList_eq]; rfl
  obtain ⟨xo, xa, xb, xt, xc, xn⟩ := x
  obtain ⟨yo, ya, yb, yt, yc, yn⟩ := y
  subst hx
  unfold insV at *
  unfold zeroI at HZ
  replace HX := Lib.hid HX
  replace HZ := Lib.hid HZ
  replace HY := Lib.hid HY
  go_enter Tryd.func4, Tryd.ntmps4
  go_wp2_with (first
      | (go_at_call 6; (with_reducible refine (HU.out _ (HT.out.below (al1 _ _)) (HE.out.below (al1 _ _)) (HP.out.below (al1 _ _))).mono ?_); rintro e w1 ⟨rfl, b1⟩
         have BX := box_new ⟨xo, xa, xb, xt, xc, xn⟩ _ _ rfl b1
         have HB := Lib.hid BX.1
         have HL := Lib.hid BX.2
         clear BX b1
         obtain ⟨q0, q1, q2, q3, q4, q5, q6⟩ := HB.out)
      | (go_at_call 10; (with_reducible refine (HX.out _ (HT.out.below HL.out) (HP.out.below HL.out)).mono ?_); rintro e w2 ⟨rfl, b2⟩
         have HB := Lib.hid (HB.out.below b2)
         have HL := Lib.hid (bnext HL.out b2)
         clear b2
         obtain ⟨q0, q1, q2, q3, q4, q5, q6⟩ := HB.out)
      | (go_at_call 12; (with_reducible refine (HY.out _ (HT.out.below HL.out) (HE.out.below HL.out) (HP.out.below HL.out)).mono ?_); rintro e w3 ⟨rfl, b3⟩
         have HB := Lib.hid ((HB.out.below b3).below (al1 _ (.cells #[.int .i64 xo, .int .i64 xa, .int .i64 xb, .string (bs xt), .string (bs xc), .string (bs xn)] 23)))
         have hq := (HB.out)
         have h3 := b3.size
         have HB3 := Lib.hid (bnext HL.out b3)
         have HL := Lib.hid (bnext (bnext HL.out b3) (al1 _ (.cells #[.int .i64 xo, .int .i64 xa, .int .i64 xb, .string (bs xt), .string (bs xc), .string (bs xn)] 23)))
         obtain ⟨q0, q1, q2, q3, q4, q5, q6⟩ := HB.out
         clear b3 hq)
      | (go_at_call 12; (with_reducible refine (HZ.out _ (HT.out.below HL.out) (HE.out.below HL.out) (HP.out.below HL.out)).mono ?_); rintro e w4 ⟨rfl, b4⟩
         have HL := Lib.hid (bnext HL.out b4)
         clear b4))
  go_ret
  exact ⟨rfl, bnext HL.out (al1 _ _)⟩
set_option maxHeartbeats 2000000 in
theorem back_BD (x : InsD) (tx : List UInt8) (fx : Nat) (y : InsD) (fy : Nat) (s : List UInt8) (hx : (fx != 0) = true) (hy : fy = 0) (w : World) (T : Tab w) (E : Errs w) (P : Pow w)
    (HX : ∀ w, Tab w → Pow w → Calls Tryd.prog 10 #[insV x] w fun e w' => e = .returned (.tuple #[.string (bs tx), errV fx]) ∧ Below w.heap.size w w')
    (HZ : ∀ w, Tab w → Errs w → Pow w → Calls Tryd.prog 12 #[.string (bs s)] w fun e w' => e = .returned (.tuple #[insV y, errV 0]) ∧ Below w.heap.size w w')
    (HV : ∀ w, Tab w → Pow w → Calls Tryd.prog 10 #[insV y] w fun e w' => e = .returned (.tuple #[.string (bs s), errV 0]) ∧ Below w.heap.size w w')
    (HC : ∀ w, Tab w → Calls Tryd.prog 9 #[insV y] w fun e w' => e = .returned (errV 0) ∧ Below w.heap.size w w') :
    Calls Tryd.prog 4 #[insV x, .string (bs s)] w fun e w' => e = .returned (.bool true) ∧ Below w.heap.size w w' := by
  have HU := Lib.hid pushed_any
  have HT := Lib.hid T
  have HE := Lib.hid E
  have HP := Lib.hid P
  clear T E P
  have s2 : (bs []).toList = [] := by rw [ByteArray.toList_eq]; rfl
  obtain ⟨xo, xa, xb, xt, xc, xn⟩ := x
  obtain ⟨yo, ya, yb, yt, yc, yn⟩ := y
  subst hy
  unfold insV at *
  replace HX := Lib.hid HX
  replace HZ := Lib.hid HZ
  replace HV := Lib.hid HV
  replace HC := Lib.hid HC
  go_enter Tryd.func4, Tryd.ntmps4
  go_wp2_with (first
      | (go_at_call 6; (with_reducible refine (HU.out _ (HT.out.below (al1 _ _)) (HE.out.below (al1 _ _)) (HP.out.below (al1 _ _))).mono ?_); rintro e w1 ⟨rfl, b1⟩
         have BX := box_new ⟨xo, xa, xb, xt, xc, xn⟩ _ _ rfl b1
         have HB := Lib.hid BX.1
         have HL := Lib.hid BX.2
         clear BX b1
         obtain ⟨q0, q1, q2, q3, q4, q5, q6⟩ := HB.out)
      | (go_at_call 10; (with_reducible refine (HX.out _ (HT.out.below HL.out) (HP.out.below HL.out)).mono ?_); rintro e w2 ⟨rfl, b2⟩
         have HB := Lib.hid (HB.out.below b2)
         have HL := Lib.hid (bnext HL.out b2)
         clear b2
         obtain ⟨q0, q1, q2, q3, q4, q5, q6⟩ := HB.out)
      | (go_at_call 12; (with_reducible refine (HZ.out _ (HT.out.below HL.out) (HE.out.below HL.out) (HP.out.below HL.out)).mono ?_); rintro e w4 ⟨rfl, b4⟩
         have HL := Lib.hid (bnext HL.out b4)
         clear b4)
      | (go_at_call 10; (with_reducible refine (HV.out _ (HT.out.below (bnext HL.out (al1 _ _))) (HP.out.below (bnext HL.out (al1 _ _)))).mono ?_); rintro e w5 ⟨rfl, b5⟩
         have BY := (box_at _ ⟨yo, ya, yb, yt, yc, yn⟩ _ (0, 0)).below b5
         have HL := Lib.hid (bnext (bnext HL.out (al1 _ _)) b5)
         obtain ⟨r0, r1, r2, r3, r4, r5, r6⟩ := BY
         clear b5)
      | (go_at_call 9; (with_reducible refine (HC.out _ (HT.out.below HL.out)).mono ?_); rintro e w6 ⟨rfl, b6⟩
         have HL := Lib.hid (bnext HL.out b6)
         clear b6))
  go_ret
  exact ⟨rfl, HL.out⟩
set_option maxHeartbeats 2000000 in
theorem back_BC (x : InsD) (tx : List UInt8) (fx : Nat) (y : InsD) (fy : Nat) (s : List UInt8) (hx : (fx != 0) = true) (w : World) (T : Tab w) (E : Errs w) (P : Pow w)
    (HX : ∀ w, Tab w → Pow w → Calls Tryd.prog 10 #[insV x] w fun e w' => e = .returned (.tuple #[.string (bs tx), errV fx]) ∧ Below w.heap.size w w')
    (HZ : ∀ w, Tab w → Errs w → Pow w → Calls Tryd.prog 12 #[.string (bs s)] w fun e w' => e = .returned (.tuple #[insV zeroI, errV 1]) ∧ Below w.heap.size w w') :
    Calls Tryd.prog 4 #[insV x, .string (bs s)] w fun e w' => e = .returned (.bool true) ∧ Below w.heap.size w w' := by
  have HU := Lib.hid pushed_any
  have HT := Lib.hid T
  have HE := Lib.hid E
  have HP := Lib.hid P
  clear T E P
  have s2 : (bs []).toList = [] := by rw [ByteArray.toList_eq]; rfl
  obtain ⟨xo, xa, xb, xt, xc, xn⟩ := x
  obtain ⟨yo, ya, yb, yt, yc, yn⟩ := y
  unfold insV at *
  unfold zeroI at HZ
  replace HX := Lib.hid HX
  replace HZ := Lib.hid HZ
  go_enter Tryd.func4, Tryd.ntmps4
  go_wp2_with (first
      | (go_at_call 6; (with_reducible refine (HU.out _ (HT.out.below (al1 _ _)) (HE.out.below (al1 _ _)) (HP.out.below (al1 _ _))).mono ?_); rintro e w1 ⟨rfl, b1⟩
         have BX := box_new ⟨xo, xa, xb, xt, xc, xn⟩ _ _ rfl b1
         have HB := Lib.hid BX.1
         have HL := Lib.hid BX.2
         clear BX b1
         obtain ⟨q0, q1, q2, q3, q4, q5, q6⟩ := HB.out)
      | (go_at_call 10; (with_reducible refine (HX.out _ (HT.out.below HL.out) (HP.out.below HL.out)).mono ?_); rintro e w2 ⟨rfl, b2⟩
         have HB := Lib.hid (HB.out.below b2)
         have HL := Lib.hid (bnext HL.out b2)
         clear b2
         obtain ⟨q0, q1, q2, q3, q4, q5, q6⟩ := HB.out)
      | (go_at_call 12; (with_reducible refine (HZ.out _ (HT.out.below HL.out) (HE.out.below HL.out) (HP.out.below HL.out)).mono ?_); rintro e w4 ⟨rfl, b4⟩
         have HL := Lib.hid (bnext HL.out b4)
         clear b4))
  go_ret
  exact ⟨rfl, bnext HL.out (al1 _ _)⟩
theorem insBack_walk (x : InsD) (s : ByteArray) (hx : x.wf) (zx : x.fits) (zs : s.size ≤ 140737488351232) (w : World) (T : Tab w) (E : Errs w) (P : Pow w) :
    Calls Tryd.prog 4 #[insV x, .string s] w fun e w' => e = .returned (.bool true) ∧ Below w.heap.size w w' := by
  rw [← bs_of s]
  have zl : s.data.toList.length ≤ 140737488351232 := zs
  generalize s.data.toList = l at zl
  have HX := fun w T P => text_any x hx zx w T P
  have HZ := fun w T E P => parse_any l w T E P zl
  have HV := fun w T P => text_any (readM l) (read_wf l) (read_fits l zl) w T P
  have HC := fun w T => ins_check (readM l) w T (read_fits l zl).1 (read_fits l zl).2.1 (read_fits l zl).2.2
  cases hb : parseB l with
  | true =>
    have hd : insF (readM l) = 0 ∧ textM (readM l) = l := by unfold parseB at hb; exact of_decide_eq_true hb
    rw [show parseM l = readM l by unfold parseM; rw [hb, if_pos rfl], show parseF l = 0 by unfold parseF; rw [hb, if_pos rfl]] at HZ
    rw [show textR (readM l) = l by unfold textR; rw [if_pos hd.1, hd.2], hd.1] at HV
    rw [hd.1] at HC
    by_cases fx : insF x = 0
    · have HY := fun w T E P => parse_any (textM x) w T E P (Nat.le_trans (text_len hx fx) (by decide))
      obtain ⟨h1, h2⟩ := parse_text hx fx
      rw [h1, h2] at HY
      rw [show textR x = textM x by unfold textR; rw [if_pos fx]] at HX
      exact back_AD x _ _ (readM l) 0 l fx rfl w T E P HX HY HZ HV HC
    · exact back_BD x _ _ (readM l) 0 l (by rw [bne_iff_ne]; exact fx) rfl w T E P HX HZ HV HC
  | false =>
    rw [show parseM l = zeroI by unfold parseM; rw [hb]; rfl, show parseF l = 1 by unfold parseF; rw [hb]; rfl] at HZ
    by_cases fx : insF x = 0
    · have HY := fun w T E P => parse_any (textM x) w T E P (Nat.le_trans (text_len hx fx) (by decide))
      obtain ⟨h1, h2⟩ := parse_text hx fx
      rw [h1, h2] at HY
      rw [show textR x = textM x by unfold textR; rw [if_pos fx]] at HX
      exact back_AC x _ _ zeroI 0 l fx w T E P HX HY HZ
    · exact back_BC x _ _ zeroI 0 l (by rw [bne_iff_ne]; exact fx) w T E P HX HZ
end Go.Proofs.YtdikccncljhehaaDoor
