/- The walk of coffeehouselaw1.CodeBack. -/
import Derived.Test.YthnilohilbacpaaDoorCoL1
import Derived.Test.YthnilohilbacpaaDoorCoS
namespace Go.Proofs.YthnilohilbacpaaDoor
open Go.ChangeShapes Go.WideShapes Go.ChangeAt Go.RowKit
set_option linter.unusedVariables false
attribute [local go_sem] eqGuard_errV_nil eqGuard_errV_iface eql_errV_nil neq_errV_nil eql_errV_form

theorem below_drawn {w a : World} {B : Nat} (h : Below B w a) (n : Nat) : Below B w (a.drewN n) := ⟨h.os, h.tape, h.output, h.size, h.block⟩
theorem tab_drawn {w : World} (h : Tab w) (n : Nat) : Tab (w.drewN n) := h
theorem codeSame_yes (A B : Option Addr) (n c d : Nat) (xs : List InsD) (w : World) (ha : InsRow w A n c xs) (hb : InsRow w B n d xs) (hm : n ≤ 40) :
    Calls Tryd.prog 14 #[.slice A n c, .slice B n d] w fun e w' => e = .returned (.bool true) ∧ Below w.heap.size w w' :=
  (sameCode_any A B n n c d xs xs w ha hb (by omega)).mono fun _ _ ⟨he, k, hw⟩ => ⟨by rw [he]; simp, by subst hw; exact below_drawn (Below.refl _ _) k⟩
set_option maxRecDepth 20000 in
set_option maxHeartbeats 4000000 in
theorem back_good_good (l m : List InsD) (A B : Option Addr) (n c k d : Nat) (b : List UInt8) (w : World) (T : Tab w) (E : Errs w) (P : Pow w) (R : InsRow w A n c l) (S : Row w B k d (b.map byteV)) (hw : ∀ x ∈ l, x.wf) (hf : ∀ x ∈ l, x.fits) (h0 : codeF l = 0) (hm : Right m) (hb : codeL m = b) :
    Calls Tryd.prog 4 #[.slice A n c, .slice B k d] w fun e w' => e = .returned (.bool true) ∧ Below w.heap.size w w' := by
  have hl := (codeF_right hw).1 h0
  have hln : l.length = n := R.1
  subst hln
  have hl40 := hl.1
  have HN := Lib.hid (fun W T P R => (encode_any l A l.length c W T P R hw hf).mono fun _ _ h => enc_gives h h0)
  have HD := Lib.hid (fun W A n c T E P (R : Row W A n c _) => (decode_any (codeL l) A n c W T E P R).mono fun _ _ h => dec_good hl h)
  have HS := Lib.hid (fun W A B c d R S => codeSame_yes A B l.length c d l W R S hl40)
  have HD2 := Lib.hid (fun W A n c T E P (R : Row W A n c _) => (decode_any b A n c W T E P R).mono fun _ _ h => dec_good hm (hb ▸ h))
  have HN2 := Lib.hid (fun W A n c T P R => (encode_any m A n c W T P R (fun x hx => (hm.2 x hx).1) (fun x hx => good_fits (hm.2 x hx))).mono fun _ _ h => enc_gives h ((codeF_right (fun x hx => (hm.2 x hx).1)).2 hm))
  have HC := Lib.hid (coded_any)
  have HT := Lib.hid T
  have HP := Lib.hid P
  have HE := Lib.hid E
  have HR := Lib.hid R
  have HB := Lib.hid S
  have HX := Lib.hid hb
  clear T P R E S hw hf h0 hl hm hb
  go_enter Tryd.func4, Tryd.ntmps4
  go_wp2_with (first
    | (go_at_call 8; (with_reducible refine (HC.out _ HT.out HP.out).mono ?_); rintro e w1 ⟨rfl, hb⟩; have HL := Lib.hid hb; clear hb)
    | (go_at_call 10; (with_reducible refine (HN.out _ (HT.out.below HL.out) (HP.out.below HL.out) (HR.out.below HL.out)).mono ?_); rintro e w2 ⟨A2, c2, rfl, hr, hb⟩
       have HR2 := Lib.hid hr
       have HL2 := Lib.hid (bnext HL.out hb)
       clear hb hr)
    | (go_at_call 13; (with_reducible refine (HD.out _ _ _ _ (HT.out.below HL2.out) (HE.out.below HL2.out) (HP.out.below HL2.out) HR2.out).mono ?_); rintro e w3 ⟨A3, c3, rfl, hr, hb, _⟩
       have HR3 := Lib.hid hr
       have HL3 := Lib.hid (bnext HL2.out hb)
       clear hb hr)
    | (go_at_call 14; (with_reducible refine (HS.out _ _ _ _ _ HR3.out (HR.out.below HL3.out)).mono ?_); rintro e w4 ⟨rfl, hb⟩
       have HL4 := Lib.hid (bnext HL3.out hb)
       clear hb)
    | (go_at_call 13; (with_reducible refine (HD2.out _ _ _ _ (HT.out.below HL4.out) (HE.out.below HL4.out) (HP.out.below HL4.out) (HB.out.below HL4.out)).mono ?_); rintro e w5 ⟨A5, c5, rfl, hr, hb, _⟩
       have HR5 := Lib.hid hr
       have HL5 := Lib.hid (bnext HL4.out hb)
       clear hb hr)
    | (go_at_call 10; (with_reducible refine (HN2.out _ _ _ _ (HT.out.below HL5.out) (HP.out.below HL5.out) HR5.out).mono ?_); rintro e w6 ⟨A6, c6, rfl, hr, hb⟩
       have g6 := conv_row hr
       have gb := conv_row (HB.out.below (bnext HL5.out hb))
       rw [← HX.out] at gb
       have HL6 := Lib.hid (bnext HL5.out hb)
       clear hb hr))
  go_ret
  exact ⟨rfl, HL6.out⟩
set_option maxRecDepth 20000 in
set_option maxHeartbeats 4000000 in
theorem back_good_bad (l : List InsD) (A B : Option Addr) (n c k d : Nat) (b : List UInt8) (w : World) (T : Tab w) (E : Errs w) (P : Pow w) (R : InsRow w A n c l) (S : Row w B k d (b.map byteV)) (hw : ∀ x ∈ l, x.wf) (hf : ∀ x ∈ l, x.fits) (h0 : codeF l = 0) (hb : ∀ m, Right m → codeL m ≠ b) :
    Calls Tryd.prog 4 #[.slice A n c, .slice B k d] w fun e w' => e = .returned (.bool true) ∧ Below w.heap.size w w' := by
  have hl := (codeF_right hw).1 h0
  have hln : l.length = n := R.1
  subst hln
  have hl40 := hl.1
  have HN := Lib.hid (fun W T P R => (encode_any l A l.length c W T P R hw hf).mono fun _ _ h => enc_gives h h0)
  have HD := Lib.hid (fun W A n c T E P (R : Row W A n c _) => (decode_any (codeL l) A n c W T E P R).mono fun _ _ h => dec_good hl h)
  have HS := Lib.hid (fun W A B c d R S => codeSame_yes A B l.length c d l W R S hl40)
  have HD2 := Lib.hid (fun W A n c T E P (R : Row W A n c _) => (decode_any b A n c W T E P R).mono fun _ _ h => dec_bad hb h)
  have HC := Lib.hid (coded_any)
  have HT := Lib.hid T
  have HP := Lib.hid P
  have HE := Lib.hid E
  have HR := Lib.hid R
  have HB := Lib.hid S
  clear T P R E S hw hf h0 hl hb
  go_enter Tryd.func4, Tryd.ntmps4
  go_wp2_with (first
    | (go_at_call 8; (with_reducible refine (HC.out _ HT.out HP.out).mono ?_); rintro e w1 ⟨rfl, hb⟩; have HL := Lib.hid hb; clear hb)
    | (go_at_call 10; (with_reducible refine (HN.out _ (HT.out.below HL.out) (HP.out.below HL.out) (HR.out.below HL.out)).mono ?_); rintro e w2 ⟨A2, c2, rfl, hr, hb⟩
       have HR2 := Lib.hid hr
       have HL2 := Lib.hid (bnext HL.out hb)
       clear hb hr)
    | (go_at_call 13; (with_reducible refine (HD.out _ _ _ _ (HT.out.below HL2.out) (HE.out.below HL2.out) (HP.out.below HL2.out) HR2.out).mono ?_); rintro e w3 ⟨A3, c3, rfl, hr, hb, _⟩
       have HR3 := Lib.hid hr
       have HL3 := Lib.hid (bnext HL2.out hb)
       clear hb hr)
    | (go_at_call 14; (with_reducible refine (HS.out _ _ _ _ _ HR3.out (HR.out.below HL3.out)).mono ?_); rintro e w4 ⟨rfl, hb⟩
       have HL4 := Lib.hid (bnext HL3.out hb)
       clear hb)
    | (go_at_call 13; (with_reducible refine (HD2.out _ _ _ _ (HT.out.below HL4.out) (HE.out.below HL4.out) (HP.out.below HL4.out) (HB.out.below HL4.out)).mono ?_); rintro e w5 ⟨rfl, hb⟩
       have HL5 := Lib.hid (bnext HL4.out hb)
       clear hb))
  go_ret
  exact ⟨rfl, HL5.out⟩
set_option maxRecDepth 20000 in
set_option maxHeartbeats 4000000 in
theorem back_bad_good (l m : List InsD) (A B : Option Addr) (n c k d : Nat) (b : List UInt8) (w : World) (T : Tab w) (E : Errs w) (P : Pow w) (R : InsRow w A n c l) (S : Row w B k d (b.map byteV)) (hw : ∀ x ∈ l, x.wf) (hf : ∀ x ∈ l, x.fits) (h0 : codeF l ≠ 0) (hm : Right m) (hb : codeL m = b) :
    Calls Tryd.prog 4 #[.slice A n c, .slice B k d] w fun e w' => e = .returned (.bool true) ∧ Below w.heap.size w w' := by
  have hne : (codeF l != 0) = true := by rw [bne_iff_ne]; exact h0
  have HN := Lib.hid (fun W T P R => (encode_any l A n c W T P R hw hf).mono fun _ _ h => enc_fails h h0)
  have HD2 := Lib.hid (fun W A n c T E P (R : Row W A n c _) => (decode_any b A n c W T E P R).mono fun _ _ h => dec_good hm (hb ▸ h))
  have HN2 := Lib.hid (fun W A n c T P R => (encode_any m A n c W T P R (fun x hx => (hm.2 x hx).1) (fun x hx => good_fits (hm.2 x hx))).mono fun _ _ h => enc_gives h ((codeF_right (fun x hx => (hm.2 x hx).1)).2 hm))
  have HC := Lib.hid (coded_any)
  have HT := Lib.hid T
  have HP := Lib.hid P
  have HE := Lib.hid E
  have HR := Lib.hid R
  have HB := Lib.hid S
  have HX := Lib.hid hb
  clear T P R E S hw hf h0 hm hb
  generalize codeF l = f at *
  go_enter Tryd.func4, Tryd.ntmps4
  go_wp2_with (first
    | (go_at_call 8; (with_reducible refine (HC.out _ HT.out HP.out).mono ?_); rintro e w1 ⟨rfl, hb⟩; have HL := Lib.hid hb; clear hb)
    | (go_at_call 10; (with_reducible refine (HN.out _ (HT.out.below HL.out) (HP.out.below HL.out) (HR.out.below HL.out)).mono ?_); rintro e w2 ⟨rfl, hb⟩
       have HL4 := Lib.hid (bnext HL.out hb)
       clear hb)
    | (go_at_call 13; (with_reducible refine (HD2.out _ _ _ _ (HT.out.below HL4.out) (HE.out.below HL4.out) (HP.out.below HL4.out) (HB.out.below HL4.out)).mono ?_); rintro e w5 ⟨A5, c5, rfl, hr, hb, _⟩
       have HR5 := Lib.hid hr
       have HL5 := Lib.hid (bnext HL4.out hb)
       clear hb hr)
    | (go_at_call 10; (with_reducible refine (HN2.out _ _ _ _ (HT.out.below HL5.out) (HP.out.below HL5.out) HR5.out).mono ?_); rintro e w6 ⟨A6, c6, rfl, hr, hb⟩
       have g6 := conv_row hr
       have gb := conv_row (HB.out.below (bnext HL5.out hb))
       rw [← HX.out] at gb
       have HL6 := Lib.hid (bnext HL5.out hb)
       clear hb hr))
  go_ret
  exact ⟨rfl, HL6.out⟩
set_option maxRecDepth 20000 in
set_option maxHeartbeats 4000000 in
theorem back_bad_bad (l : List InsD) (A B : Option Addr) (n c k d : Nat) (b : List UInt8) (w : World) (T : Tab w) (E : Errs w) (P : Pow w) (R : InsRow w A n c l) (S : Row w B k d (b.map byteV)) (hw : ∀ x ∈ l, x.wf) (hf : ∀ x ∈ l, x.fits) (h0 : codeF l ≠ 0) (hb : ∀ m, Right m → codeL m ≠ b) :
    Calls Tryd.prog 4 #[.slice A n c, .slice B k d] w fun e w' => e = .returned (.bool true) ∧ Below w.heap.size w w' := by
  have hne : (codeF l != 0) = true := by rw [bne_iff_ne]; exact h0
  have HN := Lib.hid (fun W T P R => (encode_any l A n c W T P R hw hf).mono fun _ _ h => enc_fails h h0)
  have HD2 := Lib.hid (fun W A n c T E P (R : Row W A n c _) => (decode_any b A n c W T E P R).mono fun _ _ h => dec_bad hb h)
  have HC := Lib.hid (coded_any)
  have HT := Lib.hid T
  have HP := Lib.hid P
  have HE := Lib.hid E
  have HR := Lib.hid R
  have HB := Lib.hid S
  clear T P R E S hw hf h0 hb
  generalize codeF l = f at *
  go_enter Tryd.func4, Tryd.ntmps4
  go_wp2_with (first
    | (go_at_call 8; (with_reducible refine (HC.out _ HT.out HP.out).mono ?_); rintro e w1 ⟨rfl, hb⟩; have HL := Lib.hid hb; clear hb)
    | (go_at_call 10; (with_reducible refine (HN.out _ (HT.out.below HL.out) (HP.out.below HL.out) (HR.out.below HL.out)).mono ?_); rintro e w2 ⟨rfl, hb⟩
       have HL4 := Lib.hid (bnext HL.out hb)
       clear hb)
    | (go_at_call 13; (with_reducible refine (HD2.out _ _ _ _ (HT.out.below HL4.out) (HE.out.below HL4.out) (HP.out.below HL4.out) (HB.out.below HL4.out)).mono ?_); rintro e w5 ⟨rfl, hb⟩
       have HL5 := Lib.hid (bnext HL4.out hb)
       clear hb))
  go_ret
  exact ⟨rfl, HL5.out⟩
theorem codeBack_walk (l : List InsD) (A B : Option Addr) (n c k d : Nat) (b : List UInt8) (w : World) (T : Tab w) (E : Errs w) (P : Pow w) (R : InsRow w A n c l) (S : Row w B k d (b.map byteV)) (hw : ∀ x ∈ l, x.wf) (hf : ∀ x ∈ l, x.fits) :
    Calls Tryd.prog 4 #[.slice A n c, .slice B k d] w fun e w' => e = .returned (.bool true) ∧ Below w.heap.size w w' := by
  by_cases hb : ∃ m, Right m ∧ codeL m = b
  · obtain ⟨m, hm, hb⟩ := hb
    by_cases h0 : codeF l = 0
    · exact back_good_good l m A B n c k d b w T E P R S hw hf h0 hm hb
    · exact back_bad_good l m A B n c k d b w T E P R S hw hf h0 hm hb
  · have hb' : ∀ m, Right m → codeL m ≠ b := fun m hm h => hb ⟨m, hm, h⟩
    by_cases h0 : codeF l = 0
    · exact back_good_bad l A B n c k d b w T E P R S hw hf h0 hb'
    · exact back_bad_bad l A B n c k d b w T E P R S hw hf h0 hb'
end Go.Proofs.YthnilohilbacpaaDoor
