/- The walk of coffeehouselaw2.SubTells, from what package sub says. -/
import Derived.Test.YtdpkjmdmmhnfnaaGreatDoorKiO
import Derived.Test.YtdpkjmdmmhnfnaaGreatDoorWoE
import Derived.Test.YtdpkjmdmmhnfnaaGreatDoorGE
import Derived.Test.YtdpkjmdmmhnfnaaGreatDoorSame
namespace Go.Proofs.YtdpkjmdmmhnfnaaGreatDoor
open Go.ChangeShapes Go.WideShapes Go.ChangeAt Go.RowKit
set_option linter.unusedVariables false
attribute [local go_sem] eqGuard_errV_nil eqGuard_errV_iface eql_errV_nil neq_errV_nil eql_errV_form

/-- The reference's Fits on texts. -/
theorem rfitsT_any (l : List ClassD) (q : Nat) (hq : WorldIs l q) (a b : List UInt8) (β : Bool) (hβ : β = true ↔ kindsQ l q a b = 0 ∧ FitsT l a b) (A : Option Addr) (n c : Nat) (hn : n ≤ 140737488351232) (h : kindsQ l q a b = 0) (w : World) (R : ClassRow w A n c l) :
    Calls Tryz.prog 11 #[.slice A n c, .string (bs a), .string (bs b)] w fun e w' => e = .returned (.bool β) ∧ Below w.heap.size w w' := by
  obtain ⟨hq0, ha, hb⟩ := kindsQ_zero.1 h
  have hV : Valid l := worldIs_zero (by rw [hq0] at hq; exact hq)
  obtain ⟨x, hx, rfl⟩ := kind_is (w := l) (l := a) (by omega)
  obtain ⟨y, hy, rfl⟩ := kind_is (w := l) (l := b) (by omega)
  rw [fitsT_iff hx hy] at hβ
  exact rfits_any l hV A n c hn _ x y rfl hx hy ha hb β (hβ.trans ⟨fun h' => h'.2, fun h' => ⟨h, h'⟩⟩) w R
theorem sorted_in {l : List ClassD} {q : Nat} {a b : List UInt8} {s : List (List UInt8)} {γ : Bool} (hs : Sorted l a s) (hγ : γ = true ↔ isQ l q a b = 0 ∧ (b = a ∨ Up l a b)) (h : isQ l q a b = 0) : s.any (· == b) = γ := by
  rw [Bool.eq_iff_iff, hγ, List.any_eq_true]
  constructor
  · rintro ⟨x, hx, e⟩
    rw [eq_of_beq e] at hx
    exact ⟨h, (hs.2 b).1 hx⟩
  · exact fun h' => ⟨b, (hs.2 b).2 h'.2, by simp⟩
theorem ksame_self (q : Nat) (w : World) : Calls Tryz.prog 10 #[errV q, .int .i64 (q : Int)] w fun e w' => e = .returned (.bool true) ∧ w = w' :=
  (sameError_any q q w).mono fun _ _ ⟨h1, h2⟩ => ⟨by rw [h1]; simp, h2⟩
theorem ksame_lit (w : World) : Calls Tryz.prog 10 #[errV 0, .int .i64 0] w fun e w' => e = .returned (.bool true) ∧ w = w' := ksame_self 0 w
set_option maxRecDepth 20000 in
set_option maxHeartbeats 8000000 in
theorem subTells_walk (KF : SubFits) (KI : SubIs) (l : List ClassD) (a b : List UInt8) (A : Option Addr) (n k : Nat) (w : World) (T : Tab w) (R : ClassRow w A n k l) (NA : A = none → n = 0 ∧ k = 0) (hu : ∀ x ∈ l, x.upto 1048576) (hw : ∀ x ∈ l, x.wf) (hn : n ≤ 1048576) (ha : a.length ≤ 1048576) (hb : b.length ≤ 1048576) :
    Calls Tryz.prog 3 #[.slice A n k, .string (bs a), .string (bs b)] w fun e w' => e = .returned (.bool true) ∧ Below w.heap.size w w' := by
  obtain ⟨q, hq⟩ := world_is l
  obtain ⟨β, hβ⟩ := bool_is (kindsQ l q a b = 0 ∧ FitsT l a b)
  obtain ⟨γ, hγ⟩ := bool_is (isQ l q a b = 0 ∧ (b = a ∨ Up l a b))
  have hu2 : ∀ x ∈ l, x.upto 140737488351232 := fun x hx => (hu x hx).more (by decide)
  have HC := Lib.hid (fun W T => catIs_any KI W T)
  have HK := Lib.hid (fun W R => rkindsFault_any l q hq a b A n k W R hu hw (by omega) (by omega) (by omega))
  have HF := Lib.hid (fun W T R => KF l q a b β A n k W hq hβ T R NA hu2 hw (by omega) (by omega) (by omega))
  have HI := Lib.hid (fun W T R => KI l q a b γ A n k W hq hγ T R NA hu2 hw (by omega) (by omega) (by omega))
  have HRf := Lib.hid (rfitsT_any l q hq a b β hβ A n k (by omega))
  have HN1 := Lib.hid (fun W R => rnamed_any l q hq a A n k W R hu hw (by omega))
  have HN2 := Lib.hid (fun W R => rnamed_any l q hq b A n k W R hu hw (by omega))
  have HE := Lib.hid (fun (h : isQ l q a b = 0) W R => revery_any l (worldIs_zero (by rw [(isQ_zero.1 h).1] at hq; exact hq)) a (isQ_zero.1 h).2.1 A n k W R (by omega))
  have HS := Lib.hid (fun s (hs : Sorted l a s) => sorted_in (q := q) (b := b) hs hγ)
  have HSe := Lib.hid (fun q1 w => ksame_self q1 w)
  have HSz := Lib.hid ksame_lit
  have HT := Lib.hid T
  have HR := Lib.hid R
  clear KF KI T R NA hu hu2 hw hn ha hb hq
  rcases Nat.eq_zero_or_pos (kindsQ l q a b) with hk | hk
  · replace HRf := Lib.hid (HRf.out hk)
    rw [hk] at HK HF
    clear hβ hk
    rcases Nat.eq_zero_or_pos (namedQ l q a) with h1 | h1
    · have hI2 : isQ l q a b = namedQ l q b := if_neg (by simpa using h1)
      rcases Nat.eq_zero_or_pos (namedQ l q b) with h2 | h2
      · have hI3 : isQ l q a b = 0 := by rw [hI2, h2]
        replace HE := Lib.hid (HE.out hI3)
        replace HS := Lib.hid (fun s hs => HS.out s hs hI3)
        rw [h1] at HN1
        rw [h2] at HN2
        rw [hI3] at HI
        clear h1 h2 hI2 hI3 hγ
        go_enter Tryz.func3, Tryz.ntmps3
        go_wp2_with (first
        | (go_at_call 7; (with_reducible refine (HC.out _ HT.out).mono ?_); rintro e w1 ⟨rfl, hb⟩
           have HB1 := Lib.hid hb
           clear hb)
        | (go_at_call 8; (with_reducible refine (HK.out _ (ClassRow.below HR.out HB1.out)).mono ?_); rintro e w2 ⟨rfl, hb⟩
           have HB2 := Lib.hid (bnext HB1.out hb)
           clear hb)
        | (go_at_call 9; (with_reducible refine (HF.out _ (HT.out.below HB2.out) (ClassRow.below HR.out HB2.out)).mono ?_); rintro e w3 ⟨rfl, hb⟩
           have HB3 := Lib.hid (bnext HB2.out hb)
           clear hb)
        | (go_at_call 10; (with_reducible refine (HSe.out _ _).mono ?_); rintro e w9 ⟨rfl, rfl⟩)
        | (go_at_call 10; (with_reducible refine (HSz.out _).mono ?_); rintro e w9 ⟨rfl, rfl⟩)
        | (go_at_call 11; (with_reducible refine (HRf.out _ (ClassRow.below HR.out HB3.out)).mono ?_); rintro e w4 ⟨rfl, hb⟩
           have HB4 := Lib.hid (bnext HB3.out hb)
           clear hb)
        | (go_at_call 12; (with_reducible refine (HN1.out _ (ClassRow.below HR.out HB4.out)).mono ?_); rintro e w5 ⟨rfl, hb⟩
           have HB5 := Lib.hid (bnext HB4.out hb)
           clear hb)
        | (go_at_call 12; (with_reducible refine (HN2.out _ (ClassRow.below HR.out HB5.out)).mono ?_); rintro e w6 ⟨rfl, hb⟩
           have HB6 := Lib.hid (bnext HB5.out hb)
           clear hb)
        | (go_at_call 13; (with_reducible refine (HI.out _ (HT.out.below HB6.out) (ClassRow.below HR.out HB6.out)).mono ?_); rintro e w7 ⟨rfl, hb⟩
           have HB7 := Lib.hid (bnext HB6.out hb)
           clear hb)
        | (go_at_call 15; (with_reducible refine (HE.out _ (ClassRow.below HR.out HB7.out)).mono ?_); rintro e w8 ⟨s8, hrel, h13, v8, rfl, hv, hb⟩
           have HX := Lib.hid (HS.out s8 hrel)
           obtain ⟨A8, c8, rfl⟩ := hv.form
           have HV8 := Lib.hid hv.row
           have HB8 := Lib.hid (bnext HB7.out hb)
           clear hv hb hrel)
        | (go_at_call 14; (with_reducible refine (rin_any _ _ _ _ b _ HV8.out (by omega)).mono ?_); rintro e w10 ⟨rfl, rfl⟩
           rw [HX.out]))
        go_ret
        exact ⟨by simp, HB8.out⟩
      · obtain rfl : γ = false := by cases h : γ with | false => rfl | true => exact absurd (hγ.1 h).1 (by omega)
        rw [h1] at HN1
        rw [hI2] at HI
        have hf : ((namedQ l q b : Int) == 0) = false := by rw [beq_eq_false_iff_ne]; omega
        clear hγ h1 h2 hI2 HE HS
        generalize namedQ l q b = f2 at HN2 HI hf
        go_enter Tryz.func3, Tryz.ntmps3
        go_wp2_with (first
        | (go_at_call 7; (with_reducible refine (HC.out _ HT.out).mono ?_); rintro e w1 ⟨rfl, hb⟩
           have HB1 := Lib.hid hb
           clear hb)
        | (go_at_call 8; (with_reducible refine (HK.out _ (ClassRow.below HR.out HB1.out)).mono ?_); rintro e w2 ⟨rfl, hb⟩
           have HB2 := Lib.hid (bnext HB1.out hb)
           clear hb)
        | (go_at_call 9; (with_reducible refine (HF.out _ (HT.out.below HB2.out) (ClassRow.below HR.out HB2.out)).mono ?_); rintro e w3 ⟨rfl, hb⟩
           have HB3 := Lib.hid (bnext HB2.out hb)
           clear hb)
        | (go_at_call 10; (with_reducible refine (HSe.out _ _).mono ?_); rintro e w9 ⟨rfl, rfl⟩)
        | (go_at_call 10; (with_reducible refine (HSz.out _).mono ?_); rintro e w9 ⟨rfl, rfl⟩)
        | (go_at_call 11; (with_reducible refine (HRf.out _ (ClassRow.below HR.out HB3.out)).mono ?_); rintro e w4 ⟨rfl, hb⟩
           have HB4 := Lib.hid (bnext HB3.out hb)
           clear hb)
        | (go_at_call 12; (with_reducible refine (HN1.out _ (ClassRow.below HR.out HB4.out)).mono ?_); rintro e w5 ⟨rfl, hb⟩
           have HB5 := Lib.hid (bnext HB4.out hb)
           clear hb)
        | (go_at_call 12; (with_reducible refine (HN2.out _ (ClassRow.below HR.out HB5.out)).mono ?_); rintro e w6 ⟨rfl, hb⟩
           have HB6 := Lib.hid (bnext HB5.out hb)
           clear hb)
        | (go_at_call 13; (with_reducible refine (HI.out _ (HT.out.below HB6.out) (ClassRow.below HR.out HB6.out)).mono ?_); rintro e w7 ⟨rfl, hb⟩
           have HB7 := Lib.hid (bnext HB6.out hb)
           clear hb))
        go_ret
        exact ⟨by simp, HB7.out⟩
    · have hI1 : isQ l q a b = namedQ l q a := if_pos (by omega)
      obtain rfl : γ = false := by cases h : γ with | false => rfl | true => exact absurd (hγ.1 h).1 (by omega)
      rw [hI1] at HI
      have hf : ((namedQ l q a : Int) == 0) = false := by rw [beq_eq_false_iff_ne]; omega
      clear hγ h1 hI1 HE HS HN2
      generalize namedQ l q a = f1 at HN1 HI hf
      go_enter Tryz.func3, Tryz.ntmps3
      go_wp2_with (first
      | (go_at_call 7; (with_reducible refine (HC.out _ HT.out).mono ?_); rintro e w1 ⟨rfl, hb⟩
         have HB1 := Lib.hid hb
         clear hb)
      | (go_at_call 8; (with_reducible refine (HK.out _ (ClassRow.below HR.out HB1.out)).mono ?_); rintro e w2 ⟨rfl, hb⟩
         have HB2 := Lib.hid (bnext HB1.out hb)
         clear hb)
      | (go_at_call 9; (with_reducible refine (HF.out _ (HT.out.below HB2.out) (ClassRow.below HR.out HB2.out)).mono ?_); rintro e w3 ⟨rfl, hb⟩
         have HB3 := Lib.hid (bnext HB2.out hb)
         clear hb)
      | (go_at_call 10; (with_reducible refine (HSe.out _ _).mono ?_); rintro e w9 ⟨rfl, rfl⟩)
      | (go_at_call 10; (with_reducible refine (HSz.out _).mono ?_); rintro e w9 ⟨rfl, rfl⟩)
      | (go_at_call 11; (with_reducible refine (HRf.out _ (ClassRow.below HR.out HB3.out)).mono ?_); rintro e w4 ⟨rfl, hb⟩
         have HB4 := Lib.hid (bnext HB3.out hb)
         clear hb)
      | (go_at_call 12; (with_reducible refine (HN1.out _ (ClassRow.below HR.out HB4.out)).mono ?_); rintro e w5 ⟨rfl, hb⟩
         have HB5 := Lib.hid (bnext HB4.out hb)
         clear hb)
      | (go_at_call 13; (with_reducible refine (HI.out _ (HT.out.below HB5.out) (ClassRow.below HR.out HB5.out)).mono ?_); rintro e w7 ⟨rfl, hb⟩
         have HB7 := Lib.hid (bnext HB5.out hb)
         clear hb))
      go_ret
      exact ⟨by simp, HB7.out⟩
  · obtain rfl : β = false := by cases h : β with | false => rfl | true => exact absurd (hβ.1 h).1 (by omega)
    clear hβ HRf
    have hk0 : ((kindsQ l q a b : Int) == 0) = false := by rw [beq_eq_false_iff_ne]; omega
    clear hk
    generalize kindsQ l q a b = q1 at HK HF hk0
    rcases Nat.eq_zero_or_pos (namedQ l q a) with h1 | h1
    · have hI2 : isQ l q a b = namedQ l q b := if_neg (by simpa using h1)
      rcases Nat.eq_zero_or_pos (namedQ l q b) with h2 | h2
      · have hI3 : isQ l q a b = 0 := by rw [hI2, h2]
        replace HE := Lib.hid (HE.out hI3)
        replace HS := Lib.hid (fun s hs => HS.out s hs hI3)
        rw [h1] at HN1
        rw [h2] at HN2
        rw [hI3] at HI
        clear h1 h2 hI2 hI3 hγ
        go_enter Tryz.func3, Tryz.ntmps3
        go_wp2_with (first
        | (go_at_call 7; (with_reducible refine (HC.out _ HT.out).mono ?_); rintro e w1 ⟨rfl, hb⟩
           have HB1 := Lib.hid hb
           clear hb)
        | (go_at_call 8; (with_reducible refine (HK.out _ (ClassRow.below HR.out HB1.out)).mono ?_); rintro e w2 ⟨rfl, hb⟩
           have HB2 := Lib.hid (bnext HB1.out hb)
           clear hb)
        | (go_at_call 9; (with_reducible refine (HF.out _ (HT.out.below HB2.out) (ClassRow.below HR.out HB2.out)).mono ?_); rintro e w3 ⟨rfl, hb⟩
           have HB3 := Lib.hid (bnext HB2.out hb)
           clear hb)
        | (go_at_call 10; (with_reducible refine (HSe.out _ _).mono ?_); rintro e w9 ⟨rfl, rfl⟩)
        | (go_at_call 10; (with_reducible refine (HSz.out _).mono ?_); rintro e w9 ⟨rfl, rfl⟩)
        | (go_at_call 12; (with_reducible refine (HN1.out _ (ClassRow.below HR.out HB3.out)).mono ?_); rintro e w5 ⟨rfl, hb⟩
           have HB5 := Lib.hid (bnext HB3.out hb)
           clear hb)
        | (go_at_call 12; (with_reducible refine (HN2.out _ (ClassRow.below HR.out HB5.out)).mono ?_); rintro e w6 ⟨rfl, hb⟩
           have HB6 := Lib.hid (bnext HB5.out hb)
           clear hb)
        | (go_at_call 13; (with_reducible refine (HI.out _ (HT.out.below HB6.out) (ClassRow.below HR.out HB6.out)).mono ?_); rintro e w7 ⟨rfl, hb⟩
           have HB7 := Lib.hid (bnext HB6.out hb)
           clear hb)
        | (go_at_call 15; (with_reducible refine (HE.out _ (ClassRow.below HR.out HB7.out)).mono ?_); rintro e w8 ⟨s8, hrel, h13, v8, rfl, hv, hb⟩
           have HX := Lib.hid (HS.out s8 hrel)
           obtain ⟨A8, c8, rfl⟩ := hv.form
           have HV8 := Lib.hid hv.row
           have HB8 := Lib.hid (bnext HB7.out hb)
           clear hv hb hrel)
        | (go_at_call 14; (with_reducible refine (rin_any _ _ _ _ b _ HV8.out (by omega)).mono ?_); rintro e w10 ⟨rfl, rfl⟩
           rw [HX.out]))
        go_ret
        exact ⟨by simp, HB8.out⟩
      · obtain rfl : γ = false := by cases h : γ with | false => rfl | true => exact absurd (hγ.1 h).1 (by omega)
        rw [h1] at HN1
        rw [hI2] at HI
        have hf : ((namedQ l q b : Int) == 0) = false := by rw [beq_eq_false_iff_ne]; omega
        clear hγ h1 h2 hI2 HE HS
        generalize namedQ l q b = f2 at HN2 HI hf
        go_enter Tryz.func3, Tryz.ntmps3
        go_wp2_with (first
        | (go_at_call 7; (with_reducible refine (HC.out _ HT.out).mono ?_); rintro e w1 ⟨rfl, hb⟩
           have HB1 := Lib.hid hb
           clear hb)
        | (go_at_call 8; (with_reducible refine (HK.out _ (ClassRow.below HR.out HB1.out)).mono ?_); rintro e w2 ⟨rfl, hb⟩
           have HB2 := Lib.hid (bnext HB1.out hb)
           clear hb)
        | (go_at_call 9; (with_reducible refine (HF.out _ (HT.out.below HB2.out) (ClassRow.below HR.out HB2.out)).mono ?_); rintro e w3 ⟨rfl, hb⟩
           have HB3 := Lib.hid (bnext HB2.out hb)
           clear hb)
        | (go_at_call 10; (with_reducible refine (HSe.out _ _).mono ?_); rintro e w9 ⟨rfl, rfl⟩)
        | (go_at_call 10; (with_reducible refine (HSz.out _).mono ?_); rintro e w9 ⟨rfl, rfl⟩)
        | (go_at_call 12; (with_reducible refine (HN1.out _ (ClassRow.below HR.out HB3.out)).mono ?_); rintro e w5 ⟨rfl, hb⟩
           have HB5 := Lib.hid (bnext HB3.out hb)
           clear hb)
        | (go_at_call 12; (with_reducible refine (HN2.out _ (ClassRow.below HR.out HB5.out)).mono ?_); rintro e w6 ⟨rfl, hb⟩
           have HB6 := Lib.hid (bnext HB5.out hb)
           clear hb)
        | (go_at_call 13; (with_reducible refine (HI.out _ (HT.out.below HB6.out) (ClassRow.below HR.out HB6.out)).mono ?_); rintro e w7 ⟨rfl, hb⟩
           have HB7 := Lib.hid (bnext HB6.out hb)
           clear hb))
        go_ret
        exact ⟨by simp, HB7.out⟩
    · have hI1 : isQ l q a b = namedQ l q a := if_pos (by omega)
      obtain rfl : γ = false := by cases h : γ with | false => rfl | true => exact absurd (hγ.1 h).1 (by omega)
      rw [hI1] at HI
      have hf : ((namedQ l q a : Int) == 0) = false := by rw [beq_eq_false_iff_ne]; omega
      clear hγ h1 hI1 HE HS HN2
      generalize namedQ l q a = f1 at HN1 HI hf
      go_enter Tryz.func3, Tryz.ntmps3
      go_wp2_with (first
      | (go_at_call 7; (with_reducible refine (HC.out _ HT.out).mono ?_); rintro e w1 ⟨rfl, hb⟩
         have HB1 := Lib.hid hb
         clear hb)
      | (go_at_call 8; (with_reducible refine (HK.out _ (ClassRow.below HR.out HB1.out)).mono ?_); rintro e w2 ⟨rfl, hb⟩
         have HB2 := Lib.hid (bnext HB1.out hb)
         clear hb)
      | (go_at_call 9; (with_reducible refine (HF.out _ (HT.out.below HB2.out) (ClassRow.below HR.out HB2.out)).mono ?_); rintro e w3 ⟨rfl, hb⟩
         have HB3 := Lib.hid (bnext HB2.out hb)
         clear hb)
      | (go_at_call 10; (with_reducible refine (HSe.out _ _).mono ?_); rintro e w9 ⟨rfl, rfl⟩)
      | (go_at_call 10; (with_reducible refine (HSz.out _).mono ?_); rintro e w9 ⟨rfl, rfl⟩)
      | (go_at_call 12; (with_reducible refine (HN1.out _ (ClassRow.below HR.out HB3.out)).mono ?_); rintro e w5 ⟨rfl, hb⟩
         have HB5 := Lib.hid (bnext HB3.out hb)
         clear hb)
      | (go_at_call 13; (with_reducible refine (HI.out _ (HT.out.below HB5.out) (ClassRow.below HR.out HB5.out)).mono ?_); rintro e w7 ⟨rfl, hb⟩
         have HB7 := Lib.hid (bnext HB5.out hb)
         clear hb))
      go_ret
      exact ⟨by simp, HB7.out⟩
end Go.Proofs.YtdpkjmdmmhnfnaaGreatDoor
