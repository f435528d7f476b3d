/- The walk of coffeehouselaw2.WorldTells, from what package world says. -/
import Derived.Test.YthcjdkjjjlpjaaaGreatDoorWoL
import Derived.Test.YthcjdkjjjlpjaaaGreatDoorWoS
import Derived.Test.YthcjdkjjjlpjaaaGreatDoorGA
namespace Go.Proofs.YthcjdkjjjlpjaaaGreatDoor
open Go.ChangeShapes Go.WideShapes Go.ChangeAt Go.RowKit
set_option linter.unusedVariables false
attribute [local go_sem] eqGuard_errV_nil eqGuard_errV_iface eql_errV_nil neq_errV_nil eql_errV_form

theorem str_nil (w : World) (A : Option Addr) (c : Nat) : StrRow w A 0 c [] := SRow.nil_ _ _ _
theorem wsame_self (q : Nat) (w : World) : Calls Tryz.prog 6 #[errV q, .int .i64 (q : Int)] w fun e w' => e = .returned (.bool true) ∧ w = w' :=
  (sameError_any q q w).mono fun _ _ ⟨h1, h2⟩ => ⟨by rw [h1]; simp, h2⟩
theorem wsame_zero (w : World) : Calls Tryz.prog 6 #[.nilIface, .int .i64 0] w fun e w' => e = .returned (.bool true) ∧ w = w' := wsame_self 0 w
set_option maxRecDepth 20000 in
set_option maxHeartbeats 8000000 in
theorem worldTells_walk (KC : WorldChecks) (KS : WorldSupers) (KA : WorldAlls) (l : List ClassD) (y : List UInt8) (A : Option Addr) (n c : Nat) (w : World) (T : Tab w) (R : ClassRow w A n c l) (NA : A = none → n = 0 ∧ c = 0) (hu : ∀ x ∈ l, x.upto 1048576) (hw : ∀ x ∈ l, x.wf) (hn : n ≤ 1048576) (hy : y.length ≤ 1048576) :
    Calls Tryz.prog 3 #[.slice A n c, .string (bs y)] w fun e w' => e = .returned (.bool true) ∧ Below w.heap.size w w' := by
  obtain ⟨q, hq⟩ := world_is l
  have hu2 : ∀ x ∈ l, x.upto 140737488351232 := fun x hx => (hu x hx).more (by decide)
  have HLi := Lib.hid (fun W T => lived_any KS W T)
  have HRf := Lib.hid (fun W R => rworld_any l q hq A n c W R hu hw (by omega))
  have HRn := Lib.hid (fun W R => rnamed_any l q hq y A n c W R hu hw (by omega))
  have HCk := Lib.hid (fun W T R => KC l q A n c W hq T R NA hu2 hw (by omega))
  have HSu := Lib.hid (fun W T R => KS l q y A n c W hq T R NA hu2 hw (by omega) (by omega))
  have HAl := Lib.hid (fun W T R => KA l q y A n c W hq T R NA hu2 hw (by omega) (by omega))
  have HSe := Lib.hid wsame_self
  have HSz := Lib.hid wsame_zero
  have HT := Lib.hid T
  have HR := Lib.hid R
  by_cases h0 : namedQ l q y = 0
  · obtain ⟨hq0, hk⟩ := namedQ_zero.1 h0
    have hV : Valid l := worldIs_zero (by rw [hq0] at hq; exact hq)
    obtain ⟨s, hs, hs12⟩ := chain_is hV hk
    have HRs := Lib.hid (fun W R => rsupers_any l y s hs A n c W R (by omega) (by omega))
    have HRe := Lib.hid (fun W R => revery_any l hV y hk A n c W R (by omega))
    have HCh := Lib.hid hs
    rw [h0] at HRn HSu HAl
    replace HSu := Lib.hid (fun W T R => (HSu.out W T R).mono fun e w' h => lists_ok rfl h)
    replace HAl := Lib.hid (fun W T R => (HAl.out W T R).mono fun e w' h => lists_ok rfl h)
    clear hV hk hs h0 hq0 hq hu hu2 hw KC KS KA T R NA
    go_enter Tryz.func3, Tryz.ntmps3
    go_wp2_with (first
      | (go_at_call 4; (with_reducible refine (HLi.out _ HT.out).mono ?_); rintro e w1 ⟨rfl, hb⟩
         have HB1 := Lib.hid hb
         clear hb)
      | (go_at_call 5; (with_reducible refine (HRf.out _ (ClassRow.below HR.out HB1.out)).mono ?_); rintro e w2 ⟨rfl, hb⟩
         have HB2 := Lib.hid (bnext HB1.out hb)
         clear hb)
      | (go_at_call 7; (with_reducible refine (HCk.out _ (HT.out.below HB2.out) (ClassRow.below HR.out HB2.out)).mono ?_); rintro e w3 ⟨rfl, hb⟩
         have HB3 := Lib.hid (bnext HB2.out hb)
         clear hb)
      | (go_at_call 6; (with_reducible refine (HSe.out _ _).mono ?_); rintro e w9 ⟨rfl, rfl⟩)
      | (go_at_call 6; (with_reducible refine (HSz.out _).mono ?_); rintro e w9 ⟨rfl, rfl⟩)
      | (go_at_call 8; (with_reducible refine (HRn.out _ (ClassRow.below HR.out HB3.out)).mono ?_); rintro e w4 ⟨rfl, hb⟩
         have HB4 := Lib.hid (bnext HB3.out hb)
         clear hb)
      | (go_at_call 9; (with_reducible refine (HSu.out _ (HT.out.below HB4.out) (ClassRow.below HR.out HB4.out)).mono ?_); rintro e w5 ⟨A5, s5, c5, rfl, hv, hrel, h13, hb⟩
         obtain rfl := hrel.one HCh.out
         have HV5 := Lib.hid hv.row
         have HB5 := Lib.hid (bnext HB4.out hb)
         clear hv hb hrel h13)
      | (go_at_call 10; (with_reducible refine (HAl.out _ (HT.out.below HB5.out) (ClassRow.below HR.out HB5.out)).mono ?_); rintro e w6 ⟨A6, s6, c6, rfl, hv, hrel, h13, hb⟩
         have HV6 := Lib.hid hv.row
         have HS6 := Lib.hid hrel
         have HV56 := Lib.hid (HV5.out.below hb)
         have HB6 := Lib.hid (bnext HB5.out hb)
         clear hv hb hrel)
      | (go_at_call 11; (with_reducible refine (HRs.out _ (ClassRow.below HR.out HB6.out)).mono ?_); rintro e w7 ⟨v7, rfl, hv, hb⟩
         obtain ⟨A7, c7, rfl⟩ := hv.form
         have HV7 := Lib.hid hv.row
         have HV57 := Lib.hid (HV56.out.below hb)
         have HV67 := Lib.hid (HV6.out.below hb)
         have HB7 := Lib.hid (bnext HB6.out hb)
         clear hv hb)
      | (go_at_call 12; (with_reducible refine (HRe.out _ (ClassRow.below HR.out HB7.out)).mono ?_); rintro e w8 ⟨s8, hrel, h13', v8, rfl, hv, hb⟩
         obtain rfl := hrel.one HS6.out
         obtain ⟨A8, c8, rfl⟩ := hv.form
         have HV8 := Lib.hid hv.row
         have HV58 := Lib.hid (HV57.out.below hb)
         have HV68 := Lib.hid (HV67.out.below hb)
         have HV78 := Lib.hid (HV7.out.below hb)
         have HB8 := Lib.hid (bnext HB7.out hb)
         clear hv hb hrel)
      | (go_at_call 13; (with_reducible refine (texts_same_ _ _ _ _ _ _ _ _ HV58.out HV78.out (by omega)).mono ?_); rintro e w9 ⟨rfl, k, rfl⟩
         have HV69 := Lib.hid (HV68.out.below (below_drawn (Below.refl _ _) k))
         have HV89 := Lib.hid (HV8.out.below (below_drawn (Below.refl _ _) k)))
      | (go_at_call 13; (with_reducible refine (texts_same_ _ _ _ _ _ _ _ _ HV69.out HV89.out (by omega)).mono ?_); rintro e w10 ⟨rfl, k2, rfl⟩))
    go_ret
    exact ⟨rfl, below_drawn HB8.out _⟩
  · replace HSu := Lib.hid (fun W T R => (HSu.out W T R).mono fun e w' h => lists_bad h0 h)
    replace HAl := Lib.hid (fun W T R => (HAl.out W T R).mono fun e w' h => lists_bad h0 h)
    have hne : ((namedQ l q y : Int) == 0) = false := by rw [beq_eq_false_iff_ne]; omega
    clear h0 hq hu hu2 hw KC KS KA T R NA
    generalize namedQ l q y = f at *
    go_enter Tryz.func3, Tryz.ntmps3
    go_wp2_with (first
      | (go_at_call 4; (with_reducible refine (HLi.out _ HT.out).mono ?_); rintro e w1 ⟨rfl, hb⟩
         have HB1 := Lib.hid hb
         clear hb)
      | (go_at_call 5; (with_reducible refine (HRf.out _ (ClassRow.below HR.out HB1.out)).mono ?_); rintro e w2 ⟨rfl, hb⟩
         have HB2 := Lib.hid (bnext HB1.out hb)
         clear hb)
      | (go_at_call 7; (with_reducible refine (HCk.out _ (HT.out.below HB2.out) (ClassRow.below HR.out HB2.out)).mono ?_); rintro e w3 ⟨rfl, hb⟩
         have HB3 := Lib.hid (bnext HB2.out hb)
         clear hb)
      | (go_at_call 6; (with_reducible refine (HSe.out _ _).mono ?_); rintro e w9 ⟨rfl, rfl⟩)
      | (go_at_call 8; (with_reducible refine (HRn.out _ (ClassRow.below HR.out HB3.out)).mono ?_); rintro e w4 ⟨rfl, hb⟩
         have HB4 := Lib.hid (bnext HB3.out hb)
         clear hb)
      | (go_at_call 9; (with_reducible refine (HSu.out _ (HT.out.below HB4.out) (ClassRow.below HR.out HB4.out)).mono ?_); rintro e w5 ⟨A5, c5, rfl, hv, hb⟩
         have HV5 := Lib.hid (show StrRow w5 A5 0 c5 [] from hv.row)
         have HB5 := Lib.hid (bnext HB4.out hb)
         clear hv hb)
      | (go_at_call 10; (with_reducible refine (HAl.out _ (HT.out.below HB5.out) (ClassRow.below HR.out HB5.out)).mono ?_); rintro e w6 ⟨A6, c6, rfl, hv, hb⟩
         have HV6 := Lib.hid (show StrRow w6 A6 0 c6 [] from hv.row)
         have HV56 := Lib.hid (HV5.out.below hb)
         have HB6 := Lib.hid (bnext HB5.out hb)
         clear hv hb)
      | (go_at_call 13; (with_reducible refine (texts_same_ _ _ _ _ _ _ _ _ HV56.out (str_nil _ _ _) (by decide)).mono ?_); rintro e w9 ⟨rfl, k, rfl⟩
         have HV69 := Lib.hid (HV6.out.below (below_drawn (Below.refl _ _) k)))
      | (go_at_call 13; (with_reducible refine (texts_same_ _ _ _ _ _ _ _ _ HV69.out (str_nil _ _ _) (by decide)).mono ?_); rintro e w10 ⟨rfl, k2, rfl⟩))
    go_ret
    exact ⟨rfl, below_drawn HB6.out _⟩
end Go.Proofs.YthcjdkjjjlpjaaaGreatDoor
