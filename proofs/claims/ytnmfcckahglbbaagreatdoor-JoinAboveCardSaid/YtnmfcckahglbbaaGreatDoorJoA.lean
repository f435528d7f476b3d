/- The walk of coffeehouselaw2.JoinAbove, from what packages join and sub say. -/
import Derived.Test.YtnmfcckahglbbaaGreatDoorJoC
namespace Go.Proofs.YtnmfcckahglbbaaGreatDoor
open Go.ChangeShapes Go.WideShapes Go.ChangeAt Go.RowKit
set_option linter.unusedVariables false
attribute [local go_sem] eqGuard_errV_nil eqGuard_errV_iface eql_errV_nil neq_errV_nil eql_errV_form

set_option maxRecDepth 20000 in
set_option maxHeartbeats 8000000 in
theorem joinAbove_walk (KJ : JoinJoins) (KB : JoinBelows) (KF : SubFits) (l : List ClassD) (a b c : List UInt8) (A : Option Addr) (n m : Nat) (w : World) (T : Tab w) (R : ClassRow w A n m l) (NA : A = none → n = 0 ∧ m = 0) (hu : ∀ x ∈ l, x.upto 140737488351232) (hw : ∀ x ∈ l, x.wf) (hn : n ≤ 140737488351232)
    (ha : a.length ≤ 140737488355328) (hb : b.length ≤ 140737488355328) (hc : c.length ≤ 140737488355328) :
    Calls Tryz.prog 5 #[.slice A n m, .string (bs a), .string (bs b), .string (bs c)] w fun e w' => e = .returned (.bool true) ∧ Below w.heap.size w w' := by
  obtain ⟨q, hq⟩ := world_is l
  obtain ⟨k, hk, nk⟩ := join_ex l q a b
  obtain ⟨x, hx⟩ := bool_is (kindsQ l q a k = 0 ∧ FitsT l a k)
  obtain ⟨y, hy⟩ := bool_is (kindsQ l q b k = 0 ∧ FitsT l b k)
  obtain ⟨p, hp⟩ := bool_is (kindsQ l q a c = 0 ∧ JoinT l a c c)
  obtain ⟨r, hr⟩ := bool_is (kindsQ l q b c = 0 ∧ JoinT l b c c)
  obtain ⟨s, hs⟩ := bool_is (kindsQ l q k c = 0 ∧ JoinT l k c c)
  have lk := joinT_len hq hk nk
  have HC := Lib.hid (fun W T => catJoins_any KJ W T)
  have H1 := Lib.hid (fun W T R => KJ l q a b k A n m W hq hk nk T R NA hu hw hn (by omega) (by omega))
  have H2 := Lib.hid (fun W T R => KF l q a k x A n m W hq hx T R NA hu hw hn (by omega) (by omega))
  have H3 := Lib.hid (fun W T R => KF l q b k y A n m W hq hy T R NA hu hw hn (by omega) (by omega))
  have H4 := Lib.hid (fun W T R => KB l q a c p A n m W hq hp T R NA hu hw hn (by omega) (by omega))
  have H5 := Lib.hid (fun W T R => KB l q b c r A n m W hq hr T R NA hu hw hn (by omega) (by omega))
  have H6 := Lib.hid (fun W T R => KB l q k c s A n m W hq hs T R NA hu hw hn (by omega) (by omega))
  have HO := Lib.hid (above_facts hq hk hx hy hp hr hs)
  have HT := Lib.hid T
  have HR := Lib.hid R
  generalize kindsQ l q a b = q1 at H1 HO
  generalize kindsQ l q a k = q2 at H2 HO
  generalize kindsQ l q b k = q3 at H3 HO
  generalize kindsQ l q a c = q4 at H4
  generalize kindsQ l q b c = q5 at H5
  generalize kindsQ l q k c = q6 at H6 HO
  clear hk nk hx hy hp hr hs hq KJ KB KF T R NA hu hw hn ha hb hc lk
  by_cases hz : q1 = 0
  · subst hz
    obtain ⟨rfl, rfl, rfl, rfl, hlast⟩ := HO.out rfl
    have HL := Lib.hid hlast
    clear HO hlast
    go_enter Tryz.func5, Tryz.ntmps5
    go_wp2_with (first
      | (go_at_call 7; (with_reducible refine (HC.out _ HT.out).mono ?_); rintro e w1 ⟨rfl, hb⟩
         have HB1 := Lib.hid hb
         clear hb)
      | (go_at_call 9; (with_reducible refine (H1.out _ (HT.out.below HB1.out) (ClassRow.below HR.out HB1.out)).mono ?_); rintro e w2 ⟨rfl, hb⟩
         have HB2 := Lib.hid (bnext HB1.out hb)
         clear hb)
      | (go_at_call 13; (with_reducible refine (H2.out _ (HT.out.below HB2.out) (ClassRow.below HR.out HB2.out)).mono ?_); rintro e w3 ⟨rfl, hb⟩
         have HB3 := Lib.hid (bnext HB2.out hb)
         clear hb)
      | (go_at_call 13; (with_reducible refine (H3.out _ (HT.out.below HB3.out) (ClassRow.below HR.out HB3.out)).mono ?_); rintro e w4 ⟨rfl, hb⟩
         have HB4 := Lib.hid (bnext HB3.out hb)
         clear hb)
      | (go_at_call 11; (with_reducible refine (H4.out _ (HT.out.below HB4.out) (ClassRow.below HR.out HB4.out)).mono ?_); rintro e w5 ⟨rfl, hb⟩
         have HB5 := Lib.hid (bnext HB4.out hb)
         clear hb)
      | (go_at_call 11; (with_reducible refine (H5.out _ (HT.out.below HB5.out) (ClassRow.below HR.out HB5.out)).mono ?_); rintro e w6 ⟨rfl, hb⟩
         have HB6 := Lib.hid (bnext HB5.out hb)
         clear hb)
      | (go_at_call 11; (with_reducible refine (H6.out _ (HT.out.below HB6.out) (ClassRow.below HR.out HB6.out)).mono ?_); rintro e w7 ⟨rfl, hb⟩
         have HB7 := Lib.hid (bnext HB6.out hb)
         clear hb))
    all_goals (
      go_ret
      refine ⟨?_, HB7.out⟩
      clear HC H1 H2 H3 H4 H5 H6 HT HR HB1 HB2 HB3 HB4 HB5 HB6 HB7
      have hlast := HL.out
      clear HL
      first
      | rfl
      | simp_all)
  · have hne := bne_iff_ne.2 hz
    clear HO H2 H3 H4 H5 H6 hz
    go_enter Tryz.func5, Tryz.ntmps5
    go_wp2_with (first
      | (go_at_call 7; (with_reducible refine (HC.out _ HT.out).mono ?_); rintro e w1 ⟨rfl, hb⟩
         have HB1 := Lib.hid hb
         clear hb)
      | (go_at_call 9; (with_reducible refine (H1.out _ (HT.out.below HB1.out) (ClassRow.below HR.out HB1.out)).mono ?_); rintro e w2 ⟨rfl, hb⟩
         have HB2 := Lib.hid (bnext HB1.out hb)
         clear hb))
    go_ret
    exact ⟨rfl, HB2.out⟩
end Go.Proofs.YtnmfcckahglbbaaGreatDoor
