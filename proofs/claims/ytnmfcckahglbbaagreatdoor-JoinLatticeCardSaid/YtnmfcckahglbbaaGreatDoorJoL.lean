/- The walk of coffeehouselaw2.JoinLattice, from what package join says. -/
import Derived.Test.YtnmfcckahglbbaaGreatDoorJoC
namespace Go.Proofs.YtnmfcckahglbbaaGreatDoor
open Go.ChangeShapes Go.WideShapes Go.ChangeAt Go.RowKit
set_option linter.unusedVariables false
attribute [local go_sem] eqGuard_errV_nil eqGuard_errV_iface eql_errV_nil neq_errV_nil eql_errV_form

set_option maxRecDepth 20000 in
set_option maxHeartbeats 8000000 in
theorem joinLattice_walk (KJ : JoinJoins) (l : List ClassD) (a b c : List UInt8) (A : Option Addr) (n k : Nat) (w : World) (T : Tab w) (R : ClassRow w A n k l) (NA : A = none → n = 0 ∧ k = 0) (hu : ∀ x ∈ l, x.upto 140737488351232) (hw : ∀ x ∈ l, x.wf) (hn : n ≤ 140737488351232)
    (ha : a.length ≤ 140737488355328) (hb : b.length ≤ 140737488355328) (hc : c.length ≤ 140737488355328) :
    Calls Tryz.prog 4 #[.slice A n k, .string (bs a), .string (bs b), .string (bs c)] w fun e w' => e = .returned (.bool true) ∧ Below w.heap.size w w' := by
  obtain ⟨q, hq⟩ := world_is l
  obtain ⟨aa, haa, naa⟩ := join_ex l q a a
  obtain ⟨ab, hab, nab⟩ := join_ex l q a b
  obtain ⟨ba, hba, nba⟩ := join_ex l q b a
  obtain ⟨bc, hbc, nbc⟩ := join_ex l q b c
  obtain ⟨x, hx, nx⟩ := join_ex l q ab c
  obtain ⟨y, hy, ny⟩ := join_ex l q a bc
  have lab := joinT_len hq hab nab
  have lbc := joinT_len hq hbc nbc
  have HC := Lib.hid (fun W T => catJoins_any KJ W T)
  have H1 := Lib.hid (fun W T R => KJ l q a a aa A n k W hq haa naa T R NA hu hw hn (by omega) (by omega))
  have H2 := Lib.hid (fun W T R => KJ l q a b ab A n k W hq hab nab T R NA hu hw hn (by omega) (by omega))
  have H3 := Lib.hid (fun W T R => KJ l q b a ba A n k W hq hba nba T R NA hu hw hn (by omega) (by omega))
  have H4 := Lib.hid (fun W T R => KJ l q b c bc A n k W hq hbc nbc T R NA hu hw hn (by omega) (by omega))
  have H5 := Lib.hid (fun W T R => KJ l q ab c x A n k W hq hx nx T R NA hu hw hn (by omega) (by omega))
  have H6 := Lib.hid (fun W T R => KJ l q a bc y A n k W hq hy ny T R NA hu hw hn (by omega) (by omega))
  have HO := Lib.hid (lattice_facts hq haa hab hba hbc hx hy)
  have HT := Lib.hid T
  have HR := Lib.hid R
  generalize kindsQ l q a a = q1 at H1 HO
  generalize kindsQ l q a b = q2 at H2 HO
  generalize kindsQ l q b a = q3 at H3 HO
  generalize kindsQ l q b c = q4 at H4 HO
  generalize kindsQ l q ab c = q5 at H5 HO
  generalize kindsQ l q a bc = q6 at H6 HO
  clear haa hab hba hbc hx hy naa nab nba nbc nx ny hq KJ T R NA hu hw hn ha hb hc lab lbc
  by_cases hz : q1 = 0 ∧ q2 = 0 ∧ q3 = 0 ∧ q4 = 0
  · obtain ⟨rfl, rfl, rfl, rfl⟩ := hz
    obtain ⟨rfl, rfl, rfl, rfl, rfl⟩ := HO.out rfl rfl rfl rfl
    have e1 : ((bs aa).toList == (bs aa).toList) = true := by simp
    have e2 : ((bs ab).toList == (bs ab).toList) = true := by simp
    have e3 : ((bs x).toList == (bs x).toList) = true := by simp
    clear HO
    go_enter Tryz.func4, Tryz.ntmps4
    go_wp2_with (first
      | (go_at_call 7; (with_reducible refine (HC.out _ HT.out).mono ?_); rintro e w1 ⟨rfl, hb⟩
         have HB1 := Lib.hid hb
         clear hb)
      | (go_at_call 9; (with_reducible refine (H1.out _ (HT.out.below HB1.out) (ClassRow.below HR.out HB1.out)).mono ?_); rintro e w2 ⟨rfl, hb⟩
         have HB2 := Lib.hid (bnext HB1.out hb)
         clear hb)
      | (go_at_call 9; (with_reducible refine (H2.out _ (HT.out.below HB2.out) (ClassRow.below HR.out HB2.out)).mono ?_); rintro e w3 ⟨rfl, hb⟩
         have HB3 := Lib.hid (bnext HB2.out hb)
         clear hb)
      | (go_at_call 9; (with_reducible refine (H3.out _ (HT.out.below HB3.out) (ClassRow.below HR.out HB3.out)).mono ?_); rintro e w4 ⟨rfl, hb⟩
         have HB4 := Lib.hid (bnext HB3.out hb)
         clear hb)
      | (go_at_call 9; (with_reducible refine (H4.out _ (HT.out.below HB4.out) (ClassRow.below HR.out HB4.out)).mono ?_); rintro e w5 ⟨rfl, hb⟩
         have HB5 := Lib.hid (bnext HB4.out hb)
         clear hb)
      | (go_at_call 9; (with_reducible refine (H5.out _ (HT.out.below HB5.out) (ClassRow.below HR.out HB5.out)).mono ?_); rintro e w6 ⟨rfl, hb⟩
         have HB6 := Lib.hid (bnext HB5.out hb)
         clear hb)
      | (go_at_call 9; (with_reducible refine (H6.out _ (HT.out.below HB6.out) (ClassRow.below HR.out HB6.out)).mono ?_); rintro e w7 ⟨rfl, hb⟩
         have HB7 := Lib.hid (bnext HB6.out hb)
         clear hb))
    go_ret
    exact ⟨rfl, HB7.out⟩
  · clear HO H5 H6
    rcases (show q1 ≠ 0 ∨ (q1 = 0 ∧ q2 ≠ 0) ∨ (q1 = 0 ∧ q2 = 0 ∧ q3 ≠ 0) ∨ (q1 = 0 ∧ q2 = 0 ∧ q3 = 0 ∧ q4 ≠ 0) by omega) with h | ⟨rfl, h⟩ | ⟨rfl, rfl, h⟩ | ⟨rfl, rfl, rfl, h⟩
    all_goals
      have hne := bne_iff_ne.2 h
      clear h hz
      go_enter Tryz.func4, Tryz.ntmps4
      go_wp2_with (first
        | (go_at_call 7; (with_reducible refine (HC.out _ HT.out).mono ?_); rintro e w1 ⟨rfl, hb⟩
           have HB1 := Lib.hid hb
           clear hb)
        | (go_at_call 9; (with_reducible refine (H1.out _ (HT.out.below HB1.out) (ClassRow.below HR.out HB1.out)).mono ?_); rintro e w2 ⟨rfl, hb⟩
           have HB2 := Lib.hid (bnext HB1.out hb)
           clear hb)
        | (go_at_call 9; (with_reducible refine (H2.out _ (HT.out.below HB2.out) (ClassRow.below HR.out HB2.out)).mono ?_); rintro e w3 ⟨rfl, hb⟩
           have HB3 := Lib.hid (bnext HB2.out hb)
           clear hb)
        | (go_at_call 9; (with_reducible refine (H3.out _ (HT.out.below HB3.out) (ClassRow.below HR.out HB3.out)).mono ?_); rintro e w4 ⟨rfl, hb⟩
           have HB4 := Lib.hid (bnext HB3.out hb)
           clear hb)
        | (go_at_call 9; (with_reducible refine (H4.out _ (HT.out.below HB4.out) (ClassRow.below HR.out HB4.out)).mono ?_); rintro e w5 ⟨rfl, hb⟩
           have HB5 := Lib.hid (bnext HB4.out hb)
           clear hb))
      go_ret
      exact ⟨rfl, HB5.out⟩
end Go.Proofs.YtnmfcckahglbbaaGreatDoor
