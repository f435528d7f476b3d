/- The walk of coffeehouselaw2.SubOrder, from what package sub says. -/
import Derived.Test.YtdpkjmdmmhnfnaaGreatDoorKiK
namespace Go.Proofs.YtdpkjmdmmhnfnaaGreatDoor
open Go.ChangeShapes Go.WideShapes Go.ChangeAt Go.RowKit
set_option linter.unusedVariables false
attribute [local go_sem] eqGuard_errV_nil eqGuard_errV_iface eql_errV_nil neq_errV_nil eql_errV_form

theorem bool_is (P : Prop) : ∃ β : Bool, β = true ↔ P := by
  classical exact ⟨decide P, by simp⟩
theorem kindsQ_zero {l : List ClassD} {q : Nat} {a b : List UInt8} : kindsQ l q a b = 0 ↔ q = 0 ∧ kindE l a = 0 ∧ kindE l b = 0 := by
  unfold kindsQ
  rcases kindE_le l a with h | h | h <;> rcases kindE_le l b with h' | h' | h' <;> by_cases hq : q = 0 <;> simp [h, h', hq]
/-- What the order's facts are. -/
theorem order_facts {l : List ClassD} {q : Nat} (hq : WorldIs l q) {a b c : List UInt8} {aa ab ba bc ac : Bool}
    (haa : aa = true ↔ kindsQ l q a a = 0 ∧ FitsT l a a) (hab : ab = true ↔ kindsQ l q a b = 0 ∧ FitsT l a b) (hba : ba = true ↔ kindsQ l q b a = 0 ∧ FitsT l b a)
    (hbc : bc = true ↔ kindsQ l q b c = 0 ∧ FitsT l b c) (hac : ac = true ↔ kindsQ l q a c = 0 ∧ FitsT l a c)
    (h1 : kindsQ l q a a = 0) (h2 : kindsQ l q a b = 0) (h4 : kindsQ l q b c = 0) :
    aa = true ∧ (ab = true → bc = true → ac = true) ∧ (ab = true → ba = true → a = b) := by
  obtain ⟨hq0, ha, hb⟩ := kindsQ_zero.1 h2
  obtain ⟨-, -, hc⟩ := kindsQ_zero.1 h4
  have hV : Valid l := worldIs_zero (by rw [hq0] at hq; exact hq)
  obtain ⟨x, hx, rfl⟩ := kind_is (w := l) (l := a) (by omega)
  obtain ⟨y, hy, rfl⟩ := kind_is (w := l) (l := b) (by omega)
  obtain ⟨z, hz, rfl⟩ := kind_is (w := l) (l := c) (by omega)
  rw [fitsT_iff hx hx] at haa
  rw [fitsT_iff hx hy] at hab
  rw [fitsT_iff hy hx] at hba
  rw [fitsT_iff hy hz] at hbc
  rw [fitsT_iff hx hz] at hac
  refine ⟨haa.2 ⟨h1, .refl l x⟩, fun h h' => hac.2 ⟨kindsQ_zero.2 ⟨hq0, ha, hc⟩, (hab.1 h).2.trans (hbc.1 h').2⟩, fun h h' => ?_⟩
  rw [FitsD.anti hV (hab.1 h).2 (hba.1 h').2]
set_option maxRecDepth 20000 in
set_option maxHeartbeats 8000000 in
theorem subOrder_walk (KF : SubFits) (KI : SubIs) (l : List ClassD) (a b c : List UInt8) (A : Option Addr) (n k : Nat) (w : World) (T : Tab w) (R : ClassRow w A n k l) (NA : A = none → n = 0 ∧ k = 0) (hu : ∀ x ∈ l, x.upto 140737488351232) (hw : ∀ x ∈ l, x.wf) (hn : n ≤ 140737488351232) (ha : a.length ≤ 140737488351232) (hb : b.length ≤ 140737488351232) (hc : c.length ≤ 140737488351232) :
    Calls Tryz.prog 4 #[.slice A n k, .string (bs a), .string (bs b), .string (bs c)] w fun e w' => e = .returned (.bool true) ∧ Below w.heap.size w w' := by
  obtain ⟨q, hq⟩ := world_is l
  obtain ⟨aa, haa⟩ := bool_is (kindsQ l q a a = 0 ∧ FitsT l a a)
  obtain ⟨ab, hab⟩ := bool_is (kindsQ l q a b = 0 ∧ FitsT l a b)
  obtain ⟨ba, hba⟩ := bool_is (kindsQ l q b a = 0 ∧ FitsT l b a)
  obtain ⟨bc, hbc⟩ := bool_is (kindsQ l q b c = 0 ∧ FitsT l b c)
  obtain ⟨ac, hac⟩ := bool_is (kindsQ l q a c = 0 ∧ FitsT l a c)
  have HC := Lib.hid (fun W T => catIs_any KI W T)
  have H1 := Lib.hid (fun W T R => KF l q a a aa A n k W hq haa T R NA hu hw hn (by omega) (by omega))
  have H2 := Lib.hid (fun W T R => KF l q a b ab A n k W hq hab T R NA hu hw hn (by omega) (by omega))
  have H3 := Lib.hid (fun W T R => KF l q b a ba A n k W hq hba T R NA hu hw hn (by omega) (by omega))
  have H4 := Lib.hid (fun W T R => KF l q b c bc A n k W hq hbc T R NA hu hw hn (by omega) (by omega))
  have H5 := Lib.hid (fun W T R => KF l q a c ac A n k W hq hac T R NA hu hw hn (by omega) (by omega))
  have HO := Lib.hid (order_facts hq haa hab hba hbc hac)
  have HT := Lib.hid T
  have HR := Lib.hid R
  generalize kindsQ l q a a = q1 at H1 HO
  generalize kindsQ l q a b = q2 at H2 HO
  generalize kindsQ l q b a = q3 at H3
  generalize kindsQ l q b c = q4 at H4 HO
  generalize kindsQ l q a c = q5 at H5
  clear haa hab hba hbc hac hq KF KI T R NA hu hw hn ha hb hc
  go_enter Tryz.func4, Tryz.ntmps4
  go_wp2_with (first
    | (go_at_call 7; (with_reducible refine (HC.out _ HT.out).mono ?_); rintro e w1 ⟨rfl, hb⟩
       have HB1 := Lib.hid hb
       clear hb)
    | (go_at_call 9; (with_reducible refine (H1.out _ (HT.out.below HB1.out) (ClassRow.below HR.out HB1.out)).mono ?_); rintro e w2 ⟨rfl, hb⟩
       have HB2 := Lib.hid (bnext HB1.out hb)
       clear hb)
    | (go_at_call 9; (with_reducible refine (H2.out _ (HT.out.below HB2.out) (ClassRow.below HR.out HB2.out)).mono ?_); rintro e w3 ⟨rfl, hb⟩
       have HB3 := Lib.hid (bnext HB2.out hb)
       clear hb)
    | (go_at_call 9; (with_reducible refine (H3.out _ (HT.out.below HB3.out) (ClassRow.below HR.out HB3.out)).mono ?_); rintro e w4 ⟨rfl, hb⟩
       have HB4 := Lib.hid (bnext HB3.out hb)
       clear hb)
    | (go_at_call 9; (with_reducible refine (H4.out _ (HT.out.below HB4.out) (ClassRow.below HR.out HB4.out)).mono ?_); rintro e w5 ⟨rfl, hb⟩
       have HB5 := Lib.hid (bnext HB4.out hb)
       clear hb)
    | (go_at_call 9; (with_reducible refine (H5.out _ (HT.out.below HB5.out) (ClassRow.below HR.out HB5.out)).mono ?_); rintro e w6 ⟨rfl, hb⟩
       have HB6 := Lib.hid (bnext HB5.out hb)
       clear hb))
  all_goals (
    go_ret
    refine ⟨?_, HB6.out⟩
    clear HC H1 H2 H3 H4 H5 HT HR HB1 HB2 HB3 HB4 HB5 HB6
    first
    | rfl
    | (obtain ⟨f1, f2, f3⟩ := HO.out (by assumption) (by assumption) (by assumption)
       clear HO
       simp_all))
end Go.Proofs.YtdpkjmdmmhnfnaaGreatDoor
