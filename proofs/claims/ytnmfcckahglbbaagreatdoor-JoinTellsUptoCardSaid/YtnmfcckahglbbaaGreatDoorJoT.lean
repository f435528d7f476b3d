/- The walk of coffeehouselaw2.JoinTells, from what package join says. -/
import Derived.Test.YtnmfcckahglbbaaGreatDoorJoC
import Derived.Test.YtnmfcckahglbbaaGreatDoorJoS
import Derived.Test.YtnmfcckahglbbaaGreatDoorSame
namespace Go.Proofs.YtnmfcckahglbbaaGreatDoor
open Go.ChangeShapes Go.WideShapes Go.ChangeAt Go.RowKit
set_option linter.unusedVariables false
attribute [local go_sem] eqGuard_errV_nil eqGuard_errV_iface eql_errV_nil neq_errV_nil eql_errV_form

/-- The reference's Join on texts. -/
theorem rjoinT_any (l : List ClassD) (q : Nat) (hq : WorldIs l q) (a b k : List UInt8) (A : Option Addr) (n c : Nat) (hn : n ≤ 140737488351232) (h : kindsQ l q a b = 0) (hk : kindsQ l q a b = 0 → JoinT l a b k) (w : World) (R : ClassRow w A n c l) :
    Calls Tryz.prog 12 #[.slice A n c, .string (bs a), .string (bs b)] w fun e w' => e = .returned (.string (bs k)) ∧ Below w.heap.size w w' := by
  obtain ⟨hq0, ha, hb⟩ := kindsQ_zero.1 h
  have hV : Valid l := worldIs_zero (by rw [hq0] at hq; exact hq)
  obtain ⟨x, hx, rfl⟩ := kind_is (w := l) (l := a) (by omega)
  obtain ⟨y, hy, rfl⟩ := kind_is (w := l) (l := b) (by omega)
  rw [(joinT_iff hx hy).1 (hk h)]
  exact rjoin_any l hV A n c hn _ x y rfl hx hy ha hb w R
theorem jsame_self (q : Nat) (w : World) : Calls Tryz.prog 10 #[errV q, .int .i64 (q : Int)] w fun e w' => e = .returned (.bool true) ∧ w = w' :=
  (sameError_any q q w).mono fun _ _ ⟨h1, h2⟩ => ⟨by rw [h1]; simp, h2⟩
theorem jsame_lit (w : World) : Calls Tryz.prog 10 #[errV 0, .int .i64 0] w fun e w' => e = .returned (.bool true) ∧ w = w' := jsame_self 0 w
set_option maxRecDepth 20000 in
set_option maxHeartbeats 8000000 in
theorem joinTells_walk (KJ : JoinJoins) (KB : JoinBelows) (l : List ClassD) (a b : List UInt8) (A : Option Addr) (n m : Nat) (w : World) (T : Tab w) (R : ClassRow w A n m l) (NA : A = none → n = 0 ∧ m = 0) (hu : ∀ x ∈ l, x.upto 1048576) (hw : ∀ x ∈ l, x.wf) (hn : n ≤ 1048576) (ha : a.length ≤ 1048576) (hb : b.length ≤ 1048576) :
    Calls Tryz.prog 3 #[.slice A n m, .string (bs a), .string (bs b)] w fun e w' => e = .returned (.bool true) ∧ Below w.heap.size w w' := by
  obtain ⟨q, hq⟩ := world_is l
  obtain ⟨k, hk, nk⟩ := join_ex l q a b
  obtain ⟨β, hβ⟩ := bool_is (kindsQ l q a b = 0 ∧ JoinT l a b b)
  have hu2 : ∀ x ∈ l, x.upto 140737488351232 := fun x hx => (hu x hx).more (by decide)
  have HC := Lib.hid (fun W T => catJoins_any KJ W T)
  have HK := Lib.hid (fun W R => rkindsFault_any l q hq a b A n m W R hu hw (by omega) (by omega) (by omega))
  have HJ := Lib.hid (fun W T R => KJ l q a b k A n m W hq hk nk T R NA hu2 hw (by omega) (by omega) (by omega))
  have HBl := Lib.hid (fun W T R => KB l q a b β A n m W hq hβ T R NA hu2 hw (by omega) (by omega) (by omega))
  have HSe := Lib.hid (fun q1 w => jsame_self q1 w)
  have HSz := Lib.hid jsame_lit
  have HT := Lib.hid T
  have HR := Lib.hid R
  rcases Nat.eq_zero_or_pos (kindsQ l q a b) with h0 | h0
  · have HRj := Lib.hid (fun W R => rjoinT_any l q hq a b k A n m (by omega) h0 hk W R)
    have hβ2 : β = true ↔ k = b := by
      rw [hβ]
      obtain ⟨hq0, ka, kb⟩ := kindsQ_zero.1 h0
      obtain ⟨x, hx, rfl⟩ := kind_is (w := l) (l := a) (by omega)
      obtain ⟨y, hy, rfl⟩ := kind_is (w := l) (l := b) (by omega)
      rw [joinT_iff hx hy, (joinT_iff hx hy).1 (hk h0)]
      exact ⟨fun h => h.2.symm, fun h => ⟨h0, h.symm⟩⟩
    have e1 : ((bs k).toList == (bs k).toList) = true := by simp
    have e2 : ((bs k).toList == (bs b).toList) = β := by
      by_cases h : k = b
      · rw [hβ2.2 h, h]; simp
      · cases β with
        | true => exact absurd (hβ2.1 rfl) h
        | false => exact str_ne_ h
    rw [h0] at HK HJ HBl
    clear KJ KB T R NA hu hu2 hw hn ha hb hq hk nk hβ hβ2 h0
    cases β
    all_goals
      go_enter Tryz.func3, Tryz.ntmps3
      go_wp2_with (first
        | (go_at_call 7; (with_reducible refine (HC.out _ HT.out).mono ?_); rintro e w1 ⟨rfl, hb⟩
           have HB1 := Lib.hid hb
           clear hb)
        | (go_at_call 8; (with_reducible refine (HK.out _ (ClassRow.below HR.out HB1.out)).mono ?_); rintro e w2 ⟨rfl, hb⟩
           have HB2 := Lib.hid (bnext HB1.out hb)
           clear hb)
        | (go_at_call 9; (with_reducible refine (HJ.out _ (HT.out.below HB2.out) (ClassRow.below HR.out HB2.out)).mono ?_); rintro e w3 ⟨rfl, hb⟩
           have HB3 := Lib.hid (bnext HB2.out hb)
           clear hb)
        | (go_at_call 10; (with_reducible refine (HSz.out _).mono ?_); rintro e w1 ⟨rfl, rfl⟩)
        | (go_at_call 11; (with_reducible refine (HBl.out _ (HT.out.below HB3.out) (ClassRow.below HR.out HB3.out)).mono ?_); rintro e w4 ⟨rfl, hb⟩
           have HB4 := Lib.hid (bnext HB3.out hb)
           clear hb)
        | (go_at_call 12; (with_reducible refine (HRj.out _ (ClassRow.below HR.out HB4.out)).mono ?_); rintro e w5 ⟨rfl, hb⟩
           have HB5 := Lib.hid (bnext HB4.out hb)
           clear hb))
      go_ret
      exact ⟨rfl, HB5.out⟩
  · obtain rfl := nk (by omega)
    obtain rfl : β = false := by
      cases β with
      | false => rfl
      | true => exact absurd (hβ.1 rfl).1 (by omega)
    have hne : (((kindsQ l q a b : Nat) : Int) == 0) = false := by rw [beq_eq_false_iff_ne]; omega
    have e1 : (bs ([] : List UInt8)).toList = [] := by rw [ByteArray.toList_eq]; rfl
    clear KJ KB T R NA hu hu2 hw hn ha hb hq hk nk hβ h0
    generalize kindsQ l q a b = q3 at *
    go_enter Tryz.func3, Tryz.ntmps3
    go_wp2_with (first
      | (go_at_call 7; (with_reducible refine (HC.out _ HT.out).mono ?_); rintro e w1 ⟨rfl, hb⟩
         have HB1 := Lib.hid hb
         clear hb)
      | (go_at_call 8; (with_reducible refine (HK.out _ (ClassRow.below HR.out HB1.out)).mono ?_); rintro e w2 ⟨rfl, hb⟩
         have HB2 := Lib.hid (bnext HB1.out hb)
         clear hb)
      | (go_at_call 9; (with_reducible refine (HJ.out _ (HT.out.below HB2.out) (ClassRow.below HR.out HB2.out)).mono ?_); rintro e w3 ⟨rfl, hb⟩
         have HB3 := Lib.hid (bnext HB2.out hb)
         clear hb)
      | (go_at_call 10; (with_reducible refine (HSe.out _ _).mono ?_); rintro e w1 ⟨rfl, rfl⟩)
      | (go_at_call 11; (with_reducible refine (HBl.out _ (HT.out.below HB3.out) (ClassRow.below HR.out HB3.out)).mono ?_); rintro e w4 ⟨rfl, hb⟩
         have HB4 := Lib.hid (bnext HB3.out hb)
         clear hb))
    go_ret
    exact ⟨rfl, HB4.out⟩
end Go.Proofs.YtnmfcckahglbbaaGreatDoor
