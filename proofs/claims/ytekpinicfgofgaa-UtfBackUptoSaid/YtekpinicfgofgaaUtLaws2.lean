/- The walk of UtfBack. -/
import Derived.Test.YtekpinicfgofgaaUtLaws1
import Derived.Deep.RegionHeld
namespace Go.Proofs.Ytekpinicfgofgaa
open Go.ChangeShapes Go.WideShapes Go.ChangeAt Go.RowKit
set_option linter.unusedVariables false
attribute [local go_sem] eqGuard_errV_nil eqGuard_errV_iface eql_errV_nil neq_errV_nil eql_errV_form

theorem eql_form_form (w : World) : (binOp .eql 26 (.iface 31 (.int .i64 1)) (.iface 31 (.int .i64 1))).run Try.prog w = .ok (.bool true) w := eql_errV_form 1 w
theorem eql_nil_form (w : World) : (binOp .eql 26 .nilIface (.iface 31 (.int .i64 1))).run Try.prog w = .ok (.bool false) w := eql_errV_form 0 w
theorem guard_form {op : BinOp} {t : TypeId} {x y : Operand} {d : TypeId} {u : Value} : eqGuard op t x y (.iface 31 (.int .i64 1)) (.iface d u) = pure () := eqGuard_errV_iface 1
theorem guard_nil {op : BinOp} {t : TypeId} {x y : Operand} {d : TypeId} {u : Value} : eqGuard op t x y .nilIface (.iface d u) = pure () := eqGuard_errV_iface 0
attribute [local go_sem] eql_form_form eql_nil_form guard_form guard_nil
set_option maxRecDepth 20000 in
set_option maxHeartbeats 8000000 in
theorem utfBack_walk (l : List UInt16) (b : List UInt8) (A B : Option Addr) (n c k d : Nat) (w : World) (R : Row w A n c (l.map unitV)) (S : Row w B k d (b.map byteV)) (hn : n ≤ 1048576) (hk : k ≤ 1048576) :
    Calls Try.prog 4 #[.slice A n c, .slice B k d] w fun e w' => e = .returned (.bool true) ∧ Below w.heap.size w w' := by
  have hl : l.length = n := by simpa using R.1
  subst hl
  have main : ∀ (x : List UInt16) (last : Value), (last = .nilIface ∧ encL x = b ∨ last = .iface 31 (.int .i64 1) ∧ x = []) → x.length ≤ 1048576 →
      (∀ W, Row W B k d (b.map byteV) → Calls Try.prog 8 #[.slice B k d] W (GivesUnits W x last)) →
      Calls Try.prog 4 #[.slice A l.length c, .slice B k d] w fun e w' => e = .returned (.bool true) ∧ Below w.heap.size w w' := by
    intro x last hm hx hd
    have HD := Lib.hid hd
    have HR := Lib.hid R
    have HS := Lib.hid S
    have hen := Lib.hid (fun W (R : Row W A l.length c (l.map unitV)) => (encode_any l A _ c W R (by omega)).mono fun _ _ h => enc_gives h)
    have hex := Lib.hid (fun W A c (R : Row W A x.length c (x.map unitV)) => (encode_any x A _ c W R (by omega)).mono fun _ _ h => enc_gives h)
    have hdx := Lib.hid (fun W A c (R : Row W A (encL l).length c ((encL l).map byteV)) => (decode_any (encL l) A _ c W R (by have := (encL_length l).2; omega)).mono fun _ _ h => show GivesUnits W l .nilIface _ _ from dec_yes h)
    have HNE := Lib.hid (encL_ne l)
    have hy : (encL l).length ≤ 3145728 := by have := (encL_length l).2; omega
    clear hd R S
    go_enter Try.func4, Try.ntmps4
    go_wp2_with (first
      | (go_at_call 7; (with_reducible refine (euro_any _).mono ?_); rintro e w1 ⟨rfl, hb⟩; have HB1 := Lib.hid hb; clear hb)
      | (go_at_call 11; refine (hen.out _ (HR.out.below HB1.out)).mono ?_; rintro e w2 ⟨A2, c2, rfl, hr, hb⟩; have HB2 := Lib.hid (ubelow_next HB1.out hb); have HR2 := Lib.hid hr; clear hr hb))
    go_loop [7] (fun i => ∃ j : Nat, j ≤ (encL l).length ∧ i = .int .i64 j) (fun i => (encL l).length - (intOf i).toNat)
    case atStart => exact ⟨0, Nat.zero_le _, rfl⟩
    case round =>
      obtain ⟨j, hj, rfl⟩ := hrel
      by_cases hlt : j < (encL l).length
      · obtain ⟨b1, o1, u1, rfl, hb1, hu1, hc1⟩ := HR2.out.at_ hlt
        obtain rfl : byteV (encL l)[j] = u1 := by simpa [hlt] using hu1
        have hne : (((encL l)[j].toNat : Int) == 0) = false := by
          rw [beq_eq_false_iff_ne]
          intro h0
          refine HNE.out (encL l)[j] (List.getElem_mem hlt) (UInt8.toNat_inj.1 ?_)
          have : (encL l)[j].toNat = 0 := by omega
          rw [this]; rfl
        clear hu1
        unfold byteV at hc1
        go_wp2
        go_round
        case rel => exact ⟨j + 1, by omega, by go_num⟩
        case measure => first | (simp [intOf]; omega) | simp [intOf]
      · obtain rfl : j = (encL l).length := by omega
        go_wp2_with (first
          | (go_at_call 8; refine (hdx.out _ _ _ HR2.out).mono ?_; rintro e w3 ⟨A3, c3, rfl, hr, hb⟩; have HB3 := Lib.hid (ubelow_next HB2.out hb); have HR3 := Lib.hid hr; clear hr hb))
        have HR4 := Lib.hid (HR.out.below HB3.out)
        go_loopw [10] (fun i wr => ∃ j q : Nat, j ≤ l.length ∧ i = .int .i64 j ∧ wr = w3.drewN q) (fun i _ => l.length - (intOf i).toNat)
        case atStart => exact ⟨0, 0, Nat.zero_le _, rfl, rfl⟩
        case round =>
          obtain ⟨j, q, hj, rfl, rfl⟩ := hrel
          by_cases hlt : j < l.length
          · obtain ⟨b1, o1, u1, rfl, hb1, hu1, hc1⟩ := HR3.out.at_ hlt
            obtain ⟨b2, o2, u2, rfl, hb2, hu2, hc2⟩ := HR4.out.at_ hlt
            obtain rfl : unitV l[j] = u1 := by simpa [hlt] using hu1
            obtain rfl : unitV l[j] = u2 := by simpa [hlt] using hu2
            clear hu1 hu2
            unfold unitV at hc1 hc2
            go_wp2
            go_quiet (fail)
            go_wp2
            go_roundw
            case rel => exact ⟨j + 1, _, by omega, by go_num, rfl⟩
            case measure => first | (simp [intOf]; omega) | simp [intOf]
          · obtain rfl : j = l.length := by omega
            have HP := Lib.hid ((HS.out.below HB3.out).drewN q)
            rcases hm with ⟨rfl, hxb⟩ | ⟨rfl, rfl⟩
            · have HXB := Lib.hid hxb
              clear hxb
              go_wp2_with (first
                | (go_at_call 8; refine (HD.out _ HP.out).mono ?_; rintro e w5 ⟨A5, c5, rfl, hr, hb⟩; have HB5 := Lib.hid (below_plus HB3.out hb); have HR5 := Lib.hid hr; have g5 := fun q => conv_row ((HP.out.below hb).drewN q); have HP5 := Lib.hid (HP.out.below hb); clear hr hb))
              first
                | go_region_held (fun w' => (convert 23 9 (.slice B k d)).run Try.prog w' = .ok (.string (bs b)) w') (first | exact conv_row HP5.out.drew | exact conv_row HP5.out | exact g7)
                    (first | (go_at_call 11; refine (hex.out _ _ _ HR5.out.drew).mono ?_; rintro e w6 ⟨A6, c6, rfl, hr, hb⟩; have g6 := conv_row hr; have g7 := conv_row (HP5.out.drew.below hb); have HB6 := Lib.hid (below_plus (k := 1) HB5.out hb); clear hr hb))
                | fail
              all_goals
                go_wp2
                go_ret
                exact ⟨ret_bool (by simp [HXB.out]), HB6.out⟩
            · go_wp2_with (first
                | (go_at_call 8; refine (HD.out _ HP.out).mono ?_; rintro e w5 ⟨A5, c5, rfl, hr, hb⟩; have HB5 := Lib.hid (below_plus HB3.out hb); have HR5 := Lib.hid hr; clear hr hb))
              go_quiet (fail)
              go_wp2
              go_ret
              exact ⟨ret_bool (by simp), ubelow_drew HB5.out _⟩
  by_cases hx : ∃ x, encL x = b
  · obtain ⟨x, rfl⟩ := hx
    have hl : (encL x).length = k := by simpa using S.1
    exact main x .nilIface (.inl ⟨rfl, rfl⟩) (by have := (encL_length x).1; omega) (fun W T => (decode_any _ B k d W T (by omega)).mono fun _ _ h => dec_yes h)
  · have hno : ∀ l, encL l ≠ b := fun l h => hx ⟨l, h⟩
    exact main [] (.iface 31 (.int .i64 1)) (.inr ⟨rfl, rfl⟩) (by simp) (fun W T => (decode_any _ B k d W T (by omega)).mono fun _ _ h => dec_no hno h)
end Go.Proofs.Ytekpinicfgofgaa
