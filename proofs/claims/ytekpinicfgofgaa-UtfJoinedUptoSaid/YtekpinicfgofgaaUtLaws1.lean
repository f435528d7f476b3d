/- The walk of UtfTells. -/
import Derived.Test.YtekpinicfgofgaaUtLaws
namespace Go.Proofs.Ytekpinicfgofgaa
open Go.ChangeShapes Go.WideShapes Go.ChangeAt Go.RowKit
set_option linter.unusedVariables false
attribute [local go_sem] eqGuard_errV_nil eqGuard_errV_iface eql_errV_nil neq_errV_nil eql_errV_form

theorem own_units {w : World} {base : Nat} {v : Value} {xs : List UInt16} (h : w.ownsRow base 33 1 v xs.length (xs.map unitV)) : ∃ A c, v = .slice A xs.length c ∧ Row w A xs.length c (xs.map unitV) := by
  obtain ⟨A, c, rfl⟩ := own_form h
  exact ⟨A, c, rfl, Row.own h⟩
/-- What a call says that gives units and a last word. -/
def GivesUnits (w : World) (x : List UInt16) (last : Value) (e : Ending) (w' : World) : Prop := ∃ A c, e = .returned (.tuple #[.slice A x.length c, last]) ∧ Row w' A x.length c (x.map unitV) ∧ Below w.heap.size w w'
theorem dec_yes {w w' : World} {x : List UInt16} {e : Ending} (h : DecSays w (encL x) e w') : GivesUnits w x (errV 0) e w' := by
  obtain ⟨hb, ⟨l, v, he, rfl, hv⟩ | ⟨hn, _⟩⟩ := h
  · obtain rfl := encL_inj he
    obtain ⟨A, c, rfl, R⟩ := own_units hv
    exact ⟨A, c, rfl, R, hb⟩
  · exact absurd rfl (hn x)
theorem dec_no {w w' : World} {b : List UInt8} {e : Ending} (hn : ∀ l, encL l ≠ b) (h : DecSays w b e w') : GivesUnits w [] (errV 1) e w' := by
  obtain ⟨hb, ⟨l, v, he, rfl, hv⟩ | ⟨_, rfl⟩⟩ := h
  · exact absurd he (hn l)
  · exact ⟨none, 0, rfl, Row.nil_ _ _ _, hb⟩
theorem of_yes {w w' : World} {x : List UInt16} {e : Ending} (h : UnitsOfSays w (encL x) e w') : GivesUnits w x (.bool true) e w' := by
  obtain ⟨hb, ⟨l, v, he, rfl, hv⟩ | ⟨hn, _⟩⟩ := h
  · obtain rfl := encL_inj he
    obtain ⟨A, c, rfl, R⟩ := own_units hv
    exact ⟨A, c, rfl, R, hb⟩
  · exact absurd rfl (hn x)
theorem of_no {w w' : World} {b : List UInt8} {e : Ending} (hn : ∀ l, encL l ≠ b) (h : UnitsOfSays w b e w') : GivesUnits w [] (.bool false) e w' := by
  obtain ⟨hb, ⟨l, v, he, rfl, hv⟩ | ⟨_, rfl⟩⟩ := h
  · exact absurd he (hn l)
  · exact ⟨none, 0, rfl, Row.nil_ _ _ _, hb⟩
/-- What a call says that gives bytes. -/
def GivesBytes (w : World) (l : List UInt8) (e : Ending) (w' : World) : Prop := ∃ A c, e = .returned (.slice A l.length c) ∧ Row w' A l.length c (l.map byteV) ∧ Below w.heap.size w w'
theorem enc_gives {w w' : World} {l : List UInt8} {e : Ending} (h : AppendSays w w.heap.size l e w') : GivesBytes w l e w' := by
  obtain ⟨v, rfl, hv, hb⟩ := h
  obtain ⟨A, c, rfl, R⟩ := own_row hv
  exact ⟨A, c, rfl, R, hb⟩
theorem below_plus {w a b : World} {k : Nat} (h : Below w.heap.size w a) (hb : Below (a.drewN k).heap.size (a.drewN k) b) : Below w.heap.size w b := ubelow_next h (below_of_drew hb)
set_option maxRecDepth 20000 in
set_option maxHeartbeats 8000000 in
theorem utfTells_walk (l : List UInt16) (b : List UInt8) (A B : Option Addr) (n c k d : Nat) (w : World) (R : Row w A n c (l.map unitV)) (S : Row w B k d (b.map byteV)) (hn : n ≤ 4194304) (hk : k ≤ 16777216) :
    Calls Try.prog 3 #[.slice A n c, .slice B k d] w fun e w' => e = .returned (.bool true) ∧ Below w.heap.size w w' := by
  have main : ∀ (x : List UInt16) (m : Nat) (z : Int) (is : Bool), (is = true ∧ m = 0 ∧ z = 0 ∨ is = false ∧ m = 1 ∧ z = 1) → (∀ W, Calls Try.prog 10 #[errV m, .int .i64 z] W fun e w' => e = .returned (.bool true) ∧ W = w') → x.length ≤ 16777216 →
      (∀ W, Row W B k d (b.map byteV) → Calls Try.prog 8 #[.slice B k d] W (GivesUnits W x (errV m))) →
      (∀ W, Row W B k d (b.map byteV) → Calls Try.prog 9 #[.slice B k d] W (GivesUnits W x (.bool is))) →
      Calls Try.prog 3 #[.slice A n c, .slice B k d] w fun e w' => e = .returned (.bool true) ∧ Below w.heap.size w w' := by
    intro x m z is hm hse hx hd ho
    have HSE := Lib.hid hse
    clear hse
    have HD := Lib.hid hd
    have HO := Lib.hid ho
    have HR := Lib.hid R
    have HS := Lib.hid S
    have hen := Lib.hid (fun W (R : Row W A n c (l.map unitV)) => (encode_any l A n c W R hn).mono fun _ _ h => enc_gives h)
    have hby := Lib.hid (fun W (R : Row W A n c (l.map unitV)) => (bytes_any l A n c W R hn).mono fun _ _ h => enc_gives h)
    clear hd ho R S
    rcases hm with ⟨rfl, rfl, rfl⟩ | ⟨rfl, rfl, rfl⟩
    all_goals
      go_enter Try.func3, Try.ntmps3
      go_wp2_with (first
        | (go_at_call 7; (with_reducible refine (euro_any _).mono ?_); rintro e w1 ⟨rfl, hb⟩; have HB1 := Lib.hid hb; clear hb)
        | (go_at_call 8; refine (HD.out _ (HS.out.below HB1.out)).mono ?_; rintro e w2 ⟨A2, c2, rfl, hr, hb⟩; have HB2 := Lib.hid (ubelow_next HB1.out hb); have HR2 := Lib.hid hr; clear hr hb)
        | (go_at_call 9; refine (HO.out _ (HS.out.below HB2.out)).mono ?_; rintro e w3 ⟨A3, c3, rfl, hr, hb⟩; have HB3 := Lib.hid (ubelow_next HB2.out hb); have HR3 := Lib.hid hr; have HR4 := Lib.hid (HR2.out.below hb); clear hr hb)
        | (go_at_call 10; (with_reducible refine (HSE.out _).mono ?_); rintro e w4 ⟨rfl, rfl⟩))
      go_loopw [12] (fun i wr => ∃ j q : Nat, j ≤ x.length ∧ i = .int .i64 j ∧ wr = w3.drewN q) (fun i _ => x.length - (intOf i).toNat)
      case atStart => exact ⟨0, 0, Nat.zero_le _, rfl, rfl⟩
      case round =>
        obtain ⟨j, q, hj, rfl, rfl⟩ := hrel
        by_cases hlt : j < x.length
        · obtain ⟨b1, o1, u1, rfl, hb1, hu1, hc1⟩ := HR3.out.at_ hlt
          obtain ⟨b2, o2, u2, rfl, hb2, hu2, hc2⟩ := HR4.out.at_ hlt
          obtain rfl : unitV x[j] = u1 := by simpa [hlt] using hu1
          obtain rfl : unitV x[j] = u2 := by simpa [hlt] using hu2
          clear hu1 hu2
          unfold unitV at hc1 hc2
          go_wp2
          go_quiet (fail)
          go_wp2
          go_roundw
          case rel => exact ⟨j + 1, _, by omega, by go_num, rfl⟩
          case measure => first | (simp [intOf]; omega) | simp [intOf]
        · obtain rfl : j = x.length := by omega
          have HP := Lib.hid (HR.out.below HB3.out)
          go_wp2
          go_region_with (first
            | (go_at_call 11; refine (hen.out _ (HP.out.drewN _)).mono ?_; rintro e w5 ⟨A5, c5, rfl, hr, hb⟩; have g5 := conv_row hr; have HB5 := Lib.hid (below_plus HB3.out hb); have HR5 := Lib.hid hr; have HP5 := Lib.hid ((HP.out.drewN _).below hb); clear hr hb)
            | (go_at_call 12; refine (hby.out _ HP5.out).mono ?_; rintro e w6 ⟨A6, c6, rfl, hr, hb⟩; have g6 := conv_row hr; have g7 := conv_row (HR5.out.below hb); have HB6 := Lib.hid (ubelow_next HB5.out hb); clear hr hb))
          all_goals
            go_wp2
            go_ret
            exact ⟨ret_bool (by simp), HB6.out⟩
  by_cases hx : ∃ x, encL x = b
  · obtain ⟨x, rfl⟩ := hx
    have hl : (encL x).length = k := by simpa using S.1
    exact main x 0 0 true (.inl ⟨rfl, rfl, rfl⟩) (fun W => sameError_any 0 0 W) (by have := (encL_length x).1; omega) (fun W T => (decode_any _ B k d W T hk).mono fun _ _ h => dec_yes h) (fun W T => (unitsOf_any _ B k d W T hk).mono fun _ _ h => of_yes h)
  · have hno : ∀ l, encL l ≠ b := fun l h => hx ⟨l, h⟩
    exact main [] 1 1 false (.inr ⟨rfl, rfl, rfl⟩) (fun W => sameError_any 1 1 W) (by simp) (fun W T => (decode_any _ B k d W T hk).mono fun _ _ h => dec_no hno h) (fun W T => (unitsOf_any _ B k d W T hk).mono fun _ _ h => of_no hno h)
end Go.Proofs.Ytekpinicfgofgaa
