/- The walk of UtfCut. -/
import Derived.Test.YtekpinicfgofgaaUtLaws1
import Derived.Test.YtekpinicfgofgaaNamed
import Derived.Deep.RegionHeld
namespace Go.Proofs.Ytekpinicfgofgaa
open Go.ChangeShapes Go.WideShapes Go.ChangeAt Go.RowKit
set_option linter.unusedVariables false

theorem urem_nat (n : Int) (k : Nat) (hk : 0 < k) : ∃ r : Nat, (IntKind.u64.wrap n).tmod (k : Int) = (r : Int) ∧ r < k := by
  have h0 : 0 ≤ IntKind.u64.wrap n := by simp only [IntKind.wrap_u64]; omega
  obtain ⟨u, hu⟩ := Int.eq_ofNat_of_zero_le h0
  rw [hu]
  exact ⟨u % k, by rw [Int.tmod_eq_emod_of_nonneg (by omega)]; rfl, Nat.mod_lt _ hk⟩
/-- Bytes of the call's own: none, or the head of a block. -/
def GivesOwn (w : World) (l : List UInt8) (e : Ending) (w' : World) : Prop :=
  ∃ A c, e = .returned (.slice A l.length c) ∧ Row w' A l.length c (l.map byteV) ∧ Below w.heap.size w w' ∧ ((A = none ∧ c = 0) ∨ ∃ g, A = some ⟨g, 0, none⟩)
theorem enc_own {w w' : World} {l : List UInt8} {e : Ending} (h : AppendSays w w.heap.size l e w') : GivesOwn w l e w' := by
  obtain ⟨v, rfl, hv, hb⟩ := h
  obtain ⟨A, c, rfl, R⟩ := own_row hv
  refine ⟨A, c, rfl, R, hb, ?_⟩
  rcases hv.2 with ⟨he, _⟩ | ⟨g, cap, cur, he, _⟩
  · have : A = none ∧ l.length = 0 ∧ c = 0 := by simpa using he
    exact .inl ⟨this.1, this.2.2⟩
  · have : A = some ⟨g, 0, none⟩ ∧ c = cap := by simpa using he
    exact .inr ⟨g, this.1⟩
theorem head_any {w : World} {A : Option Addr} {n c : Nat} {r : List UInt8} (R : Row w A n c (r.map byteV)) (k : Nat) (hk : k ≤ n) (hA : (A = none ∧ c = 0) ∨ ∃ g, A = some ⟨g, 0, none⟩) :
    (∀ W, (Instr.sliceAt 23 (.slice A n c) none (some (.int .i64 (k : Int))) none).run Try.prog W = .ok (.slice A k c) W) ∧ Row w A k c ((r.take k).map byteV) := by
  have h2 := R.2.1
  have e : cutA A c 0 = A := by
    unfold cutA
    rcases hA with ⟨rfl, rfl⟩ | ⟨g, rfl⟩
    · rfl
    · split <;> simp [add_plain]
  have h := R.cut (l := 0) (h := k) (Nat.zero_le _) hk
  rw [e] at h
  refine ⟨fun W => ?_, by rw [List.map_take]; exact h⟩
  have := cut_h W A n c k (by omega)
  rw [e] at this
  exact this
theorem cut_part {l x : List UInt16} {r : Nat} (h : encL x = (encL l).take r) : ∃ y, l = x ++ y := by
  obtain ⟨y, hy, _⟩ := encL_prefix (a := x) (b := l) (r := (encL l).drop r) (by rw [h, List.take_append_drop])
  exact ⟨y, hy⟩
set_option maxRecDepth 20000 in
set_option maxHeartbeats 40000000 in
theorem utfCut_walk (l : List UInt16) (n : Int) (A : Option Addr) (m c : Nat) (w : World) (R : Row w A m c (l.map unitV)) (hm : m ≤ 1048576) :
    Calls Try.prog 6 #[.slice A m c, .int .i64 n] w fun e w' => e = .returned (.bool true) ∧ Below w.heap.size w w' := by
  have hl : l.length = m := by simpa using R.1
  subst hl
  obtain ⟨r, hr, hrk⟩ := urem_nat n ((encL l).length + 1) (by omega)
  have hlen := (encL_length l).2
  have main : ∀ (x : List UInt16) (last : Value), (last = .nilIface ∧ encL x = (encL l).take r ∨ last = .iface 31 (.int .i64 1) ∧ x = [] ∧ 0 < r) → x.length ≤ 1048576 →
      (∀ W A c, Row W A r c (((encL l).take r).map byteV) → Calls Try.prog 8 #[.slice A r c] W (GivesUnits W x last)) →
      Calls Try.prog 6 #[.slice A l.length c, .int .i64 n] w fun e w' => e = .returned (.bool true) ∧ Below w.heap.size w w' := by
    intro x last hlast hx hd
    have HD := Lib.hid hd
    have HR := Lib.hid R
    have hen := Lib.hid (fun W (R : Row W A l.length c (l.map unitV)) => (encode_any l A _ c W R (by omega)).mono fun _ _ h => enc_own h)
    have hex := Lib.hid (fun W A c (R : Row W A x.length c (x.map unitV)) => (encode_any x A _ c W R (by omega)).mono fun _ _ h => enc_gives h)
    have HNM := Lib.hid named_any
    have hri : (IntKind.u64.wrap n).tmod (((encL l).length : Int) + 1) = (r : Int) := by simpa using hr
    have hrl : r ≤ (encL l).length := by omega
    clear hd R hr
    rcases hlast with ⟨rfl, hxe⟩ | ⟨rfl, rfl, h0⟩
    · have HXE := Lib.hid hxe
      have hpl : x.length ≤ l.length := by obtain ⟨y, hy⟩ := cut_part hxe; rw [hy]; simp
      have HPX := Lib.hid (show ∀ j (h : j < x.length), l[j]? = some x[j] from fun j h => by obtain ⟨y, hy⟩ := cut_part hxe; rw [hy, List.getElem?_append_left h, List.getElem?_eq_getElem h])
      clear hxe
      go_enter Try.func6, Try.ntmps6
      go_wp2_with (first
        | (go_at_call 13; (with_reducible refine (HNM.out _).mono ?_); rintro e w1 ⟨rfl, rfl⟩)
        | (go_at_call 11; refine (hen.out _ HR.out).mono ?_; rintro e w2 ⟨A2, c2, rfl, hr, hb, ha⟩; have HB2 := Lib.hid hb; have HH := Lib.hid (head_any hr r hrl ha); have HR2 := Lib.hid hr; have HA2 := Lib.hid ha; clear hr hb ha)
        | ((with_reducible refine wpList_slice (.slice A2 r c2) ?_ ?_); exact HH.out.1 _)
        | (go_at_call 8; (with_reducible refine (HD.out _ _ _ HH.out.2).mono ?_); rintro e w3 ⟨A3, c3, rfl, hr, hb⟩; have HB3 := Lib.hid (ubelow_next HB2.out hb); have HR3 := Lib.hid hr; have HK := Lib.hid (HH.out.2.below hb); clear hr hb))
      have HRl := Lib.hid (HR.out.below HB3.out)
      go_loopw [10] (fun i wr => ∃ j q : Nat, j ≤ x.length ∧ i = .int .i64 j ∧ wr = w3.drewN q) (fun i _ => x.length - (intOf i).toNat)
      case atStart => exact ⟨0, 0, Nat.zero_le _, rfl, rfl⟩
      case round =>
        obtain ⟨j, q, hj, rfl, rfl⟩ := hrel
        by_cases hlt : j < x.length
        · obtain ⟨b1, o1, u1, rfl, hb1, hu1, hc1⟩ := HR3.out.at_ hlt
          have hlt2 : j < l.length := Nat.lt_of_lt_of_le hlt hpl
          obtain ⟨b2, o2, u2, rfl, hb2, hu2, hc2⟩ := HRl.out.at_ hlt2
          obtain rfl : unitV x[j] = u1 := by simpa [hlt] using hu1
          obtain rfl : unitV x[j] = u2 := by
            have := HPX.out j hlt
            rw [List.getElem?_map, this] at hu2
            simpa using hu2
          have hge : decide ((l.length : Int) ≤ (j : Int)) = false := by rw [decide_eq_false_iff_not]; omega
          clear hu1 hu2
          unfold unitV at hc1 hc2
          go_wp2
          go_quiet (fail)
          go_wp2
          go_roundw
          case rel => exact ⟨j + 1, _, by omega, by go_num, rfl⟩
          case measure => first | (simp [intOf]; omega) | simp [intOf]
        · obtain rfl : j = x.length := by omega
          have hrc : (r : Int) ≤ (c2 : Int) := by have := HK.out.2.1; omega
          have ha := HA2.out
          go_wp2
          rcases ha with ⟨rfl, rfl⟩ | ⟨g, rfl⟩
          · obtain rfl : r = 0 := by omega
            have g3 := conv_row (HK.out.drewN (q + 1))
            rw [← HXE.out] at g3
            first
              | go_region_held (fun w' => (convert 23 9 (.slice none 0 0)).run Try.prog w' = .ok (.string (bs (encL x))) w') (first | exact g3 | exact g6)
                  (first | (go_at_call 11; (with_reducible refine (hex.out _ _ _ (HR3.out.drewN _)).mono ?_); rintro e w6 ⟨A6, c6, rfl, hr, hb⟩; have g5 := conv_row hr; have g6 := conv_row ((HK.out.drewN (q + 1)).below hb); rw [← HXE.out] at g6; have HB6 := Lib.hid (below_plus HB3.out hb); clear hr hb))
              | fail
            all_goals
              go_wp2
              go_ret
              exact ⟨ret_bool (by simp), HB6.out⟩
          · by_cases hc : c2 = 0
            · subst hc
              obtain rfl : r = 0 := by omega
              have g3 := conv_row (HK.out.drewN (q + 1))
              rw [← HXE.out] at g3
              first
                | go_region_held (fun w' => (convert 23 9 (.slice (some ⟨g, 0, none⟩) 0 0)).run Try.prog w' = .ok (.string (bs (encL x))) w') (first | exact g3 | exact g6)
                    (first | (go_at_call 11; (with_reducible refine (hex.out _ _ _ (HR3.out.drewN _)).mono ?_); rintro e w6 ⟨A6, c6, rfl, hr, hb⟩; have g5 := conv_row hr; have g6 := conv_row ((HK.out.drewN (q + 1)).below hb); rw [← HXE.out] at g6; have HB6 := Lib.hid (below_plus HB3.out hb); clear hr hb))
                | fail
              all_goals
                go_wp2
                go_ret
                exact ⟨ret_bool (by simp), HB6.out⟩
            · have g3 := conv_row (HK.out.drewN (q + 1))
              rw [← HXE.out] at g3
              first
                | go_region_held (fun w' => (convert 23 9 (.slice (some ⟨g, 0, none⟩) r c2)).run Try.prog w' = .ok (.string (bs (encL x))) w') (first | exact g3 | exact g6)
                    (first | (go_at_call 11; (with_reducible refine (hex.out _ _ _ (HR3.out.drewN _)).mono ?_); rintro e w6 ⟨A6, c6, rfl, hr, hb⟩; have g5 := conv_row hr; have g6 := conv_row ((HK.out.drewN (q + 1)).below hb); rw [← HXE.out] at g6; have HB6 := Lib.hid (below_plus HB3.out hb); clear hr hb))
                | fail
              all_goals
                go_wp2
                go_ret
                exact ⟨ret_bool (by simp), HB6.out⟩
    · have h0i : (0 : Int) < (r : Int) := by omega
      go_enter Try.func6, Try.ntmps6
      go_wp2_with (first
        | (go_at_call 13; (with_reducible refine (HNM.out _).mono ?_); rintro e w1 ⟨rfl, rfl⟩)
        | (go_at_call 11; refine (hen.out _ HR.out).mono ?_; rintro e w2 ⟨A2, c2, rfl, hr, hb, ha⟩; have HB2 := Lib.hid hb; have HH := Lib.hid (head_any hr r hrl ha); have HR2 := Lib.hid hr; have HA2 := Lib.hid ha; clear hr hb ha)
        | ((with_reducible refine wpList_slice (.slice A2 r c2) ?_ ?_); exact HH.out.1 _)
        | (go_at_call 8; (with_reducible refine (HD.out _ _ _ HH.out.2).mono ?_); rintro e w3 ⟨A3, c3, rfl, hr, hb⟩; have HB3 := Lib.hid (ubelow_next HB2.out hb); have HR3 := Lib.hid hr; have HK := Lib.hid (HH.out.2.below hb); clear hr hb))
      go_ret
      exact ⟨ret_bool (by simp), HB3.out⟩
  by_cases hx : ∃ x, encL x = (encL l).take r
  · obtain ⟨x, hx⟩ := hx
    exact main x .nilIface (.inl ⟨rfl, hx⟩) (by obtain ⟨y, hy⟩ := cut_part hx; rw [hy] at hm; simp at hm; omega) (fun W A c T => by
      have := decode_any _ A r c W T (by omega)
      rw [← hx] at this
      exact this.mono fun _ _ h => show GivesUnits W x .nilIface _ _ from dec_yes h)
  · have hno : ∀ x, encL x ≠ (encL l).take r := fun x h => hx ⟨x, h⟩
    have h0 : 0 < r := by
      rcases Nat.eq_zero_or_pos r with rfl | h
      · exact absurd rfl (hno [])
      · exact h
    exact main [] (.iface 31 (.int .i64 1)) (.inr ⟨rfl, rfl, h0⟩) (by simp) (fun W A c T => (decode_any _ A r c W T (by omega)).mono fun _ _ h => dec_no hno h)
end Go.Proofs.Ytekpinicfgofgaa
