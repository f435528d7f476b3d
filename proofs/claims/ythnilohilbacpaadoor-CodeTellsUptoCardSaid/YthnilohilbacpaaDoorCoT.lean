/- The walk of coffeehouselaw1.CodeTells. -/
import Derived.Test.YthnilohilbacpaaDoorCoB
import Derived.Test.YthnilohilbacpaaDoorInG
import Derived.Test.YthnilohilbacpaaDoorSame
import Derived.Deep.RegionHeld
namespace Go.Proofs.YthnilohilbacpaaDoor
open Go.ChangeShapes Go.WideShapes Go.ChangeAt Go.RowKit
set_option linter.unusedVariables false
attribute [local go_sem] eqGuard_errV_nil eqGuard_errV_iface eql_errV_nil neq_errV_nil eql_errV_form

theorem behind_drew {w a : World} (h : Below w.drew.heap.size w.drew a) : Below w.heap.size w a := ⟨h.os, h.tape, h.output, h.size, h.block⟩
theorem error_self (f : Nat) (w : World) : Calls Tryd.prog 11 #[errV f, .int .i64 (f : Int)] w fun e w' => e = .returned (.bool true) ∧ w = w' := by
  have h := sameError_any f f w
  rw [show (f == f) = true from beq_self_eq_true f] at h
  exact h
theorem error_four (w : World) : Calls Tryd.prog 11 #[errV 4, .int .i64 4] w fun e w' => e = .returned (.bool true) ∧ w = w' := error_self 4 w
theorem error_zero (w : World) : Calls Tryd.prog 11 #[.nilIface, .int .i64 0] w fun e w' => e = .returned (.bool true) ∧ w = w' := error_self 0 w
theorem small_fits {x : InsD} (h : x.ty.length ≤ 1048576 ∧ x.cl.length ≤ 1048576 ∧ x.nm.length ≤ 1048576) : x.fits := ⟨by omega, by omega, by omega⟩
def small (x : InsD) : Prop := x.ty.length ≤ 1048576 ∧ x.cl.length ≤ 1048576 ∧ x.nm.length ≤ 1048576
set_option maxRecDepth 20000 in
set_option maxHeartbeats 8000000 in
theorem codeTells_good (l : List InsD) (A : Option Addr) (n c : Nat) (w : World) (T : Tab w) (P : Pow w) (R : InsRow w A n c l) (hw : ∀ x ∈ l, x.wf) (hs : ∀ x ∈ l, small x) (h0 : codeF l = 0) :
    Calls Tryd.prog 3 #[.slice A n c] w fun e w' => e = .returned (.bool true) ∧ Below w.heap.size w w' := by
  have hl := (codeF_right hw).1 h0
  have hn : l.length = n := R.1
  have h40 : n ≤ 40 := by have := hl.1; omega
  have HN := Lib.hid (fun W T P R => (encode_any l A n c W T P R hw (fun x hx => good_fits (hl.2 x hx))).mono fun _ _ h => enc_gives h h0)
  have HB := Lib.hid (fun W R => codeBytes_any l A n c W R hl)
  have HX := Lib.hid (fun x (hx : x ∈ l) w => (hl.2 x hx).2 ▸ fault_any x w (hs x hx).1 (hs x hx).2.1 (hs x hx).2.2)
  have HC := Lib.hid coded_any
  have HE := Lib.hid error_zero
  have HT := Lib.hid T
  have HP := Lib.hid P
  have HR := Lib.hid R
  have HL := Lib.hid hn
  clear T P R hw hs h0 hl hn
  go_enter Tryd.func3, Tryd.ntmps3
  go_wp2_with (first
    | (go_at_call 8; (with_reducible refine (HC.out _ HT.out HP.out).mono ?_); rintro e w1 ⟨rfl, hb⟩; have H1 := Lib.hid hb; clear hb))
  go_loopw [4, 5] (fun e i wr => ∃ j : Nat, j ≤ n ∧ i = .int .i64 j ∧ e = .int .i64 0 ∧ Hid (Below w.heap.size w wr)) (fun _ i _ => n - (intOf i).toNat)
  case atStart => exact ⟨0, Nat.zero_le _, rfl, rfl, H1⟩
  case round =>
    obtain ⟨j, hj, rfl, rfl, HL1⟩ := hrel
    by_cases hlt : j < n
    · obtain ⟨b1, o1, rfl, hb1, hx1⟩ := (HR.out.below HL1.out).at_ hlt
      have hj1 : j < l.length := by rw [HL.out]; exact hlt
      have HF := HX.out l[j] (List.getElem_mem _)
      generalize l[j] = x at *
      obtain ⟨xo, xa, xb, xt, xc, xn⟩ := x
      obtain ⟨c0, c1, c2, c3, c4, c5⟩ := hx1
      unfold insV at HF
      replace HF := Lib.hid HF
      go_wp2_with (first
        | (go_at_call 9; (with_reducible refine (HF.out _).mono ?_); rintro e w2 ⟨rfl, hb⟩; have HL2 := Lib.hid (bnext HL1.out hb); clear hb))
      go_round
      case rel => exact ⟨j + 1, by omega, by go_num, by simp, HL2⟩
      case measure => first | (simp [intOf]; omega) | simp [intOf]
    · obtain rfl : j = n := by omega
      go_wp2_with (first
        | (go_at_call 10; (with_reducible refine (HN.out _ (HT.out.below HL1.out) (HP.out.below HL1.out) (HR.out.below HL1.out)).mono ?_); rintro e w2 ⟨A2, c2, rfl, hr, hb⟩
           have HR2 := Lib.hid hr
           have HL2 := Lib.hid (bnext HL1.out hb)
           clear hb hr)
        | (go_at_call 11; (with_reducible refine (HE.out _).mono ?_); rintro e w3 ⟨rfl, rfl⟩))
      have g0 := conv_row HR2.out.drew
      go_region_held (fun _ => True) (first | exact trivial | exact True.intro)
        (first
          | (go_at_call 12; (with_reducible refine (HB.out _ (HR.out.below HL2.out).drew).mono ?_); rintro e w5 ⟨A5, c5, rfl, hr, hb⟩; have g5 := conv_row hr; have g25 := conv_row (HR2.out.drew.below hb); have B5 := Lib.hid (bnext HL2.out (behind_drew hb)); clear hr hb))
      all_goals
        go_wp2
        go_ret
        exact ⟨ret_bool (by simp), B5.out⟩
set_option maxRecDepth 20000 in
set_option maxHeartbeats 8000000 in
theorem codeTells_many (l : List InsD) (A : Option Addr) (n c : Nat) (w : World) (T : Tab w) (P : Pow w) (R : InsRow w A n c l) (hw : ∀ x ∈ l, x.wf) (hs : ∀ x ∈ l, small x) (h40 : 40 < n) :
    Calls Tryd.prog 3 #[.slice A n c] w fun e w' => e = .returned (.bool true) ∧ Below w.heap.size w w' := by
  have hn : l.length = n := R.1
  have h4 : codeF l = 4 := by unfold codeF; rw [if_pos (by omega)]
  have HN := fun W T P R => (encode_any l A n c W T P R hw (fun x hx => small_fits (hs x hx))).mono fun _ _ h => enc_fails h (by rw [h4]; decide)
  rw [h4] at HN
  replace HN := Lib.hid HN
  have HC := Lib.hid coded_any
  have HE := Lib.hid error_four
  have HT := Lib.hid T
  have HP := Lib.hid P
  have HR := Lib.hid R
  clear T P R hw hs hn h4
  go_enter Tryd.func3, Tryd.ntmps3
  go_wp2_with (first
    | (go_at_call 8; (with_reducible refine (HC.out _ HT.out HP.out).mono ?_); rintro e w1 ⟨rfl, hb⟩; have H1 := Lib.hid hb; clear hb))
  go_loopw [4, 5] (fun e i wr => i = .int .i64 0 ∧ e = .int .i64 4 ∧ Hid (Below w.heap.size w wr)) (fun _ i _ => n - (intOf i).toNat)
  case atStart => exact ⟨rfl, rfl, H1⟩
  case round =>
    obtain ⟨rfl, rfl, HL1⟩ := hrel
    go_wp2_with (first
      | (go_at_call 10; (with_reducible refine (HN.out _ (HT.out.below HL1.out) (HP.out.below HL1.out) (HR.out.below HL1.out)).mono ?_); rintro e w2 ⟨rfl, hb⟩
         have HL2 := Lib.hid (bnext HL1.out hb)
         clear hb)
      | (go_at_call 11; (with_reducible refine (HE.out _).mono ?_); rintro e w3 ⟨rfl, rfl⟩))
    all_goals
      go_ret
      exact ⟨rfl, HL2.out⟩
set_option maxRecDepth 20000 in
set_option maxHeartbeats 8000000 in
theorem codeTells_fault (l : List InsD) (A : Option Addr) (n c : Nat) (w : World) (T : Tab w) (P : Pow w) (R : InsRow w A n c l) (hw : ∀ x ∈ l, x.wf) (hs : ∀ x ∈ l, small x) (h40 : ¬ 40 < n) (h0 : codeF l ≠ 0) :
    Calls Tryd.prog 3 #[.slice A n c] w fun e w' => e = .returned (.bool true) ∧ Below w.heap.size w w' := by
  have hn : l.length = n := R.1
  have hF : codeF l = firstF l := by unfold codeF; rw [if_neg (by omega)]
  obtain ⟨k, hk, hz, hkb, hkf⟩ := first_bad (hF ▸ h0)
  have HN := fun W T P R => (encode_any l A n c W T P R hw (fun x hx => small_fits (hs x hx))).mono fun _ _ h => enc_fails h h0
  rw [hF, hkf] at HN
  replace HN := Lib.hid HN
  have HX := Lib.hid (fun x (hx : x ∈ l) w => fault_any x w (hs x hx).1 (hs x hx).2.1 (hs x hx).2.2)
  have HZ := Lib.hid (fun j (hj : j < k) (hjl : j < l.length) => hz l[j] (List.mem_take_iff_getElem.2 ⟨j, by omega, rfl⟩))
  have HC := Lib.hid coded_any
  have HT := Lib.hid T
  have HP := Lib.hid P
  have HR := Lib.hid R
  have HL := Lib.hid hn
  have HK := Lib.hid (show ∀ j (hj : j < l.length), j = k → insF l[j] = insF l[k] from fun j hj h => by subst h; rfl)
  generalize insF l[k] = F at *
  have hne : ((F : Int) == 0) = false := by rw [beq_eq_false_iff_ne]; omega
  have hne2 : ((F : Int) != 0) = true := by rw [bne_iff_ne]; omega
  have HE := Lib.hid (error_self F)
  have hkn : k < n := by omega
  clear T P R hw hs hn h0 hF hz hkb hkf hk
  go_enter Tryd.func3, Tryd.ntmps3
  go_wp2_with (first
    | (go_at_call 8; (with_reducible refine (HC.out _ HT.out HP.out).mono ?_); rintro e w1 ⟨rfl, hb⟩; have H1 := Lib.hid hb; clear hb))
  go_loopw [4, 5] (fun e i wr => ∃ (j : Nat) (f : Nat), i = .int .i64 j ∧ e = .int .i64 f ∧ Hid (Below w.heap.size w wr) ∧ Hid ((j ≤ k ∧ f = 0) ∨ (j = k + 1 ∧ f = F))) (fun _ i _ => n - (intOf i).toNat)
  case atStart => exact ⟨0, 0, rfl, rfl, H1, Lib.hid (.inl ⟨Nat.zero_le _, rfl⟩)⟩
  case round =>
    obtain ⟨j, f, rfl, rfl, HL1, HD⟩ := hrel
    rcases HD.out with ⟨hj, rfl⟩ | ⟨hj, rfl⟩
    · have hlt : j < n := by omega
      obtain ⟨b1, o1, rfl, hb1, hx1⟩ := (HR.out.below HL1.out).at_ hlt
      have hj1 : j < l.length := by rw [HL.out]; exact hlt
      have HF := HX.out l[j] (List.getElem_mem _)
      have HG : Hid ((j + 1 ≤ k ∧ insF l[j] = 0) ∨ (j + 1 = k + 1 ∧ insF l[j] = F)) := Lib.hid (by
        rcases Nat.lt_or_ge j k with h | h
        · exact .inl ⟨h, HZ.out j h hj1⟩
        · exact .inr ⟨by omega, HK.out j hj1 (by omega)⟩)
      generalize insF l[j] = g at *
      generalize l[j] = x at *
      obtain ⟨xo, xa, xb, xt, xc, xn⟩ := x
      obtain ⟨c0, c1, c2, c3, c4, c5⟩ := hx1
      unfold insV at HF
      replace HF := Lib.hid HF
      clear HD
      go_wp2_with (first
        | (go_at_call 9; (with_reducible refine (HF.out _).mono ?_); rintro e w2 ⟨rfl, hb⟩; have HL2 := Lib.hid (bnext HL1.out hb); clear hb))
      go_round
      case rel => exact ⟨j + 1, g, by go_num, rfl, HL2, HG⟩
      case measure => first | (simp [intOf]; omega) | simp [intOf]
    · subst hj
      clear HD
      by_cases hlt : k + 1 < n
      · go_wp2_with (first
          | (go_at_call 10; (with_reducible refine (HN.out _ (HT.out.below HL1.out) (HP.out.below HL1.out) (HR.out.below HL1.out)).mono ?_); rintro e w2 ⟨rfl, hb⟩
             have HL2 := Lib.hid (bnext HL1.out hb)
             clear hb)
          | (go_at_call 11; (with_reducible refine (HE.out _).mono ?_); rintro e w3 ⟨rfl, rfl⟩))
        all_goals
          go_ret
          exact ⟨rfl, HL2.out⟩
      · go_wp2_with (first
          | (go_at_call 10; (with_reducible refine (HN.out _ (HT.out.below HL1.out) (HP.out.below HL1.out) (HR.out.below HL1.out)).mono ?_); rintro e w2 ⟨rfl, hb⟩
             have HL2 := Lib.hid (bnext HL1.out hb)
             clear hb)
          | (go_at_call 11; (with_reducible refine (HE.out _).mono ?_); rintro e w3 ⟨rfl, rfl⟩))
        all_goals
          go_ret
          exact ⟨rfl, HL2.out⟩
theorem codeTells_walk (l : List InsD) (A : Option Addr) (n c : Nat) (w : World) (T : Tab w) (P : Pow w) (R : InsRow w A n c l) (hw : ∀ x ∈ l, x.wf) (hs : ∀ x ∈ l, small x) :
    Calls Tryd.prog 3 #[.slice A n c] w fun e w' => e = .returned (.bool true) ∧ Below w.heap.size w w' := by
  by_cases h0 : codeF l = 0
  · exact codeTells_good l A n c w T P R hw hs h0
  · by_cases h40 : 40 < n
    · exact codeTells_many l A n c w T P R hw hs h40
    · exact codeTells_fault l A n c w T P R hw hs h40 h0
end Go.Proofs.YthnilohilbacpaaDoor
