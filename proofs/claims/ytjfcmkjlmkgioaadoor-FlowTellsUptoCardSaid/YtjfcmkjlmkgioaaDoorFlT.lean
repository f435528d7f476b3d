/- The walk of coffeehouselaw1.FlowTells. -/
import Derived.Test.YtjfcmkjlmkgioaaDoorFlN
import Derived.Test.YtjfcmkjlmkgioaaDoorFlY
import Derived.Test.YtjfcmkjlmkgioaaDoorSame
namespace Go.Proofs.YtjfcmkjlmkgioaaDoor
open Go.ChangeShapes Go.WideShapes Go.ChangeAt Go.RowKit
set_option linter.unusedVariables false
attribute [local go_sem] eqGuard_errV_nil eqGuard_errV_iface eql_errV_nil neq_errV_nil eql_errV_form

theorem same_zero (w : World) : Calls Tryd.prog 10 #[.nilIface, .int .i64 0] w fun e w' => e = .returned (.bool true) ∧ w = w' := sameError_any 0 0 w
theorem same_two (w : World) : Calls Tryd.prog 10 #[errV 2, .int .i64 2] w fun e w' => e = .returned (.bool true) ∧ w = w' := sameError_any 2 2 w
theorem same_self (q : Nat) (w : World) : Calls Tryd.prog 10 #[errV q, .int .i64 (q : Int)] w fun e w' => e = .returned (.bool true) ∧ w = w' :=
  (sameError_any q q w).mono fun _ _ ⟨h1, h2⟩ => ⟨by rw [h1]; simp, h2⟩
theorem fault_zero {w w' : World} {l : List InsD} {e : Ending} (h : e = .returned (.int .i64 (flowF l : Int)) ∧ Below w.heap.size w w') (h0 : flowF l = 0) : e = .returned (.int .i64 0) ∧ Below w.heap.size w w' := by
  rw [h0] at h; exact h
theorem check_zero {w w' : World} {l : List InsD} {e : Ending} (h : e = .returned (errV (flowF l)) ∧ Below w.heap.size w w') (h0 : flowF l = 0) : e = .returned .nilIface ∧ Below w.heap.size w w' := by
  rw [h0] at h; exact h
set_option maxRecDepth 20000 in
set_option maxHeartbeats 2000000 in
theorem tells_bad (l : List InsD) (k : Int) (A : Option Addr) (n c : Nat) (w : World) (T : Tab w) (R : InsRow w A n c l) (hw : ∀ x ∈ l, x.wf) (hf : ∀ x ∈ l, x.fits) (hs : ∀ x ∈ l, x.small) (hn : n ≤ 1048576) (h0 : flowF l ≠ 0) :
    Calls Tryd.prog 3 #[.slice A n c, .int .i64 k] w fun e w' => e = .returned (.bool true) ∧ Below w.heap.size w w' := by
  have hl : l.length = n := R.1
  obtain ⟨xs, hxs⟩ := reach_exists l
  have HFl := Lib.hid (fun W T => flowing_any W T)
  have HFa := Lib.hid (fun W R => rfault_any l A n c W R hs hn)
  have HCk := Lib.hid (fun W T R => fcheck_any l A n c W T R hw hf)
  have HRe := Lib.hid (fun W T R => (reach_any l xs hxs A n c W T R hw hf).mono fun e w' h => reach_fails h h0)
  have HNe := Lib.hid (fun W T R => (next_any l A n c k W T R hw hf).mono fun e w' h => next_fails h h0)
  have HSE := Lib.hid same_self
  have HIn := Lib.hid ints_none
  have HT := Lib.hid T
  have HR := Lib.hid R
  have hne : ((flowF l : Int) == 0) = false := by rw [beq_eq_false_iff_ne]; omega
  clear hl T R hw hf hs hn h0 hxs
  generalize flowF l = q at *
  go_enter Tryd.func3, Tryd.ntmps3
  go_wp2_with (first
    | (go_at_call 8; (with_reducible refine (HFl.out _ HT.out).mono ?_); rintro e w1 ⟨rfl, hb⟩
       have HB1 := Lib.hid hb
       clear hb)
    | (go_at_call 9; (with_reducible refine (HFa.out _ (HR.out.below HB1.out)).mono ?_); rintro e w2 ⟨rfl, hb⟩
       have HB2 := Lib.hid (bnext HB1.out hb)
       clear hb)
    | (go_at_call 11; (with_reducible refine (HCk.out _ (HT.out.below HB2.out) (HR.out.below HB2.out)).mono ?_); rintro e w3 ⟨rfl, hb⟩
       have HB3 := Lib.hid (bnext HB2.out hb)
       clear hb)
    | (go_at_call 10; (with_reducible refine (HSE.out _ _).mono ?_); rintro e w4 ⟨rfl, rfl⟩)
    | (go_at_call 12; (with_reducible refine (HRe.out _ (HT.out.below HB3.out) (HR.out.below HB3.out)).mono ?_); rintro e w5 ⟨rfl, hb⟩
       have HB5 := Lib.hid (bnext HB3.out hb)
       clear hb)
    | (go_at_call 13; (with_reducible refine (HNe.out _ (HT.out.below HB5.out) (HR.out.below HB5.out)).mono ?_); rintro e w6 ⟨rfl, hb⟩
       have HB6 := Lib.hid (bnext HB5.out hb)
       have HB8 := HB6
       clear hb)
    | (go_at_call 17; (with_reducible refine (HIn.out _).mono ?_); rintro e w7 ⟨rfl, hb⟩
       replace HB8 := Lib.hid (bnext HB8.out hb)
       clear hb))
  go_ret
  exact ⟨rfl, HB8.out⟩

set_option maxRecDepth 20000 in
set_option maxHeartbeats 1000000 in
theorem tells_far (l : List InsD) (k : Int) (A : Option Addr) (n c : Nat) (w : World) (T : Tab w) (R : InsRow w A n c l) (hw : ∀ x ∈ l, x.wf) (hf : ∀ x ∈ l, x.fits) (hs : ∀ x ∈ l, x.small) (hn : n ≤ 1048576) (h0 : flowF l = 0) (hk : ¬ (0 ≤ k ∧ k < (n : Int))) :
    Calls Tryd.prog 3 #[.slice A n c, .int .i64 k] w fun e w' => e = .returned (.bool true) ∧ Below w.heap.size w w' := by
  have hl : l.length = n := R.1
  subst hl
  have hok := (flowF_ok hw).1 h0
  have h40 : l.length ≤ 40 := hok.1
  obtain ⟨xs, hxs⟩ := reach_exists l
  have hx40 : xs.length ≤ 40 := Nat.le_trans hxs.length h40
  have HFl := Lib.hid (fun W T => flowing_any W T)
  have HFa := Lib.hid (fun W R => (rfault_any l A l.length c W R hs hn).mono fun e w' h => fault_zero h h0)
  have HCk := Lib.hid (fun W T R => (fcheck_any l A l.length c W T R hw hf).mono fun e w' h => check_zero h h0)
  have HRe := Lib.hid (fun W T R => (reach_any l xs hxs A l.length c W T R hw hf).mono fun e w' h => reach_row h h0)
  have HNe := Lib.hid (fun W T R => (next_any l A l.length c k W T R hw hf).mono fun e w' h => next_far h h0 hk)
  have HRd := Lib.hid (fun (W : World) R RB hB => rreached_any l hok A c (some ⟨W.heap.size, 0, none⟩) 1 (W.alloc (.cells #[.int .i64 0] 3)) R RB hB)
  have HRr := Lib.hid (fun g f W hF => reached_any g l.length f W hF h40)
  have HXs := Lib.hid (fun (s : Nat → Bool) (h : ∀ i, s i = true ↔ Path l 0 i) => hxs.of (g := s) (fun i _ => h i))
  have HS0 := Lib.hid same_zero
  have HS2 := Lib.hid same_two
  have HIn := Lib.hid ints_none
  have HIx := Lib.hid (fun A B c d W R S => ints_same A B xs.length c d xs W R S (by omega))
  have HT := Lib.hid T
  have HR := Lib.hid R
  have hcase : k < 0 ∨ (¬ k < 0 ∧ (l.length : Int) ≤ k) := by omega
  clear T R hw hf hs hn h0 hxs hok hk
  rcases hcase with hk | ⟨hk1, hk2⟩
  all_goals
    go_enter Tryd.func3, Tryd.ntmps3
    go_wp2_with (first
      | (go_at_call 8; (with_reducible refine (HFl.out _ HT.out).mono ?_); rintro e w1 ⟨rfl, hb⟩
         have HB1 := Lib.hid hb
         clear hb)
      | (go_at_call 9; (with_reducible refine (HFa.out _ (HR.out.below HB1.out)).mono ?_); rintro e w2 ⟨rfl, hb⟩
         have HB2 := Lib.hid (bnext HB1.out hb)
         clear hb)
      | (go_at_call 11; (with_reducible refine (HCk.out _ (HT.out.below HB2.out) (HR.out.below HB2.out)).mono ?_); rintro e w3 ⟨rfl, hb⟩
         have HB3 := Lib.hid (bnext HB2.out hb)
         clear hb)
      | (go_at_call 10; (with_reducible refine (HS0.out _).mono ?_); rintro e w4 ⟨rfl, rfl⟩)
      | (go_at_call 10; (with_reducible refine (HS2.out _).mono ?_); rintro e w4 ⟨rfl, rfl⟩)
      | (go_at_call 12; (with_reducible refine (HRe.out _ (HT.out.below HB3.out) (HR.out.below HB3.out)).mono ?_); rintro e w5 ⟨A5, c5, rfl, hr, hb⟩
         have HR5 := Lib.hid hr
         have HB5 := Lib.hid (bnext HB3.out hb)
         clear hb hr)
      | (go_at_call 13; (with_reducible refine (HNe.out _ (HT.out.below HB5.out) (HR.out.below HB5.out)).mono ?_); rintro e w6 ⟨rfl, hb⟩
         have HB6 := Lib.hid (bnext HB5.out hb)
         have HR6 := Lib.hid (HR5.out.below hb)
         clear hb)
      | (go_at_call 16; (with_reducible refine (HRd.out w6 ((HR.out.below HB6.out).alloc _) (row_0 _ _ _) (blk_0 _ _)).mono ?_); rintro e w8 ⟨g, s, rfl, hF, hs, hb⟩
         have HE8 := Lib.hid (HXs.out s hs)
         have HF8 := Lib.hid hF
         have HB8 := Lib.hid (bnext (bnext HB6.out (al1 _ _)) hb)
         have HR8 := Lib.hid ((HR6.out.alloc _).below hb)
         clear hb hs hF)
      | (go_at_call 15; (with_reducible refine (HRr.out _ _ _ HF8.out).mono ?_); rintro e w9 h
         rw [HE8.out] at h
         obtain ⟨A9, c9, rfl, hr, hb⟩ := after_gives h
         have HR9 := Lib.hid hr
         have HS9 := Lib.hid (HR8.out.below hb)
         have HB9 := Lib.hid (bnext HB8.out hb)
         clear hb hr h)
      | (go_at_call 17; (with_reducible refine (HIn.out _).mono ?_); rintro e w10 ⟨rfl, hb⟩
         have HRa := Lib.hid (HR9.out.below hb)
         have HSa := Lib.hid (HS9.out.below hb)
         have HBa := Lib.hid (bnext HB9.out hb)
         clear hb)
      | (go_at_call 17; (with_reducible refine (HIx.out _ _ _ _ _ HSa.out HRa.out).mono ?_); rintro e w11 ⟨rfl, hb⟩
         have HBb := Lib.hid (bnext HBa.out hb)
         clear hb))
    all_goals first
      | (exfalso; omega)
      | (go_ret
         exact ⟨rfl, HBb.out⟩)
set_option maxRecDepth 20000 in
set_option maxHeartbeats 1000000 in
theorem tells_in (l : List InsD) (k : Nat) (A : Option Addr) (n c : Nat) (w : World) (T : Tab w) (R : InsRow w A n c l) (hw : ∀ x ∈ l, x.wf) (hf : ∀ x ∈ l, x.fits) (hs : ∀ x ∈ l, x.small) (hn : n ≤ 1048576) (h0 : flowF l = 0) (hk : k < n) :
    Calls Tryd.prog 3 #[.slice A n c, .int .i64 (k : Int)] w fun e w' => e = .returned (.bool true) ∧ Below w.heap.size w w' := by
  have hl : l.length = n := R.1
  subst hl
  have hok := (flowF_ok hw).1 h0
  have h40 : l.length ≤ 40 := hok.1
  obtain ⟨xs, hxs⟩ := reach_exists l
  have hx40 : xs.length ≤ 40 := Nat.le_trans hxs.length h40
  have HFl := Lib.hid (fun W T => flowing_any W T)
  have HFa := Lib.hid (fun W R => (rfault_any l A l.length c W R hs hn).mono fun e w' h => fault_zero h h0)
  have HCk := Lib.hid (fun W T R => (fcheck_any l A l.length c W T R hw hf).mono fun e w' h => check_zero h h0)
  have HRe := Lib.hid (fun W T R => (reach_any l xs hxs A l.length c W T R hw hf).mono fun e w' h => reach_row h h0)
  have HNe := Lib.hid (fun W T R => (next_any l A l.length c (k : Int) W T R hw hf).mono fun e w' h => next_row h h0 hk)
  have HRd := Lib.hid (fun (W : World) R RB hB => rreached_any l hok A c (some ⟨W.heap.size, 0, none⟩) 1 (W.alloc (.cells #[.int .i64 0] 3)) R RB hB)
  have HRr := Lib.hid (fun g f W hF => reached_any g l.length f W hF h40)
  have HXs := Lib.hid (fun (s : Nat → Bool) (h : ∀ i, s i = true ↔ Path l 0 i) => hxs.of (g := s) (fun i _ => h i))
  have HS0 := Lib.hid same_zero
  have HAf := Lib.hid (fun W R => (rafter_any l A l.length c k W R hk h40 hok.jump).mono fun e w' h => after_gives h)
  have hx2 := aft_len l k
  have HIx := Lib.hid (fun A B c d W R S => ints_same A B xs.length c d xs W R S (by omega))
  have HIy := Lib.hid (fun A B c d W R S => ints_same A B (aftM l k).length c d (aftM l k) W R S (by omega))
  have HT := Lib.hid T
  have HR := Lib.hid R
  clear T R hw hf hs hn h0 hxs hok
  generalize aftM l k = ys at *
  go_enter Tryd.func3, Tryd.ntmps3
  go_wp2_with (first
    | (go_at_call 8; (with_reducible refine (HFl.out _ HT.out).mono ?_); rintro e w1 ⟨rfl, hb⟩
       have HB1 := Lib.hid hb
       clear hb)
    | (go_at_call 9; (with_reducible refine (HFa.out _ (HR.out.below HB1.out)).mono ?_); rintro e w2 ⟨rfl, hb⟩
       have HB2 := Lib.hid (bnext HB1.out hb)
       clear hb)
    | (go_at_call 11; (with_reducible refine (HCk.out _ (HT.out.below HB2.out) (HR.out.below HB2.out)).mono ?_); rintro e w3 ⟨rfl, hb⟩
       have HB3 := Lib.hid (bnext HB2.out hb)
       clear hb)
    | (go_at_call 10; (with_reducible refine (HS0.out _).mono ?_); rintro e w4 ⟨rfl, rfl⟩)
    | (go_at_call 12; (with_reducible refine (HRe.out _ (HT.out.below HB3.out) (HR.out.below HB3.out)).mono ?_); rintro e w5 ⟨A5, c5, rfl, hr, hb⟩
       have HR5 := Lib.hid hr
       have HB5 := Lib.hid (bnext HB3.out hb)
       clear hb hr)
    | (go_at_call 13; (with_reducible refine (HNe.out _ (HT.out.below HB5.out) (HR.out.below HB5.out)).mono ?_); rintro e w6 ⟨A6, c6, rfl, hr, hb⟩
       have HN6 := Lib.hid hr
       have HB6 := Lib.hid (bnext HB5.out hb)
       have HR6 := Lib.hid (HR5.out.below hb)
       clear hb hr)
    | (go_at_call 14; (with_reducible refine (HAf.out _ (HR.out.below HB6.out)).mono ?_); rintro e w7 ⟨A7, c7, rfl, hr, hb⟩
       have HY7 := Lib.hid hr
       have HN7 := Lib.hid (HN6.out.below hb)
       have HB7 := Lib.hid (bnext HB6.out hb)
       have HR7 := Lib.hid (HR6.out.below hb)
       clear hb hr)
    | (go_at_call 16; (with_reducible refine (HRd.out w7 ((HR.out.below HB7.out).alloc _) (row_0 _ _ _) (blk_0 _ _)).mono ?_); rintro e w8 ⟨g, s, rfl, hF, hs, hb⟩
       have HE8 := Lib.hid (HXs.out s hs)
       have HF8 := Lib.hid hF
       have HB8 := Lib.hid (bnext (bnext HB7.out (al1 _ _)) hb)
       have HR8 := Lib.hid ((HR7.out.alloc _).below hb)
       have HY8 := Lib.hid ((HY7.out.alloc _).below hb)
       have HN8 := Lib.hid ((HN7.out.alloc _).below hb)
       clear hb hs hF)
    | (go_at_call 15; (with_reducible refine (HRr.out _ _ _ HF8.out).mono ?_); rintro e w9 h
       rw [HE8.out] at h
       obtain ⟨A9, c9, rfl, hr, hb⟩ := after_gives h
       have HR9 := Lib.hid hr
       have HS9 := Lib.hid (HR8.out.below hb)
       have HY9 := Lib.hid (HY8.out.below hb)
       have HN9 := Lib.hid (HN8.out.below hb)
       have HB9 := Lib.hid (bnext HB8.out hb)
       clear hb hr h)
    | (go_at_call 17; (with_reducible refine (HIy.out _ _ _ _ _ HN9.out HY9.out).mono ?_); rintro e w10 ⟨rfl, hb⟩
       have HRa := Lib.hid (HR9.out.below hb)
       have HSa := Lib.hid (HS9.out.below hb)
       have HBa := Lib.hid (bnext HB9.out hb)
       clear hb)
    | (go_at_call 17; (with_reducible refine (HIx.out _ _ _ _ _ HSa.out HRa.out).mono ?_); rintro e w11 ⟨rfl, hb⟩
       have HBb := Lib.hid (bnext HBa.out hb)
       clear hb))
  go_ret
  exact ⟨rfl, HBb.out⟩
theorem small_fits {l : List InsD} (h : ∀ x ∈ l, x.small) : ∀ x ∈ l, x.fits := fun x hx => by
  obtain ⟨h1, h2, h3⟩ := h x hx
  exact ⟨by omega, by omega, by omega⟩
theorem flowTells_walk (l : List InsD) (k : Int) (A : Option Addr) (n c : Nat) (w : World) (T : Tab w) (R : InsRow w A n c l) (hw : ∀ x ∈ l, x.wf) (hf : ∀ x ∈ l, x.fits) (hs : ∀ x ∈ l, x.small) (hn : n ≤ 1048576) :
    Calls Tryd.prog 3 #[.slice A n c, .int .i64 k] w fun e w' => e = .returned (.bool true) ∧ Below w.heap.size w w' := by
  by_cases h0 : flowF l = 0
  · by_cases hk : 0 ≤ k ∧ k < (n : Int)
    · obtain ⟨j, rfl⟩ : ∃ j : Nat, k = (j : Int) := ⟨k.toNat, by omega⟩
      exact tells_in l j A n c w T R hw hf hs hn h0 (by omega)
    · exact tells_far l k A n c w T R hw hf hs hn h0 hk
  · exact tells_bad l k A n c w T R hw hf hs hn h0
end Go.Proofs.YtjfcmkjlmkgioaaDoor
