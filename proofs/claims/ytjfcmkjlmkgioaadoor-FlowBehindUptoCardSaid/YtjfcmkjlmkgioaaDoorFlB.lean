/- The walk of coffeehouselaw1.FlowBehind. -/
import Derived.Test.YtjfcmkjlmkgioaaDoorFlN
namespace Go.Proofs.YtjfcmkjlmkgioaaDoor
open Go.ChangeShapes Go.WideShapes Go.ChangeAt Go.RowKit
set_option linter.unusedVariables false
attribute [local go_sem] eqGuard_errV_nil eqGuard_errV_iface eql_errV_nil neq_errV_nil eql_errV_form

theorem Path.withinP {l : List InsD} {k i : Nat} (hp : Path l k i) (f : Nat → Prop) (h0 : f k) (hc : ∀ t, f t → ∀ j ∈ aftM l t, f j) : f i := by
  induction hp with
  | here k => exact h0
  | step h1 _ ih => exact ih (hc _ h0 _ h1)
theorem filter_more {g : Nat → Bool} {n : Nat} : ∀ k, (∀ i, i < n + k → g i = true → i < n) → (List.range (n + k)).filter g = (List.range n).filter g
  | 0, _ => rfl
  | k + 1, h => by
    rw [show n + (k + 1) = (n + k) + 1 by omega, filter_next, filter_more k (fun i hi => h i (by omega)), if_neg, List.append_nil]
    intro hg
    have := h (n + k) (by omega) hg
    omega
theorem aft_ahead {l m : List InsD} {k : Nat} (h : k < l.length) : aftM (l ++ m) k = aftM l k := by
  unfold aftM
  rw [List.getD_eq_getElem?_getD, List.getD_eq_getElem?_getD, List.getElem?_append_left h]
theorem path_behind {l m : List InsD} (hl : FlowOk l) (i : Nat) : Path (l ++ m) 0 i ↔ Path l 0 i := by
  have hpos := hl.2.2.2.1
  constructor
  · intro h
    refine h.withinP (fun t => Path l 0 t) (.here _) fun t ht j hj => ?_
    rw [aft_ahead (ht.lt hl hpos)] at hj
    exact ht.more hj
  · intro h
    refine (h.withinP (fun t => Path (l ++ m) 0 t ∧ t < l.length) ⟨.here _, hpos⟩ fun t ht j hj => ⟨?_, aft_lt hl ht.2 j hj⟩).1
    exact ht.1.more (by rw [aft_ahead ht.2]; exact hj)
theorem reach_behind {l m : List InsD} (hl : FlowOk l) {xs ys : List Nat} (hx : ReachL l xs) (hy : ReachL (l ++ m) ys) : ys = xs := by
  obtain ⟨g, hg, rfl⟩ := hy
  have hlen : (l ++ m).length = l.length + m.length := List.length_append
  rw [hlen, filter_more m.length fun i hi h => ((path_behind hl i).1 ((hg i (by omega)).1 h)).lt hl hl.2.2.2.1]
  exact hx.of fun i hi => by rw [hg i (by omega), path_behind hl i]
theorem ins_bare (w : World) (base : Nat) (hb : base ≤ w.heap.size) : (w.alloc (.cells #[] 44 (0, 0))).ownsRow base 44 6 (.slice (some ⟨w.heap.size, 0, none⟩) 0 0) ([] : List InsD).length (([] : List InsD).flatMap insC) :=
  World.ownsRow_made w #[] 0 hb (Nat.zero_le _) rfl
theorem reach_some {w w' : World} {l : List InsD} {xs : List Nat} {e : Ending} (h : ReachSays w l xs e w') : ∃ A k c, e = .returned (.tuple #[.slice A k c, errV (flowF l)]) ∧ Below w.heap.size w w' := by
  by_cases h0 : flowF l = 0
  · obtain ⟨A, c, rfl, _, hb⟩ := reach_row h h0
    exact ⟨A, _, c, by rw [h0]; rfl, hb⟩
  · obtain ⟨rfl, hb⟩ := reach_fails h h0
    exact ⟨_, _, _, rfl, hb⟩
theorem fits_small {l : List InsD} (h : ∀ x ∈ l, x.ty.length ≤ 1048576 ∧ x.cl.length ≤ 1048576 ∧ x.nm.length ≤ 1048576) : ∀ x ∈ l, x.fits := fun x hx => by
  obtain ⟨h1, h2, h3⟩ := h x hx
  exact ⟨by omega, by omega, by omega⟩
set_option maxRecDepth 20000 in
set_option maxHeartbeats 4000000 in
theorem flowBehind_walk (l m : List InsD) (A B : Option Addr) (n c k d : Nat) (w : World) (T : Tab w) (R : InsRow w A n c l) (S : InsRow w B k d m) (hA : A = none → n = 0 ∧ c = 0) (hB : B = none → k = 0 ∧ d = 0) (hw : ∀ x ∈ l, x.wf) (hf : ∀ x ∈ l, x.fits) (hw2 : ∀ x ∈ m, x.wf) (hf2 : ∀ x ∈ m, x.fits) (hn : n ≤ 1048576) (hk : k ≤ 1048576) :
    Calls Tryd.prog 5 #[.slice A n c, .slice B k d] w fun e w' => e = .returned (.bool true) ∧ Below w.heap.size w w' := by
  have hl : l.length = n := R.1
  have hm : m.length = k := S.1
  subst hl hm
  have hwb : ∀ x ∈ l ++ m, x.wf := fun x hx => (List.mem_append.1 hx).elim (hw x) (hw2 x)
  have hfb : ∀ x ∈ l ++ m, x.fits := fun x hx => (List.mem_append.1 hx).elim (hf x) (hf2 x)
  obtain ⟨xs, hxs⟩ := reach_exists l
  obtain ⟨ys, hys⟩ := reach_exists (l ++ m)
  have HFl := Lib.hid (fun W T => flowing_any W T)
  have HT := Lib.hid T
  have HR := Lib.hid R
  have HS := Lib.hid S
  have HA := Lib.hid hA
  have HB := Lib.hid hB
  by_cases h0 : flowF l = 0
  · by_cases h1 : flowF (l ++ m) = 0
    · have hok := (flowF_ok hw).1 h0
      have hx40 : xs.length ≤ 40 := Nat.le_trans hxs.length hok.1
      obtain rfl := reach_behind hok hxs hys
      have HR1 := Lib.hid (fun W T R => (reach_any l ys hxs A l.length c W T R hw hf).mono fun e w' h => reach_row h h0)
      have HR2 := Lib.hid (fun A c W T R => (reach_any (l ++ m) ys hys A (l.length + m.length) c W T R hwb hfb).mono fun e w' h => reach_row h h1)
      have HIx := Lib.hid (fun A B c d W R S => ints_same A B ys.length c d ys W R S (by omega))
      clear T R S hA hB hw hf hw2 hf2 hwb hfb h0 h1 hxs hys hok
      go_enter Tryd.func5, Tryd.ntmps5
      go_wp2_with (first
        | (go_at_call 8; (with_reducible refine (HFl.out _ HT.out).mono ?_); rintro e w1 ⟨rfl, hb⟩
           have HB1 := Lib.hid hb
           clear hb)
        | (at_builtin; refine wpList_ins_any rfl (.tmp 20) (.tmp 21) rfl w2.heap.size _ [] l rfl (ins_bare w2 _ (Nat.le_refl _)) A l.length c rfl (HR.out.below (bnext HB2.out (al1 _ _))) HA.out (by simp; omega) (by simp) ?_
           intro v3 w3 hv hb
           have HV3 := Lib.hid hv
           have HB23 := Lib.hid ((al1 w2 (.cells #[] 44)).trans hb)
           have HB3 := Lib.hid (bnext HB2.out HB23.out)
           clear hv hb)
        | (at_builtin; refine wpList_ins_any rfl (.tmp 22) (.tmp 23) rfl w2.heap.size _ ([] ++ l) m rfl HV3.out B m.length d rfl (HS.out.below HB3.out) HB.out (by simp; omega) HB23.out.size ?_
           intro v4 w4 hv hb
           rw [List.nil_append] at hv
           obtain ⟨A4, c4, rfl, hr⟩ := own_ins hv
           rw [List.length_append] at hr
           have HL4 := Lib.hid hr
           have HB24 := Lib.hid (HB23.out.trans hb)
           have HB4 := Lib.hid (bnext HB2.out HB24.out)
           have HX4 := Lib.hid (HX2.out.below HB24.out)
           clear hv hb hr)
        | (go_at_call 12; (with_reducible refine (HR1.out _ (HT.out.below HB1.out) (HR.out.below HB1.out)).mono ?_); rintro e w2 ⟨A2, c2, rfl, hr, hb⟩
           have HX2 := Lib.hid hr
           have HB2 := Lib.hid (bnext HB1.out hb)
           clear hb hr)
        | (go_at_call 12; (with_reducible refine (HR2.out _ _ _ (HT.out.below HB4.out) HL4.out).mono ?_); rintro e w5 ⟨A5, c5, rfl, hr, hb⟩
           have HY5 := Lib.hid hr
           have HX5 := Lib.hid (HX4.out.below hb)
           have HB5 := Lib.hid (bnext HB4.out hb)
           clear hb hr)
        | (go_at_call 17; (with_reducible refine (HIx.out _ _ _ _ _ HX5.out HY5.out).mono ?_); rintro e w6 ⟨rfl, hb⟩
           have HB6 := Lib.hid (bnext HB5.out hb)
           clear hb))
      go_ret
      exact ⟨rfl, HB6.out⟩
    · have HR1 := Lib.hid (fun W T R => (reach_any l xs hxs A l.length c W T R hw hf).mono fun e w' h => reach_row h h0)
      have HR2 := Lib.hid (fun A c W T R => (reach_any (l ++ m) ys hys A (l.length + m.length) c W T R hwb hfb).mono fun e w' h => reach_fails h h1)
      have hne : (flowF (l ++ m) != 0) = true := by rw [bne_iff_ne]; exact h1
      clear T R S hA hB hw hf hw2 hf2 hwb hfb h0 h1 hxs hys
      generalize flowF (l ++ m) = q at *
      go_enter Tryd.func5, Tryd.ntmps5
      go_wp2_with (first
        | (go_at_call 8; (with_reducible refine (HFl.out _ HT.out).mono ?_); rintro e w1 ⟨rfl, hb⟩
           have HB1 := Lib.hid hb
           clear hb)
        | (at_builtin; refine wpList_ins_any rfl (.tmp 20) (.tmp 21) rfl w2.heap.size _ [] l rfl (ins_bare w2 _ (Nat.le_refl _)) A l.length c rfl (HR.out.below (bnext HB2.out (al1 _ _))) HA.out (by simp; omega) (by simp) ?_
           intro v3 w3 hv hb
           have HV3 := Lib.hid hv
           have HB23 := Lib.hid ((al1 w2 (.cells #[] 44)).trans hb)
           have HB3 := Lib.hid (bnext HB2.out HB23.out)
           clear hv hb)
        | (at_builtin; refine wpList_ins_any rfl (.tmp 22) (.tmp 23) rfl w2.heap.size _ ([] ++ l) m rfl HV3.out B m.length d rfl (HS.out.below HB3.out) HB.out (by simp; omega) HB23.out.size ?_
           intro v4 w4 hv hb
           rw [List.nil_append] at hv
           obtain ⟨A4, c4, rfl, hr⟩ := own_ins hv
           rw [List.length_append] at hr
           have HL4 := Lib.hid hr
           have HB24 := Lib.hid (HB23.out.trans hb)
           have HB4 := Lib.hid (bnext HB2.out HB24.out)
           clear hv hb hr)
        | (go_at_call 12; (with_reducible refine (HR1.out _ (HT.out.below HB1.out) (HR.out.below HB1.out)).mono ?_); rintro e w2 ⟨A2, c2, rfl, hr, hb⟩
           have HB2 := Lib.hid (bnext HB1.out hb)
           clear hb hr)
        | (go_at_call 12; (with_reducible refine (HR2.out _ _ _ (HT.out.below HB4.out) HL4.out).mono ?_); rintro e w5 ⟨rfl, hb⟩
           have HB5 := Lib.hid (bnext HB4.out hb)
           clear hb))
      go_ret
      exact ⟨rfl, HB5.out⟩
  · have HR1 := Lib.hid (fun W T R => (reach_any l xs hxs A l.length c W T R hw hf).mono fun e w' h => reach_fails h h0)
    have HR2 := Lib.hid (fun A c W T R => (reach_any (l ++ m) ys hys A (l.length + m.length) c W T R hwb hfb).mono fun e w' h => reach_some h)
    have hne : (flowF l != 0) = true := by rw [bne_iff_ne]; exact h0
    clear T R S hA hB hw hf hw2 hf2 hwb hfb h0 hxs hys
    generalize flowF (l ++ m) = p at *
    generalize flowF l = q at *
    go_enter Tryd.func5, Tryd.ntmps5
    go_wp2_with (first
      | (go_at_call 8; (with_reducible refine (HFl.out _ HT.out).mono ?_); rintro e w1 ⟨rfl, hb⟩
         have HB1 := Lib.hid hb
         clear hb)
      | (at_builtin; refine wpList_ins_any rfl (.tmp 20) (.tmp 21) rfl w2.heap.size _ [] l rfl (ins_bare w2 _ (Nat.le_refl _)) A l.length c rfl (HR.out.below (bnext HB2.out (al1 _ _))) HA.out (by simp; omega) (by simp) ?_
         intro v3 w3 hv hb
         have HV3 := Lib.hid hv
         have HB23 := Lib.hid ((al1 w2 (.cells #[] 44)).trans hb)
         have HB3 := Lib.hid (bnext HB2.out HB23.out)
         clear hv hb)
      | (at_builtin; refine wpList_ins_any rfl (.tmp 22) (.tmp 23) rfl w2.heap.size _ ([] ++ l) m rfl HV3.out B m.length d rfl (HS.out.below HB3.out) HB.out (by simp; omega) HB23.out.size ?_
         intro v4 w4 hv hb
         rw [List.nil_append] at hv
         obtain ⟨A4, c4, rfl, hr⟩ := own_ins hv
         rw [List.length_append] at hr
         have HL4 := Lib.hid hr
         have HB24 := Lib.hid (HB23.out.trans hb)
         have HB4 := Lib.hid (bnext HB2.out HB24.out)
         clear hv hb hr)
      | (go_at_call 12; (with_reducible refine (HR1.out _ (HT.out.below HB1.out) (HR.out.below HB1.out)).mono ?_); rintro e w2 ⟨rfl, hb⟩
         have HB2 := Lib.hid (bnext HB1.out hb)
         clear hb)
      | (go_at_call 12; (with_reducible refine (HR2.out _ _ _ (HT.out.below HB4.out) HL4.out).mono ?_); rintro e w5 ⟨A5, k5, c5, rfl, hb⟩
         have HB5 := Lib.hid (bnext HB4.out hb)
         clear hb))
    go_ret
    exact ⟨rfl, HB5.out⟩
end Go.Proofs.YtjfcmkjlmkgioaaDoor
