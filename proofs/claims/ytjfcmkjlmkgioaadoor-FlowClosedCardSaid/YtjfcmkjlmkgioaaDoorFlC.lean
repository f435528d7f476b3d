/- The walk of coffeehouselaw1.FlowClosed. -/
import Derived.Test.YtjfcmkjlmkgioaaDoorFlN
namespace Go.Proofs.YtjfcmkjlmkgioaaDoor
open Go.ChangeShapes Go.WideShapes Go.ChangeAt Go.RowKit
set_option linter.unusedVariables false
attribute [local go_sem] eqGuard_errV_nil eqGuard_errV_iface eql_errV_nil neq_errV_nil eql_errV_form

theorem put_take {xs : List Nat} {f : Nat → Bool} {j : Nat} (hj : j < xs.length) (h : ∀ t, f t = true ↔ t ∈ xs.take j) : ∀ t, putB f xs[j] t = true ↔ t ∈ xs.take (j + 1) := fun t => by
  rw [List.take_succ_eq_append_getElem hj, List.mem_append, List.mem_singleton]
  unfold putB
  split
  · rename_i e; simp [e]
  · rename_i e; rw [h t]; simp [e]
/-- Each that is reached is the first or follows one that is reached. -/
theorem reached_from {l : List InsD} (hl : FlowOk l) {xs : List Nat} (h : ReachL l xs) {f : Nat → Bool} (h0 : f 0 = true) (hf : ∀ x ∈ xs, ∀ t ∈ aftM l x, f t = true) : ∀ i ∈ xs, f i = true := fun i hi => by
  rcases ((h.mem i).1 hi).2.last with rfl | ⟨t, ht, hit⟩
  · exact h0
  · exact hf t ((h.mem t).2 ⟨ht.lt hl hl.2.2.2.1, ht⟩) i hit
theorem reached_first {l : List InsD} (hl : FlowOk l) {xs : List Nat} (h : ReachL l xs) : 0 ∈ xs := (h.mem 0).2 ⟨hl.2.2.2.1, .here _⟩
theorem reached_next {l : List InsD} (hl : FlowOk l) {xs : List Nat} (h : ReachL l xs) {x t : Nat} (hx : x ∈ xs) (ht : t ∈ aftM l x) : t ∈ xs := by
  obtain ⟨h1, h2⟩ := (h.mem x).1 hx
  exact (h.mem t).2 ⟨aft_lt hl h1 t ht, h2.more ht⟩
set_option maxRecDepth 20000 in
set_option maxHeartbeats 2000000 in
theorem closed_bad (l : List InsD) (A : Option Addr) (n c : Nat) (w : World) (T : Tab w) (R : InsRow w A n c l) (hw : ∀ x ∈ l, x.wf) (hf : ∀ x ∈ l, x.fits) (h0 : flowF l ≠ 0) :
    Calls Tryd.prog 4 #[.slice A n c] w fun e w' => e = .returned (.bool true) ∧ Below w.heap.size w w' := by
  obtain ⟨xs, hxs⟩ := reach_exists l
  have HFl := Lib.hid (fun W T => flowing_any W T)
  have HRe := Lib.hid (fun W T R => (reach_any l xs hxs A n c W T R hw hf).mono fun e w' h => reach_fails h h0)
  have HT := Lib.hid T
  have HR := Lib.hid R
  have hne : (flowF l != 0) = true := by rw [bne_iff_ne]; exact h0
  clear T R hw hf h0 hxs
  generalize flowF l = q at *
  go_enter Tryd.func4, Tryd.ntmps4
  go_wp2_with (first
    | (go_at_call 8; (with_reducible refine (HFl.out _ HT.out).mono ?_); rintro e w1 ⟨rfl, hb⟩
       have HB1 := Lib.hid hb
       clear hb)
    | (go_at_call 12; (with_reducible refine (HRe.out _ (HT.out.below HB1.out) (HR.out.below HB1.out)).mono ?_); rintro e w2 ⟨rfl, hb⟩
       have HB2 := Lib.hid (bnext HB1.out hb)
       clear hb))
  go_ret
  exact ⟨rfl, HB2.out⟩
set_option maxRecDepth 20000 in
set_option maxHeartbeats 4000000 in
theorem closed_good (l : List InsD) (A : Option Addr) (n c : Nat) (w : World) (T : Tab w) (R : InsRow w A n c l) (hw : ∀ x ∈ l, x.wf) (hf : ∀ x ∈ l, x.fits) (h0 : flowF l = 0) :
    Calls Tryd.prog 4 #[.slice A n c] w fun e w' => e = .returned (.bool true) ∧ Below w.heap.size w w' := by
  have hl : l.length = n := R.1
  subst hl
  have hok := (flowF_ok hw).1 h0
  have h40 : l.length ≤ 40 := hok.1
  have hpos : 0 < l.length := hok.2.2.2.1
  obtain ⟨xs, hxs⟩ := reach_exists l
  have hx40 : xs.length ≤ 40 := Nat.le_trans hxs.length h40
  have HFl := Lib.hid (fun W T => flowing_any W T)
  have HRe := Lib.hid (fun W T R => (reach_any l xs hxs A l.length c W T R hw hf).mono fun e w' h => reach_row h h0)
  have HNe := Lib.hid (fun (k : Nat) (hk : k < l.length) W T R => (next_any l A l.length c (k : Int) W T R hw hf).mono fun e w' h => next_fresh h h0 hk)
  have HXs := Lib.hid hxs
  have HL := Lib.hid hok
  have hmk := fun W => make_bools W l.length (by omega)
  have HT := Lib.hid T
  have HR := Lib.hid R
  clear T R hw hf h0 hxs hok
  go_enter Tryd.func4, Tryd.ntmps4
  go_wp2_with (first
    | (go_at_call 8; (with_reducible refine (HFl.out _ HT.out).mono ?_); rintro e w1 ⟨rfl, hb⟩
       have HB1 := Lib.hid hb
       clear hb)
    | (go_at_call 12; (with_reducible refine (HRe.out _ (HT.out.below HB1.out) (HR.out.below HB1.out)).mono ?_); rintro e w2 ⟨A2, c2, rfl, hr, hb⟩
       have HB2 := Lib.hid (bnext HB1.out hb)
       have HX2 := Lib.hid hr
       have HT2 := Lib.hid (HT.out.below HB2.out)
       have HR2 := Lib.hid (HR.out.below HB2.out)
       have HF1 := Lib.hid ((found_made w2 l.length).alloc (.cells (madeCells #[.bool false] l.length) 4))
       have HF2 := Lib.hid (found_made2 w2 (.cells (madeCells #[.bool false] l.length) 4) l.length)
       have HW2 := Lib.hid (al2 w2 (.cells (madeCells #[.bool false] l.length) 4) (.cells (madeCells #[.bool false] l.length) 4))
       clear hb hr))
  generalize hv : (w2.alloc (.cells (madeCells #[.bool false] l.length) 4)).alloc (.cells (madeCells #[.bool false] l.length) 4) = v at *
  replace hv := Lib.hid hv
  go_loopw [8] (fun i wr => ∃ (j : Nat) (f1 : Nat → Bool), j ≤ xs.length ∧ i = .int .i64 j ∧ Hid (∀ t, f1 t = true ↔ t ∈ xs.take j) ∧ Hid (Found wr w2.heap.size l.length f1) ∧ Hid (Found wr (w2.heap.size + 1) l.length (fun _ => false)) ∧ Hid (Below w2.heap.size w2 wr)) (fun i _ => xs.length - (intOf i).toNat)
  case atStart => exact ⟨0, _, Nat.zero_le _, rfl, Lib.hid (fun t => by simp), HF1, HF2, HW2⟩
  case round =>
    obtain ⟨j, f1, hj, rfl, HE1, HF1, HF2, HB⟩ := hrel
    by_cases hlt : j < xs.length
    · obtain ⟨b1, o1, u1, rfl, hb1, hu1, hc1⟩ := (HX2.out.below HB.out).at_ hlt
      obtain rfl : natV xs[j] = u1 := by simpa [hlt] using hu1
      have htn := ((HXs.out.mem _).1 (List.getElem_mem hlt)).1
      have HE1p := Lib.hid (put_take hlt HE1.out)
      clear hu1
      generalize xs[j] = t at *
      unfold natV at hc1
      have hct := HF1.out.cell htn
      have hfz := HF1.out.frozen t
      have HF1p := Lib.hid (HF1.out.put t)
      have HF2p := Lib.hid (HF2.out.only ((Only.refl w2.heap.size wr).set t (.bool true)) (Nat.succ_ne_self _))
      have HBp := Lib.hid (HB.out.setCell (p := ⟨w2.heap.size, t, none⟩) (Nat.le_refl _) (.bool true))
      go_wp2_with fail
      go_round
      case rel => exact ⟨j + 1, _, by omega, by go_num, HE1p, HF1p, HF2p, HBp⟩
      case measure => first | (simp [intOf]; omega) | simp [intOf]
    · obtain rfl : j = xs.length := by omega
      have HE := HE1.out
      rw [List.take_of_length_le (Nat.le_refl _)] at HE
      replace HE := Lib.hid HE
      have hct := HF2.out.cell hpos
      have hfz := HF2.out.frozen 0
      have HF1p := Lib.hid (HF1.out.only ((Only.refl (w2.heap.size + 1) wr).set 0 (.bool true)) (Nat.succ_ne_self _).symm)
      have HF2p := Lib.hid (HF2.out.put 0)
      have HBp := Lib.hid (HB.out.setCell (p := ⟨w2.heap.size + 1, 0, none⟩) (Nat.le_succ _) (.bool true))
      clear HE1 HF1 HF2 HB hlt hj
      go_wp2_with fail
      generalize hv2 : wr.setCell ⟨w2.heap.size + 1, 0, none⟩ (.bool true) = v2 at *
      replace hv2 := Lib.hid hv2
      go_loopw [9, 10, 11, 12] (fun i _ _ _ wr => ∃ (j : Nat) (f2 : Nat → Bool), j ≤ xs.length ∧ i = .int .i64 j ∧ Hid (f2 0 = true) ∧ Hid (∀ x ∈ xs.take j, ∀ t ∈ aftM l x, f2 t = true) ∧ Hid (Found wr w2.heap.size l.length f1) ∧ Hid (Found wr (w2.heap.size + 1) l.length f2) ∧ Hid (Below w2.heap.size w2 wr)) (fun i _ _ _ _ => xs.length - (intOf i).toNat)
      case atStart => exact ⟨0, _, Nat.zero_le _, rfl, Lib.hid (putB_at _ _), Lib.hid (fun x hx => by cases hx), HF1p, HF2p, HBp⟩
      case round =>
        obtain ⟨j, f2, hj, rfl, HZ, HD, HF1, HF2, HB⟩ := hrel
        by_cases hlt : j < xs.length
        · obtain ⟨b1, o1, u1, rfl, hb1, hu1, hc1⟩ := (HX2.out.below HB.out).at_ hlt
          obtain rfl : natV xs[j] = u1 := by simpa [hlt] using hu1
          have hxm : xs[j] ∈ xs := List.getElem_mem hlt
          have htn := ((HXs.out.mem _).1 hxm).1
          have HNx := Lib.hid (HNe.out xs[j] htn wr (HT2.out.below HB.out) (HR2.out.below HB.out))
          have HLT := Lib.hid (aft_lt HL.out htn)
          have HIn := Lib.hid (show ∀ t ∈ aftM l xs[j], f1 t = true from fun t ht => (HE.out t).2 (reached_next HL.out HXs.out hxm ht))
          have HDn := Lib.hid (show ∀ f3 : Nat → Bool, (∀ t, f2 t = true → f3 t = true) → (∀ t ∈ aftM l xs[j], f3 t = true) → ∀ x ∈ xs.take (j + 1), ∀ t ∈ aftM l x, f3 t = true from fun f3 h1 h2 x hx t ht => by
            rw [List.take_succ_eq_append_getElem hlt] at hx
            rcases List.mem_append.1 hx with h | h
            · exact h1 t (HD.out x h t ht)
            · obtain rfl := List.mem_singleton.1 h
              exact h2 t ht)
          have hx2 := aft_len l xs[j]
          clear hu1 hxm
          generalize aftM l xs[j] = ys at *
          generalize xs[j] = x at *
          unfold natV at hc1
          go_wp2_with (first
            | (go_at_call 13; (with_reducible refine HNx.out.mono ?_); rintro e w3 ⟨A3, c3, rfl, hr, hb, ha⟩
               have HY3 := Lib.hid hr
               have HA3 := Lib.hid (show ∀ a, A3 = some a → a.block ≠ w2.heap.size + 1 from fun a h => Nat.ne_of_gt (Nat.lt_of_lt_of_le HF2.out.lt (ha a h)))
               have HF13 := Lib.hid (HF1.out.below hb)
               have HF23 := Lib.hid (HF2.out.below hb)
               have HB3 := Lib.hid (bnext HB.out hb)
               clear hr hb ha))
          go_loopw [12] (fun k wr => ∃ (m : Nat) (f3 : Nat → Bool), m ≤ ys.length ∧ k = .int .i64 m ∧ Hid (∀ t, f2 t = true → f3 t = true) ∧ Hid (∀ t ∈ ys.take m, f3 t = true) ∧ Hid (Found wr w2.heap.size l.length f1) ∧ Hid (Found wr (w2.heap.size + 1) l.length f3) ∧ Hid (Row wr A3 ys.length c3 (ys.map natV)) ∧ Hid (Below w2.heap.size w2 wr)) (fun k _ => ys.length - (intOf k).toNat)
          case atStart => exact ⟨0, f2, Nat.zero_le _, rfl, Lib.hid (fun _ h => h), Lib.hid (fun t ht => by cases ht), HF13, HF23, HY3, HB3⟩
          case round =>
            obtain ⟨m, f3, hm, rfl, HM, HP, HF1, HF2, HY, HB⟩ := hrel
            by_cases hlt2 : m < ys.length
            · obtain ⟨b2, o2, u2, rfl, hb2, hu2, hc2⟩ := HY.out.at_ hlt2
              obtain rfl : natV ys[m] = u2 := by simpa [hlt2] using hu2
              have hyn := HLT.out _ (List.getElem_mem hlt2)
              have hcin := HF1.out.cell hyn
              rw [HIn.out _ (List.getElem_mem hlt2)] at hcin
              have HPp := Lib.hid (show ∀ t ∈ ys.take (m + 1), putB f3 ys[m] t = true from fun t ht => by
                rw [List.take_succ_eq_append_getElem hlt2] at ht
                rcases List.mem_append.1 ht with h | h
                · exact putB_mono _ _ _ (HP.out t h)
                · obtain rfl := List.mem_singleton.1 h; exact putB_at _ _)
              have HMp := Lib.hid (show ∀ t, f2 t = true → putB f3 ys[m] t = true from fun t ht => putB_mono _ _ _ (HM.out t ht))
              clear hu2
              generalize ys[m] = t at *
              unfold natV at hc2
              have hct := HF2.out.cell hyn
              have hfz := HF2.out.frozen t
              have HF2p := Lib.hid (HF2.out.put t)
              have HF1p := Lib.hid (HF1.out.only ((Only.refl (w2.heap.size + 1) wr).set t (.bool true)) (Nat.succ_ne_self _).symm)
              have HYp := Lib.hid (HY.out.only HA3.out ((Only.refl (w2.heap.size + 1) wr).set t (.bool true)))
              have HBp := Lib.hid (HB.out.setCell (p := ⟨w2.heap.size + 1, t, none⟩) (Nat.le_succ _) (.bool true))
              go_wp2_with fail
              go_round
              case rel => exact ⟨m + 1, _, by omega, by go_num, HMp, HPp, HF1p, HF2p, HYp, HBp⟩
              case measure => first | (simp [intOf]; omega) | simp [intOf]
            · obtain rfl : m = ys.length := by omega
              have HDp := Lib.hid (HDn.out f3 HM.out (by have h := HP.out; rwa [List.take_of_length_le (Nat.le_refl _)] at h))
              have HZp := Lib.hid (HM.out 0 HZ.out)
              go_wp2_with fail
              go_round
              case rel => exact ⟨j + 1, f3, by omega, by go_num, HZp, HDp, HF1, HF2, HB⟩
              case measure => first | (simp [intOf]; omega) | simp [intOf]
        · obtain rfl : j = xs.length := by omega
          have HD2 := HD.out
          rw [List.take_of_length_le (Nat.le_refl _)] at HD2
          have HFr := Lib.hid (reached_from HL.out HXs.out HZ.out HD2)
          have hc0 := HF1.out.cell hpos
          rw [(HE.out 0).2 (reached_first HL.out HXs.out)] at hc0
          have HBe := Lib.hid (bnext HB2.out HB.out)
          clear HD2 HD hlt hj HZ
          go_wp2_with fail
          go_loopw [13] (fun i wv => ∃ j : Nat, j ≤ l.length ∧ i = .int .i64 j ∧ wv = wr) (fun i _ => l.length - (intOf i).toNat)
          case atStart => exact ⟨0, Nat.zero_le _, rfl, rfl⟩
          case round =>
            obtain ⟨i, hi, rfl, rfl⟩ := hrel
            by_cases hlt : i < l.length
            · have h1 := HF1.out.cell hlt
              have h2 := HF2.out.cell hlt
              cases hfi : f1 i with
              | false =>
                rw [hfi] at h1
                clear hfi h2
                go_wp2_with fail
                go_round
                case rel => exact ⟨i + 1, by omega, by go_num, by trivial⟩
                case measure => first | (simp [intOf]; omega) | simp [intOf]
              | true =>
                rw [hfi] at h1
                rw [HFr.out i ((HE.out i).1 hfi)] at h2
                clear hfi
                go_wp2_with fail
                go_round
                case rel => exact ⟨i + 1, by omega, by go_num, by trivial⟩
                case measure => first | (simp [intOf]; omega) | simp [intOf]
            · obtain rfl : i = l.length := by omega
              go_wp2
              go_ret
              exact ⟨rfl, HBe.out⟩
theorem flowClosed_walk (l : List InsD) (A : Option Addr) (n c : Nat) (w : World) (T : Tab w) (R : InsRow w A n c l) (hw : ∀ x ∈ l, x.wf) (hf : ∀ x ∈ l, x.fits) :
    Calls Tryd.prog 4 #[.slice A n c] w fun e w' => e = .returned (.bool true) ∧ Below w.heap.size w w' := by
  by_cases h0 : flowF l = 0
  · exact closed_good l A n c w T R hw hf h0
  · exact closed_bad l A n c w T R hw hf h0
end Go.Proofs.YtjfcmkjlmkgioaaDoor
