/- class.checkMethods. -/
import Derived.Test.YtkabkpkfglngnaaDoorClKC
import Derived.Test.YtkabkpkfglngnaaDoorClKE
namespace Go.Proofs.YtkabkpkfglngnaaDoor
open Go.ChangeShapes Go.WideShapes Go.ChangeAt Go.RowKit
set_option linter.unusedVariables false
attribute [local go_sem] eqGuard_errV_nil eqGuard_errV_iface eql_errV_nil neq_errV_nil eql_errV_form

theorem method_row {w w' : World} {l : List UInt8} {e : Ending} (h : MethodSays w l (errV (methF l)) e w') : ∃ A c t, e = .returned (.tuple #[.slice A (argsN l) c, .string t, errV (methF l)]) ∧ Below w.heap.size w w' := by
  obtain ⟨hb, v, rfl, hv⟩ := h
  obtain ⟨A, c, rfl⟩ := own_form hv
  exact ⟨A, c, _, by rw [argsN_methP], hb⟩
theorem method_yes {w w' : World} {l : List UInt8} {e : Ending} (h0 : (methodB l).isSome = true) (h : MethodSays w l (errV (methF l)) e w') : ∃ A c t, e = .returned (.tuple #[.slice A (argsN l) c, .string t, .nilIface]) ∧ Below w.heap.size w w' := by
  obtain ⟨A, c, t, h1, h2⟩ := method_row h
  exact ⟨A, c, t, by rw [h1, show methF l = 0 by unfold methF; rw [if_pos h0]]; rfl, h2⟩
theorem method_no {w w' : World} {l : List UInt8} {e : Ending} (h0 : (methodB l).isSome = false) (h : MethodSays w l (errV (methF l)) e w') : ∃ A c t, e = .returned (.tuple #[.slice A (argsN l) c, .string t, errV 1]) ∧ Below w.heap.size w w' := by
  obtain ⟨A, c, t, h1, h2⟩ := method_row h
  exact ⟨A, c, t, by rw [h1, show methF l = 1 by unfold methF; rw [h0]; rfl], h2⟩

set_option maxRecDepth 20000 in
set_option maxHeartbeats 16000000 in
theorem meths_any (xs : List MethD) (A : Option Addr) (n c : Nat) (w : World) (T : Tab w) (R : MethRow w A n c xs) (hn : n ≤ 140737488351232) (hs : ∀ x ∈ xs, x.upto 140737488351232) (hw : ∀ x ∈ xs, x.wf) :
    Calls Tryd.prog 14 #[.slice A n c] w fun e w' => e = .returned (errV (firstAt mtdF xs)) ∧ Below w.heap.size w w' := by
  have hl : xs.length = n := R.1
  have HL := Lib.hid hl
  have HR := Lib.hid R
  have HS := Lib.hid hs
  have HW := Lib.hid hw
  have HT0 := Lib.hid T
  clear hl R hs hw T
  go_enter Tryd.func14, Tryd.ntmps14
  go_wp2
  go_loopw [3, 4, 5, 6, 7, 8, 9, 12] (fun _ _ _ _ _ _ _ i wr => ∃ k : Nat, k ≤ n ∧ i = .int .i64 k ∧ Hid (CleanTo mtdF xs k) ∧ Hid (Below w.heap.size w wr)) (fun _ _ _ _ _ _ _ i _ => n - (intOf i).toNat)
  case atStart => exact ⟨0, Nat.zero_le _, rfl, Lib.hid (CleanTo.start _ _), Lib.hid (Below.refl _ _)⟩
  case round =>
    obtain ⟨k, hk, rfl, HT, HB⟩ := hrel
    by_cases hlt : k < n
    · obtain ⟨b1, o1, rfl, hb1, hx1⟩ := (MethRow.below HR.out HB.out).at_ hlt
      have hk1 : k < xs.length := by rw [HL.out]; exact hlt
      have hys := HS.out _ (List.getElem_mem hk1)
      have hyw := HW.out _ (List.getElem_mem hk1)
      have hs1 : (bs xs[k].nm).size ≤ maxLen := by rw [bs_size]; have := hys.1; unfold maxLen; omega
      have hs2 : (bs xs[k].ty).size ≤ 140737488351232 := by rw [bs_size]; exact hys.2.1
      have HFa := Lib.hid (show mtdF (xs.take k) xs[k] ≠ 0 → _ from fun h => HT.out.fault hk1 h)
      have HNx := Lib.hid (show mtdF (xs.take k) xs[k] = 0 → _ from fun h => HT.out.next hk1 h)
      have hcut := fun W => pre_meth b1 o1 n c k (Nat.le_trans hk HR.out.2.1) W
      have HHas := fun (W : World) (hB : Below w.heap.size w W) (h : W.cell? ⟨wr.heap.size, 0, none⟩ = some (.string (bs xs[k].nm))) (h' : W.cell? ⟨wr.heap.size, 1, none⟩ = some (.string (bs xs[k].ty))) (hb : wr.heap.size < W.heap.size) =>
        mhas_any (xs.take k) xs[k] wr.heap.size (some ⟨b1, o1, none⟩) k c W (MethRow.below (MethRow.take HR.out hk) hB) (by omega) h h' hb
      generalize xs.take k = pre at *
      generalize xs[k] = y at *
      obtain ⟨c0, c1, c2, c3, c4, c5, ⟨A1, n1, m1, c6, R1, _⟩, ⟨A2, n2, m2, c7, R2, _⟩⟩ := hx1
      have HX := Lib.hid (mbox_at wr y A1 n1 m1 A2 n2 m2 41 (0, 0))
      have HB0 := Lib.hid (al1 wr (.cells #[.string (bs y.nm), .string (bs y.ty), .bool y.st, .bool y.ab, .bool y.pr, .int .i64 y.lo, .slice A1 n1 m1, .slice A2 n2 m2] 41))
      have HBo := fun W T RC RH => body_any y A1 n1 m1 A2 n2 m2 W T RC RH hys hyw
      have HRC := Lib.hid (R1.below HB0.out)
      have HRH := Lib.hid (HandRow.below R2 HB0.out)
      have HT1 := Lib.hid (HT0.out.below (bnext HB.out HB0.out))
      clear R1 R2 hys hyw
      cases hmy : (methodB y.ty).isSome with
      | false =>
        have HV := Lib.hid (HFa.out (by rw [mtdF_bad (by rw [hmy, Bool.and_false])]; decide))
        rw [mtdF_bad (by rw [hmy, Bool.and_false])] at HV
        have HM := Lib.hid (fun w => (method_any (bs y.ty) w hs2).mono fun e w' h => method_no hmy h)
        clear HFa HNx HHas hcut HBo hmy
        cases hny : nameB y.nm with
        | false =>
          have HNy := Lib.hid (fun w => check_no (bs y.nm) w hny hs1)
          clear hny
          go_wp2_with (first
            | (go_at_call 24; (with_reducible refine (HM.out _).mono ?_); rintro e w1 ⟨D1, d1, t1, rfl, hb⟩
               have HB1 := Lib.hid (bnext (bnext HB.out HB0.out) hb)
               obtain ⟨q0, q1, q2, q3, q4, q5, q6, q7, q8⟩ := HX.out.below hb
               clear hb)
            | (go_at_call 11; (with_reducible refine (HNy.out _).mono ?_); rintro e w2 ⟨rfl, rfl⟩))
          go_ret
          exact ⟨ret_err (by rw [HV.out]; rfl), HB1.out⟩
        | true =>
          have HNy := Lib.hid (fun w => check_yes (bs y.nm) w hny hs1)
          clear hny
          go_wp2_with (first
            | (go_at_call 24; (with_reducible refine (HM.out _).mono ?_); rintro e w1 ⟨D1, d1, t1, rfl, hb⟩
               have HB1 := Lib.hid (bnext (bnext HB.out HB0.out) hb)
               obtain ⟨q0, q1, q2, q3, q4, q5, q6, q7, q8⟩ := HX.out.below hb
               clear hb)
            | (go_at_call 11; (with_reducible refine (HNy.out _).mono ?_); rintro e w2 ⟨rfl, rfl⟩))
          go_ret
          exact ⟨ret_err (by rw [HV.out]; rfl), HB1.out⟩
      | true =>
        have HM := Lib.hid (fun w => (method_any (bs y.ty) w hs2).mono fun e w' h => method_yes hmy h)
        cases hny : nameB y.nm with
        | false =>
          have HV := Lib.hid (HFa.out (by rw [mtdF_bad (by rw [hny, Bool.false_and])]; decide))
          rw [mtdF_bad (by rw [hny, Bool.false_and])] at HV
          have HNy := Lib.hid (fun w => check_no (bs y.nm) w hny hs1)
          clear HFa HNx HHas hcut HBo hmy hny
          go_wp2_with (first
            | (go_at_call 24; (with_reducible refine (HM.out _).mono ?_); rintro e w1 ⟨D1, d1, t1, rfl, hb⟩
               have HB1 := Lib.hid (bnext (bnext HB.out HB0.out) hb)
               obtain ⟨q0, q1, q2, q3, q4, q5, q6, q7, q8⟩ := HX.out.below hb
               clear hb)
            | (go_at_call 11; (with_reducible refine (HNy.out _).mono ?_); rintro e w2 ⟨rfl, rfl⟩))
          go_ret
          exact ⟨ret_err (by rw [HV.out]; rfl), HB1.out⟩
        | true =>
          have HNy := Lib.hid (fun w => check_yes (bs y.nm) w hny hs1)
          have H0 : (nameB y.nm && (methodB y.ty).isSome) = true := by rw [hny, hmy]; rfl
          cases hin : pre.any (twinB y) with
          | true =>
            have HV := Lib.hid (HFa.out (by rw [mtdF_twice H0 hin]; decide))
            rw [mtdF_twice H0 hin] at HV
            rw [hin] at HHas
            replace HHas := Lib.hid HHas
            clear HFa HNx HBo hmy hny hin H0
            go_wp2_with (first
              | (go_at_call 24; (with_reducible refine (HM.out _).mono ?_); rintro e w1 ⟨D1, d1, t1, rfl, hb⟩
                 have HB1 := Lib.hid (bnext (bnext HB.out HB0.out) hb)
                 obtain ⟨q0, q1, q2, q3, q4, q5, q6, q7, q8⟩ := HX.out.below hb
                 clear hb)
              | (go_at_call 11; (with_reducible refine (HNy.out _).mono ?_); rintro e w2 ⟨rfl, rfl⟩)
              | (go_at_call 26; (with_reducible refine (HHas.out _ HB1.out q1 q2 q0).mono ?_); rintro e w2 ⟨rfl, hb⟩
                 have HB2 := Lib.hid (bnext HB1.out hb)
                 clear hb))
            go_ret
            exact ⟨ret_err (by rw [HV.out]; rfl), HB2.out⟩
          | false =>
            rw [hin] at HHas
            replace HHas := Lib.hid HHas
            have hr0 : y.lo < 0 ∨ 8 < y.lo ∨ (¬ y.lo < 0 ∧ ¬ 8 < y.lo) := by omega
            rcases hr0 with hr | hr | ⟨hr1, hr2⟩
            · have hv := mtdF_range (pre := pre) H0 hin (.inl hr)
              have HV := Lib.hid (HFa.out (by rw [hv]; decide))
              rw [hv] at HV
              replace HBo := Lib.hid HBo
              clear HFa HNx hmy hny hin H0 hv
              go_wp2_with (first
                | (go_at_call 24; (with_reducible refine (HM.out _).mono ?_); rintro e w1 ⟨D1, d1, t1, rfl, hb⟩
                   have HB1 := Lib.hid (bnext (bnext HB.out HB0.out) hb)
                   have HX1 := Lib.hid (HX.out.below hb)
                   have HC1 := Lib.hid (HRC.out.below hb)
                   have HH1 := Lib.hid (HandRow.below HRH.out hb)
                   have HT2 := Lib.hid (HT1.out.below hb)
                   obtain ⟨q0, q1, q2, q3, q4, q5, q6, q7, q8⟩ := HX.out.below hb
                   clear hb)
                | (go_at_call 11; (with_reducible refine (HNy.out _).mono ?_); rintro e w2 ⟨rfl, rfl⟩)
                | (go_at_call 26; (with_reducible refine (HHas.out _ HB1.out q1 q2 q0).mono ?_); rintro e w2 ⟨rfl, hb⟩
                   have HB2 := Lib.hid (bnext HB1.out hb)
                   have HC2 := Lib.hid (HC1.out.below hb)
                   have HH2 := Lib.hid (HandRow.below HH1.out hb)
                   have HT3 := Lib.hid (HT2.out.below hb)
                   obtain ⟨r0, r1, r2, r3, r4, r5, r6, r7, r8⟩ := HX1.out.below hb
                   clear hb)
                | (go_at_call 27; (with_reducible refine (HBo.out _ HT3.out HC2.out HH2.out).mono ?_); rintro e w3 ⟨rfl, hb⟩
                   have HB3 := Lib.hid (bnext HB2.out hb)
                   clear hb))
              go_ret
              exact ⟨ret_err (by rw [HV.out]; rfl), HB2.out⟩
            · have hv := mtdF_range (pre := pre) H0 hin (.inr hr)
              have HV := Lib.hid (HFa.out (by rw [hv]; decide))
              rw [hv] at HV
              replace HBo := Lib.hid HBo
              clear HFa HNx hmy hny hin H0 hv
              go_wp2_with (first
                | (go_at_call 24; (with_reducible refine (HM.out _).mono ?_); rintro e w1 ⟨D1, d1, t1, rfl, hb⟩
                   have HB1 := Lib.hid (bnext (bnext HB.out HB0.out) hb)
                   have HX1 := Lib.hid (HX.out.below hb)
                   have HC1 := Lib.hid (HRC.out.below hb)
                   have HH1 := Lib.hid (HandRow.below HRH.out hb)
                   have HT2 := Lib.hid (HT1.out.below hb)
                   obtain ⟨q0, q1, q2, q3, q4, q5, q6, q7, q8⟩ := HX.out.below hb
                   clear hb)
                | (go_at_call 11; (with_reducible refine (HNy.out _).mono ?_); rintro e w2 ⟨rfl, rfl⟩)
                | (go_at_call 26; (with_reducible refine (HHas.out _ HB1.out q1 q2 q0).mono ?_); rintro e w2 ⟨rfl, hb⟩
                   have HB2 := Lib.hid (bnext HB1.out hb)
                   have HC2 := Lib.hid (HC1.out.below hb)
                   have HH2 := Lib.hid (HandRow.below HH1.out hb)
                   have HT3 := Lib.hid (HT2.out.below hb)
                   obtain ⟨r0, r1, r2, r3, r4, r5, r6, r7, r8⟩ := HX1.out.below hb
                   clear hb)
                | (go_at_call 27; (with_reducible refine (HBo.out _ HT3.out HC2.out HH2.out).mono ?_); rintro e w3 ⟨rfl, hb⟩
                   have HB3 := Lib.hid (bnext HB2.out hb)
                   clear hb))
              go_ret
              exact ⟨ret_err (by rw [HV.out]; rfl), HB2.out⟩
            · have hE := mtdF_rest (pre := pre) H0 hin (by omega)
              simp only [← hE] at HBo
              unfold methV at HBo
              by_cases h0 : mtdF pre y = 0
              · have HN2 := Lib.hid (HNx.out h0)
                rw [h0] at HBo
                replace HBo := Lib.hid HBo
                clear HFa HNx hmy hny hin H0 hE h0
                go_wp2_with (first
                | (go_at_call 24; (with_reducible refine (HM.out _).mono ?_); rintro e w1 ⟨D1, d1, t1, rfl, hb⟩
                   have HB1 := Lib.hid (bnext (bnext HB.out HB0.out) hb)
                   have HX1 := Lib.hid (HX.out.below hb)
                   have HC1 := Lib.hid (HRC.out.below hb)
                   have HH1 := Lib.hid (HandRow.below HRH.out hb)
                   have HT2 := Lib.hid (HT1.out.below hb)
                   obtain ⟨q0, q1, q2, q3, q4, q5, q6, q7, q8⟩ := HX.out.below hb
                   clear hb)
                | (go_at_call 11; (with_reducible refine (HNy.out _).mono ?_); rintro e w2 ⟨rfl, rfl⟩)
                | (go_at_call 26; (with_reducible refine (HHas.out _ HB1.out q1 q2 q0).mono ?_); rintro e w2 ⟨rfl, hb⟩
                   have HB2 := Lib.hid (bnext HB1.out hb)
                   have HC2 := Lib.hid (HC1.out.below hb)
                   have HH2 := Lib.hid (HandRow.below HH1.out hb)
                   have HT3 := Lib.hid (HT2.out.below hb)
                   obtain ⟨r0, r1, r2, r3, r4, r5, r6, r7, r8⟩ := HX1.out.below hb
                   clear hb)
                | (go_at_call 27; (with_reducible refine (HBo.out _ HT3.out HC2.out HH2.out).mono ?_); rintro e w3 ⟨rfl, hb⟩
                   have HB3 := Lib.hid (bnext HB2.out hb)
                   clear hb))
                go_roundw
                case rel => exact ⟨k + 1, by omega, by go_num, HN2, HB3⟩
                case measure => first | (simp [intOf]; omega) | simp [intOf]
              · have HV := Lib.hid (HFa.out h0)
                have hne : (mtdF pre y != 0) = true := by rw [bne_iff_ne]; exact h0
                replace HBo := Lib.hid HBo
                clear HFa HNx hmy hny hin H0 hE h0
                generalize mtdF pre y = ff at *
                go_wp2_with (first
                | (go_at_call 24; (with_reducible refine (HM.out _).mono ?_); rintro e w1 ⟨D1, d1, t1, rfl, hb⟩
                   have HB1 := Lib.hid (bnext (bnext HB.out HB0.out) hb)
                   have HX1 := Lib.hid (HX.out.below hb)
                   have HC1 := Lib.hid (HRC.out.below hb)
                   have HH1 := Lib.hid (HandRow.below HRH.out hb)
                   have HT2 := Lib.hid (HT1.out.below hb)
                   obtain ⟨q0, q1, q2, q3, q4, q5, q6, q7, q8⟩ := HX.out.below hb
                   clear hb)
                | (go_at_call 11; (with_reducible refine (HNy.out _).mono ?_); rintro e w2 ⟨rfl, rfl⟩)
                | (go_at_call 26; (with_reducible refine (HHas.out _ HB1.out q1 q2 q0).mono ?_); rintro e w2 ⟨rfl, hb⟩
                   have HB2 := Lib.hid (bnext HB1.out hb)
                   have HC2 := Lib.hid (HC1.out.below hb)
                   have HH2 := Lib.hid (HandRow.below HH1.out hb)
                   have HT3 := Lib.hid (HT2.out.below hb)
                   obtain ⟨r0, r1, r2, r3, r4, r5, r6, r7, r8⟩ := HX1.out.below hb
                   clear hb)
                | (go_at_call 27; (with_reducible refine (HBo.out _ HT3.out HC2.out HH2.out).mono ?_); rintro e w3 ⟨rfl, hb⟩
                   have HB3 := Lib.hid (bnext HB2.out hb)
                   clear hb))
                go_ret
                exact ⟨by rw [HV.out]; rfl, HB3.out⟩
    · obtain rfl : k = n := by omega
      have HV := Lib.hid (HT.out.all HL.out)
      go_wp2
      go_ret
      exact ⟨ret_err (by rw [HV.out]; rfl), HB.out⟩
end Go.Proofs.YtkabkpkfglngnaaDoor
