/- The contract of the reference's ClassFault. -/
import Derived.Test.YtkolpbjpgobkcaaGreatDoorClF
import Derived.Test.YtkolpbjpgobkcaaGreatDoorGH
import Derived.Deep.RegionHeld
namespace Go.Proofs.YtkolpbjpgobkcaaGreatDoor
open Go.ChangeShapes Go.WideShapes Go.ChangeAt Go.RowKit
set_option linter.unusedVariables false
attribute [local go_sem] eqGuard_errV_nil eqGuard_errV_iface eql_errV_nil neq_errV_nil eql_errV_form

theorem emptyB_nil {l : List UInt8} (h : l = []) : (bs l).toList.isEmpty = true := by rw [h, ByteArray.toList_eq]; rfl
set_option maxRecDepth 20000 in
set_option maxHeartbeats 4000000 in
theorem rclass_name (x : ClassD) (A : Option Addr) (i j : Nat) (B : Option Addr) (k l : Nat) (C : Option Addr) (m n : Nat) (w : World) (hx : x.upto 1048576) (h : headB_ x = false) :
    Calls Tryz.prog 26 #[classV x A i j B k l C m n] w fun e w' => e = .returned (.int .i64 (classF x : Int)) ∧ Below w.heap.size w w' := by
  have HV := Lib.hid (classF_name h)
  have HN := fun w => isName_any (bs x.nm) w (by rw [bs_size]; have := hx.1; unfold maxLen; omega)
  have HS := fun w => isName_any (bs x.su) w (by rw [bs_size]; have := hx.2.1; unfold maxLen; omega)
  simp only [bs_list] at HN HS
  have hc := head_cases (c := x)
  rw [h] at hc
  simp only [Bool.false_eq_true, and_false, or_false, false_or, and_true] at hc
  clear hx h
  unfold classV
  rcases hc with h1 | ⟨h1, h2, h3⟩
  · rw [h1] at HN
    replace HN := Lib.hid HN
    clear h1 HS
    go_enter Tryz.func26, Tryz.ntmps26
    go_wp2_with (first
      | (go_at_call 38; (with_reducible refine (HN.out _).mono ?_); rintro e w2 ⟨rfl, rfl⟩))
    go_ret
    exact ⟨ret_int (by rw [HV.out]; rfl), al1 _ _⟩
  · rw [h1] at HN
    rw [h3] at HS
    replace HN := Lib.hid HN
    replace HS := Lib.hid HS
    have hne := emptyB_ne h2
    clear h1 h2 h3
    go_enter Tryz.func26, Tryz.ntmps26
    go_wp2_with (first
      | (go_at_call 38; (with_reducible refine (HN.out _).mono ?_); rintro e w2 ⟨rfl, rfl⟩)
      | (go_at_call 38; (with_reducible refine (HS.out _).mono ?_); rintro e w2 ⟨rfl, rfl⟩))
    go_ret
    exact ⟨ret_int (by rw [HV.out]; rfl), al1 _ _⟩

theorem behind_drew1 {w a : World} (h : Below w.drew.heap.size w.drew a) : Below w.heap.size w a := bnext (Below.refl w.heap.size w).drew h
theorem quiet_more {P : Program} {f : FuncId} {args : Array Value} {w : World} {b n : Nat} {u : Value} (h : Calls P f args (w.drewN (b + n)) fun e w' => e = .returned u ∧ w.drewN (b + n) = w') :
    Calls P f args (w.drewN (b + n)) fun e w'' => e = .returned u ∧ ∃ m, w'' = w.drewN (b + m) := h.mono fun _ _ ⟨he, hm⟩ => ⟨he, n, hm.symm⟩
set_option maxRecDepth 20000 in
set_option maxHeartbeats 8000000 in
theorem rclass_rest (x : ClassD) (A : Option Addr) (i j : Nat) (B : Option Addr) (k l : Nat) (C : Option Addr) (m n : Nat) (w : World) (RA : StrRow w A i j x.faces) (RB : FieldRow w B k l x.fields) (RC : MethRow w C m n x.meths) (hx : x.upto 1048576) (hw : x.wf) (h : headB_ x = true) :
    Calls Tryz.prog 26 #[classV x A i j B k l C m n] w fun e w' => e = .returned (.int .i64 (classF x : Int)) ∧ Below w.heap.size w w' := by
  have HN := fun w => isName_any (bs x.nm) w (by rw [bs_size]; have := hx.1; unfold maxLen; omega)
  have HS := fun w => isName_any (bs x.su) w (by rw [bs_size]; have := hx.2.1; unfold maxLen; omega)
  simp only [bs_list] at HN HS
  have hc := head_cases (c := x)
  rw [h] at hc
  simp only [Bool.true_eq_false, and_false, false_or, and_true] at hc
  have hli : x.faces.length = i := RA.1
  have hlk : x.fields.length = k := RB.1
  have hlm : x.meths.length = m := RC.1
  have hi2 : i ≤ 1048576 := by have := hx.2.2.1.2; omega
  have hk2 : k ≤ 1048576 := by have := hx.2.2.2.1.2; omega
  have hm2 : m ≤ 1048576 := by have := hx.2.2.2.2.2; omega
  have H0 := Lib.hid h
  have HX := Lib.hid hx
  have HW := Lib.hid hw
  have HLI := Lib.hid hli
  have HLK := Lib.hid hlk
  have HLM := Lib.hid hlm
  have HCB := Lib.hid (cbox_at w x A i j B k l C m n 51 (0, 0))
  have HB0 := Lib.hid (al1 w (.cells #[.string (bs x.nm), .string (bs x.su), .slice A i j, .bool x.face, .slice B k l, .slice C m n] 51))
  have HRA := Lib.hid (RA.below HB0.out)
  have HRB := Lib.hid (RB.below HB0.out)
  have HRC := Lib.hid (RC.below HB0.out)
  clear RA RB RC h hx hw hli hlk hlm
  unfold classV
  rcases hc with ⟨h1, h2⟩ | ⟨h1, h2, h3⟩
  all_goals
    rw [h1] at HN
    replace HN := Lib.hid HN
    clear h1
    first
    | rw [h3] at HS
    | skip
    replace HS := Lib.hid HS
    first
    | have hne := emptyB_ne h2
    | have hne := emptyB_nil h2
    clear h2
    try clear h3
    go_enter Tryz.func26, Tryz.ntmps26
    go_wp2_with (first
      | (go_at_call 38; (with_reducible refine (HN.out _).mono ?_); rintro e w2 ⟨rfl, rfl⟩)
      | (go_at_call 38; (with_reducible refine (HS.out _).mono ?_); rintro e w2 ⟨rfl, rfl⟩))
    generalize hv : w.alloc (.cells #[.string (bs x.nm), .string (bs x.su), .slice A i j, .bool x.face, .slice B k l, .slice C m n] 51) = v at *
    replace hv := Lib.hid hv
    obtain ⟨p0, p1, p2, p3, p4, p5, p6⟩ := HCB.out
    go_loopw [3] (fun v1 wr => ∃ a b : Nat, a ≤ i ∧ v1 = .int .i64 a ∧ Hid (CleanTo faceF x.faces a) ∧ wr = v.drewN b) (fun v1 _ => i - (intOf v1).toNat)
    case atStart => exact ⟨0, 0, Nat.zero_le _, rfl, Lib.hid (CleanTo.start _ _), rfl⟩
    case round =>
      obtain ⟨a, b, ha, rfl, HT, rfl⟩ := hrel
      by_cases hlt : a < i
      · obtain ⟨b1, o1, rfl, hb1, hx1⟩ := SRow.at_ HRA.out hlt
        have ha1 : a < x.faces.length := by rw [HLI.out]; exact hlt
        rw [Nat.mul_one] at hx1
        unfold StrAt at hx1
        have hys := HX.out.2.2.1.1 _ (List.getElem_mem ha1)
        have HFa := Lib.hid (show faceF (x.faces.take a) x.faces[a] ≠ 0 → classF x = faceF (x.faces.take a) x.faces[a] from fun h => by
          have e := HT.out.fault ha1 h
          rw [← e] at h ⊢
          exact classF_face H0.out h)
        have HNx := Lib.hid (show faceF (x.faces.take a) x.faces[a] = 0 → _ from fun h => HT.out.next ha1 h)
        have HNy := fun w => isName_any (bs x.faces[a]) w (by rw [bs_size]; unfold maxLen; omega)
        have HIn := fun q => rin_any (some ⟨b1, o1, none⟩) a j (x.faces.take a) x.faces[a] (v.drewN q) (StrRow.below (SRow.take HRA.out ha) (below_drawn (Below.refl _ _) q)) (by omega)
        have hcut := fun W => pre_str b1 o1 i j a (Nat.le_trans ha HRA.out.2.1) W
        simp only [bs_list] at HNy
        generalize hP : x.faces.take a = pre at *
        generalize x.faces[a] = y at *
        clear hP
        cases hny : nameB y with
        | false =>
          have HV := Lib.hid (HFa.out (by rw [faceF_name hny]; decide))
          rw [faceF_name hny] at HV
          rw [hny] at HNy
          replace HNy := Lib.hid HNy
          clear HFa HNx HIn hcut hny
          go_wp2_with (first
            | (go_at_call 38; (with_reducible refine (HNy.out _).mono ?_); rintro e w2 ⟨rfl, rfl⟩))
          go_ret
          exact ⟨ret_int (by rw [HV.out]; rfl), below_drawn HB0.out _⟩
        | true =>
          rw [hny] at HNy
          replace HNy := Lib.hid HNy
          cases hin : pre.any (· == y) with
          | true =>
            have HV := Lib.hid (HFa.out (by rw [faceF_twice hny hin]; decide))
            rw [faceF_twice hny hin] at HV
            rw [hin] at HIn
            replace HIn := Lib.hid HIn
            clear HFa HNx hny hin
            go_wp2_with (first
              | (go_at_call 38; (with_reducible refine (HNy.out _).mono ?_); rintro e w2 ⟨rfl, rfl⟩))
            go_quiet ((go_at_call 28; exact quiet_more (HIn.out _)))
            go_wp2
            go_ret
            exact ⟨ret_int (by rw [HV.out]; rfl), below_drawn (below_drawn HB0.out _) _⟩
          | false =>
            have HT2 := Lib.hid (HNx.out (faceF_none hny hin))
            rw [hin] at HIn
            replace HIn := Lib.hid HIn
            clear HFa HNx hny hin
            go_wp2_with (first
              | (go_at_call 38; (with_reducible refine (HNy.out _).mono ?_); rintro e w2 ⟨rfl, rfl⟩))
            go_quiet ((go_at_call 28; exact quiet_more (HIn.out _)))
            go_wp2
            go_roundw
            case rel => exact ⟨a + 1, _, by omega, by go_num, HT2, rfl⟩
            case measure => first | (simp [intOf]; omega) | simp [intOf]
      · obtain rfl : a = i := by omega
        have HF0 := Lib.hid (HT.out.all HLI.out)
        clear HT hlt ha
        have h8c : 8 < a ∨ (¬ 8 < a ∧ 8 < k) ∨ (¬ 8 < a ∧ ¬ 8 < k ∧ 8 < m) ∨ (¬ 8 < a ∧ ¬ 8 < k ∧ ¬ 8 < m) := by omega
        rcases h8c with g1 | ⟨g1, g2⟩ | ⟨g1, g2, g3⟩ | ⟨g1, g2, g3⟩
        · have HV := Lib.hid (classF_full H0.out HF0.out (.inl (by rw [HLI.out]; exact g1)))
          have e1 : decide ((8 : Int) < (a : Int)) = true := decide_eq_true (by omega)
          go_wp2_with fail
          go_ret
          exact ⟨ret_int (by rw [HV.out]; rfl), below_drawn HB0.out _⟩
        · have HV := Lib.hid (classF_full H0.out HF0.out (.inr (.inl (by rw [HLK.out]; exact g2))))
          have e1 : decide ((8 : Int) < (a : Int)) = false := decide_eq_false (by omega)
          have e2 : decide ((8 : Int) < (k : Int)) = true := decide_eq_true (by omega)
          go_wp2_with fail
          go_ret
          exact ⟨ret_int (by rw [HV.out]; rfl), below_drawn HB0.out _⟩
        · have HV := Lib.hid (classF_full H0.out HF0.out (.inr (.inr (by rw [HLM.out]; exact g3))))
          have e1 : decide ((8 : Int) < (a : Int)) = false := decide_eq_false (by omega)
          have e2 : decide ((8 : Int) < (k : Int)) = false := decide_eq_false (by omega)
          have e3 : decide ((8 : Int) < (m : Int)) = true := decide_eq_true (by omega)
          go_wp2_with fail
          go_ret
          exact ⟨ret_int (by rw [HV.out]; rfl), below_drawn HB0.out _⟩
        have H8 := Lib.hid (show ¬ (8 < x.faces.length ∨ 8 < x.fields.length ∨ 8 < x.meths.length) by rw [HLI.out, HLK.out, HLM.out]; omega)
        have HFi := Lib.hid (fun h => classF_field H0.out HF0.out H8.out h)
        have HMi := Lib.hid (fun h1 h2 => classF_meth H0.out HF0.out H8.out h1 h2)
        have HEi := Lib.hid (fun h1 h2 => classF_end H0.out HF0.out H8.out h1 h2)
        clear HF0 H8 H0
        have e1 : decide ((8 : Int) < (a : Int)) = false := decide_eq_false (by omega)
        have e2 : decide ((8 : Int) < (k : Int)) = false := decide_eq_false (by omega)
        have e3 : decide ((8 : Int) < (m : Int)) = false := decide_eq_false (by omega)
        go_wp2_with fail
        go_loopw [4, 5] (fun v1 _ wr => ∃ a b : Nat, a ≤ k ∧ v1 = .int .i64 a ∧ Hid (CleanTo fieldF x.fields a) ∧ wr = v.drewN b) (fun v1 _ _ => k - (intOf v1).toNat)
        case atStart => exact ⟨0, b, Nat.zero_le _, rfl, Lib.hid (CleanTo.start _ _), rfl⟩
        case round =>
          obtain ⟨a2, b', ha, rfl, HT, rfl⟩ := hrel
          by_cases hlt : a2 < k
          · obtain ⟨b1, o1, rfl, hb1, hx1⟩ := SRow.at_ HRB.out hlt
            have ha1 : a2 < x.fields.length := by rw [HLK.out]; exact hlt
            have hys := HX.out.2.2.2.1.1 _ (List.getElem_mem ha1)
            have HFa := Lib.hid (show fieldF (x.fields.take a2) x.fields[a2] ≠ 0 → classF x = fieldF (x.fields.take a2) x.fields[a2] from fun h => by
              have e := HT.out.fault ha1 h
              rw [← e] at h ⊢
              exact HFi.out h)
            have HNx := Lib.hid (show fieldF (x.fields.take a2) x.fields[a2] = 0 → _ from fun h => HT.out.next ha1 h)
            have HNy := fun w => isName_any (bs x.fields[a2].nm) w (by rw [bs_size]; have := hys.1; unfold maxLen; omega)
            have HTy := fun w => isType_any (bs x.fields[a2].ty) w (by rw [bs_size]; have := hys.2; unfold maxLen; omega)
            rw [show (bs x.fields[a2].ty).data.toList = x.fields[a2].ty from rfl] at HTy
            rw [show (bs x.fields[a2].nm).data.toList = x.fields[a2].nm from rfl] at HNy
            obtain ⟨c0, c1⟩ := hx1
            have HRB2 := Lib.hid (HRB.out)
            generalize hY : x.fields[a2] = y at *
            have hcase : (nameB y.nm = false) ∨ (nameB y.nm = true ∧ isTypeB y.ty = false) ∨ (nameB y.nm = true ∧ isTypeB y.ty = true) := by
              cases nameB y.nm <;> cases isTypeB y.ty <;> simp
            rcases hcase with h1 | ⟨h1, h2⟩ | ⟨h1, h2⟩
            · have HV := Lib.hid (HFa.out (by rw [fieldF_bad (by rw [h1]; rfl)]; decide))
              rw [fieldF_bad (by rw [h1]; rfl)] at HV
              rw [h1] at HNy
              replace HNy := Lib.hid HNy
              clear HFa HNx h1 HTy hY
              go_wp2_with (first
                | (go_at_call 38; (with_reducible refine (HNy.out _).mono ?_); rintro e w2 ⟨rfl, rfl⟩))
              go_ret
              exact ⟨ret_int (by rw [HV.out]; rfl), below_drawn HB0.out _⟩
            · have HV := Lib.hid (HFa.out (by rw [fieldF_bad (by rw [h1, h2]; rfl)]; decide))
              rw [fieldF_bad (by rw [h1, h2]; rfl)] at HV
              rw [h1] at HNy
              rw [h2] at HTy
              replace HNy := Lib.hid HNy
              replace HTy := Lib.hid HTy
              clear HFa HNx h1 h2 hY
              go_wp2_with (first
                | (go_at_call 38; (with_reducible refine (HNy.out _).mono ?_); rintro e w2 ⟨rfl, rfl⟩)
                | (go_at_call 39; (with_reducible refine (HTy.out _).mono ?_); rintro e w2 ⟨rfl, rfl⟩))
              go_ret
              exact ⟨ret_int (by rw [HV.out]; rfl), below_drawn HB0.out _⟩
            · have HOK := Lib.hid (show (nameB y.nm && isTypeB y.ty) = true by rw [h1, h2]; rfl)
              rw [h1] at HNy
              rw [h2] at HTy
              replace HNy := Lib.hid HNy
              replace HTy := Lib.hid HTy
              clear h1 h2 hY
              go_wp2_with (first
                | (go_at_call 38; (with_reducible refine (HNy.out _).mono ?_); rintro e w2 ⟨rfl, rfl⟩)
                | (go_at_call 39; (with_reducible refine (HTy.out _).mono ?_); rintro e w2 ⟨rfl, rfl⟩))
              go_loopw [5] (fun v1 wr => ∃ e b : Nat, e ≤ a2 ∧ v1 = .int .i64 e ∧ Hid ((x.fields.take e).any (fun z => z.nm == y.nm) = false) ∧ wr = v.drewN b) (fun v1 _ => a2 - (intOf v1).toNat)
              case atStart => exact ⟨0, b', Nat.zero_le _, rfl, Lib.hid rfl, rfl⟩
              case round =>
                obtain ⟨e, b2, he, rfl, HE, rfl⟩ := hrel
                by_cases hlt2 : e < a2
                · obtain ⟨b3, o3, hA3, hb3, hx3⟩ := SRow.at_ HRB.out (j := e) (by omega)
                  obtain ⟨rfl, rfl⟩ : b1 = b3 ∧ o1 = o3 := by simpa using hA3
                  have he1 : e < x.fields.length := by omega
                  have HN2 := Lib.hid (show (x.fields[e].nm == y.nm) = false → _ from fun h => any_take (p := fun z => z.nm == y.nm) he1 HE.out h)
                  have HY2 := Lib.hid (show (x.fields[e].nm == y.nm) = true → (x.fields.take a2).any (fun z => z.nm == y.nm) = true from fun h => any_at (p := fun z => z.nm == y.nm) (l := x.fields.take a2) (j := e) (by rw [List.length_take]; omega) (by rw [List.getElem_take]; exact h))
                  generalize x.fields[e] = z at *
                  obtain ⟨d0, d1⟩ := hx3
                  by_cases hz : z.nm = y.nm
                  · have HV := Lib.hid (HFa.out (by rw [fieldF_twice HOK.out (HY2.out (by simp [hz]))]; decide))
                    rw [fieldF_twice HOK.out (HY2.out (by simp [hz]))] at HV
                    rw [hz] at d0
                    clear HFa HNx HN2 HY2 hz hA3
                    go_wp2
                    go_quiet (fail)
                    go_wp2
                    go_ret
                    exact ⟨ret_int (by rw [HV.out]; rfl), below_drawn (below_drawn HB0.out _) _⟩
                  · have HE2 := Lib.hid (HN2.out (by simpa using hz))
                    have hne2 := str_ne hz
                    clear HN2 HY2 hz hA3
                    go_wp2
                    go_quiet (fail)
                    go_wp2
                    go_roundw
                    case rel => exact ⟨e + 1, _, by omega, by go_num, HE2, rfl⟩
                    case measure => first | (simp [intOf]; omega) | simp [intOf]
                · obtain rfl : e = a2 := by omega
                  have HT2 := Lib.hid (HNx.out (fieldF_none HOK.out HE.out))
                  clear HFa HNx
                  go_wp2
                  go_roundw
                  case rel => exact ⟨e + 1, b2, by omega, by go_num, HT2, rfl⟩
                  case measure => first | (simp [intOf]; omega) | simp [intOf]
          · obtain rfl : a2 = k := by omega
            have HD0 := Lib.hid (HT.out.all HLK.out)
            have HMi2 := Lib.hid (fun h => HMi.out HD0.out h)
            have HEi2 := Lib.hid (fun h => HEi.out HD0.out h)
            clear HT hlt ha HFi HMi HEi HD0
            go_wp2_with fail
            go_loopw [6, 7] (fun v1 _ wr => ∃ a : Nat, a ≤ m ∧ v1 = .int .i64 a ∧ Hid (CleanTo mtdF x.meths a) ∧ Hid (Below v.heap.size v wr)) (fun v1 _ _ => m - (intOf v1).toNat)
            case atStart => exact ⟨0, Nat.zero_le _, rfl, Lib.hid (CleanTo.start _ _), Lib.hid (below_drawn (Below.refl _ _) _)⟩
            case round =>
              obtain ⟨a3, ha, rfl, HT, HBr⟩ := hrel
              obtain ⟨r0, r1, r2, r3, r4, r5, r6⟩ := HCB.out.below HBr.out
              by_cases hlt : a3 < m
              · obtain ⟨b1, o1, rfl, hb1, hx1⟩ := SRow.at_ (HRC.out.below HBr.out) hlt
                have ha1 : a3 < x.meths.length := by rw [HLM.out]; exact hlt
                have hys := HX.out.2.2.2.2.1 _ (List.getElem_mem ha1)
                have hyw := HW.out _ (List.getElem_mem ha1)
                have HFa := Lib.hid (show mtdF (x.meths.take a3) x.meths[a3] ≠ 0 → classF x = mtdF (x.meths.take a3) x.meths[a3] from fun h => by
                  have e := HT.out.fault ha1 h
                  rw [← e] at h ⊢
                  exact HMi2.out h)
                have HNx := Lib.hid (show mtdF (x.meths.take a3) x.meths[a3] = 0 → _ from fun h => HT.out.next ha1 h)
                have hrow := SRow.take (HRC.out.below HBr.out) ha
                have hcut := fun W => pre_meth b1 o1 m n a3 (Nat.le_trans ha HRC.out.2.1) W
                generalize x.meths.take a3 = pre at *
                generalize x.meths[a3] = y at *
                obtain ⟨c0, c1, c2, c3, c4, c5, ⟨A6, n6, c6, hc6, R6, _⟩, ⟨A7, n7, c7, hc7, R7, _⟩⟩ := hx1
                have HMe := rmeth_any y pre A6 n6 c6 A7 n7 c7 (some ⟨b1, o1, none⟩) a3 n wr.drew (R6.below (Below.refl _ _).drew) (R7.below (Below.refl _ _).drew) (MethRow.below hrow (Below.refl _ _).drew) hys hyw (by omega)
                unfold methV at HMe
                clear hrow hys hyw
                by_cases hf0 : mtdF pre y = 0
                · have HT2 := Lib.hid (HNx.out hf0)
                  rw [hf0] at HMe
                  replace HMe := Lib.hid HMe
                  clear HFa HNx hf0 R6 R7
                  go_wp2_with fail
                  first | go_region_held (fun w' => w'.cell? ⟨w.heap.size, 5, none⟩ = some (.slice (some ⟨b1, o1, none⟩) m n) ∧ w'.cell? ⟨b1, o1 + a3 * 8, none⟩ = some (.string (bs y.nm)) ∧ w'.cell? ⟨b1, o1 + a3 * 8 + 1, none⟩ = some (.string (bs y.ty)) ∧ w'.cell? ⟨b1, o1 + a3 * 8 + 2, none⟩ = some (.bool y.st) ∧ w'.cell? ⟨b1, o1 + a3 * 8 + 3, none⟩ = some (.bool y.ab) ∧ w'.cell? ⟨b1, o1 + a3 * 8 + 4, none⟩ = some (.bool y.pr) ∧ w'.cell? ⟨b1, o1 + a3 * 8 + 5, none⟩ = some (.int .i64 y.lo) ∧ w'.cell? ⟨b1, o1 + a3 * 8 + 6, none⟩ = some (.slice A6 n6 c6) ∧ w'.cell? ⟨b1, o1 + a3 * 8 + 7, none⟩ = some (.slice A7 n7 c7))
                    (first | exact ⟨r6, c0, c1, c2, c3, c4, c5, hc6, hc7⟩ | exact ⟨s6, d0, d1, d2, d3, d4, d5, d6, d7⟩)
                    (first
                      | (go_at_call 40; (with_reducible refine HMe.out.mono ?_); rintro e w5 ⟨rfl, hb⟩; have B5 := Lib.hid (bnext HBr.out (behind_drew1 hb))
                         have s6 := (Below.cell (behind_drew1 hb) (p := ⟨w.heap.size, 5, none⟩) r0).trans r6
                         have d0 := (Below.cell (behind_drew1 hb) (p := ⟨b1, o1 + a3 * 8, none⟩) hb1).trans c0
                         have d1 := (Below.cell (behind_drew1 hb) (p := ⟨b1, o1 + a3 * 8 + 1, none⟩) hb1).trans c1
                         have d2 := (Below.cell (behind_drew1 hb) (p := ⟨b1, o1 + a3 * 8 + 2, none⟩) hb1).trans c2
                         have d3 := (Below.cell (behind_drew1 hb) (p := ⟨b1, o1 + a3 * 8 + 3, none⟩) hb1).trans c3
                         have d4 := (Below.cell (behind_drew1 hb) (p := ⟨b1, o1 + a3 * 8 + 4, none⟩) hb1).trans c4
                         have d5 := (Below.cell (behind_drew1 hb) (p := ⟨b1, o1 + a3 * 8 + 5, none⟩) hb1).trans c5
                         have d6 := (Below.cell (behind_drew1 hb) (p := ⟨b1, o1 + a3 * 8 + 6, none⟩) hb1).trans hc6
                         have d7 := (Below.cell (behind_drew1 hb) (p := ⟨b1, o1 + a3 * 8 + 7, none⟩) hb1).trans hc7
                         clear hb)) | fail
                  all_goals
                    go_wp2_with fail
                    go_round
                    case rel => exact ⟨a3 + 1, by omega, by go_num, HT2, B5⟩
                    case measure => first | (simp [intOf]; omega) | simp [intOf]
                · have HV := Lib.hid (HFa.out hf0)
                  have hne2 : ((mtdF pre y : Int) != 0) = true := by rw [bne_iff_ne]; omega
                  clear HFa HNx hf0 R6 R7
                  generalize mtdF pre y = ff at *
                  replace HMe := Lib.hid HMe
                  go_wp2_with fail
                  first | go_region_held (fun w' => w'.cell? ⟨w.heap.size, 5, none⟩ = some (.slice (some ⟨b1, o1, none⟩) m n) ∧ w'.cell? ⟨b1, o1 + a3 * 8, none⟩ = some (.string (bs y.nm)) ∧ w'.cell? ⟨b1, o1 + a3 * 8 + 1, none⟩ = some (.string (bs y.ty)) ∧ w'.cell? ⟨b1, o1 + a3 * 8 + 2, none⟩ = some (.bool y.st) ∧ w'.cell? ⟨b1, o1 + a3 * 8 + 3, none⟩ = some (.bool y.ab) ∧ w'.cell? ⟨b1, o1 + a3 * 8 + 4, none⟩ = some (.bool y.pr) ∧ w'.cell? ⟨b1, o1 + a3 * 8 + 5, none⟩ = some (.int .i64 y.lo) ∧ w'.cell? ⟨b1, o1 + a3 * 8 + 6, none⟩ = some (.slice A6 n6 c6) ∧ w'.cell? ⟨b1, o1 + a3 * 8 + 7, none⟩ = some (.slice A7 n7 c7))
                    (first | exact ⟨r6, c0, c1, c2, c3, c4, c5, hc6, hc7⟩ | exact ⟨s6, d0, d1, d2, d3, d4, d5, d6, d7⟩)
                    (first
                      | (go_at_call 40; (with_reducible refine HMe.out.mono ?_); rintro e w5 ⟨rfl, hb⟩; have B5 := Lib.hid (bnext HBr.out (behind_drew1 hb))
                         have s6 := (Below.cell (behind_drew1 hb) (p := ⟨w.heap.size, 5, none⟩) r0).trans r6
                         have d0 := (Below.cell (behind_drew1 hb) (p := ⟨b1, o1 + a3 * 8, none⟩) hb1).trans c0
                         have d1 := (Below.cell (behind_drew1 hb) (p := ⟨b1, o1 + a3 * 8 + 1, none⟩) hb1).trans c1
                         have d2 := (Below.cell (behind_drew1 hb) (p := ⟨b1, o1 + a3 * 8 + 2, none⟩) hb1).trans c2
                         have d3 := (Below.cell (behind_drew1 hb) (p := ⟨b1, o1 + a3 * 8 + 3, none⟩) hb1).trans c3
                         have d4 := (Below.cell (behind_drew1 hb) (p := ⟨b1, o1 + a3 * 8 + 4, none⟩) hb1).trans c4
                         have d5 := (Below.cell (behind_drew1 hb) (p := ⟨b1, o1 + a3 * 8 + 5, none⟩) hb1).trans c5
                         have d6 := (Below.cell (behind_drew1 hb) (p := ⟨b1, o1 + a3 * 8 + 6, none⟩) hb1).trans hc6
                         have d7 := (Below.cell (behind_drew1 hb) (p := ⟨b1, o1 + a3 * 8 + 7, none⟩) hb1).trans hc7
                         clear hb)) | fail
                  all_goals
                    go_wp2_with fail
                    go_ret
                    exact ⟨ret_int (by rw [HV.out]), bnext HB0.out B5.out⟩
              · obtain rfl : a3 = m := by omega
                have HE := Lib.hid (HEi2.out (HT.out.all HLM.out))
                have hk := HLK.out
                have hcase : (x.face = false ∧ Hid (classF x = 0)) ∨ (x.face = true ∧ a2 = 0 ∧ Hid (classF x = 0)) ∨ (x.face = true ∧ 0 < a2 ∧ Hid (classF x = 8)) := by
                  have e := HE.out
                  rw [hk] at e
                  cases hfc : x.face with
                  | false => rw [hfc] at e; exact .inl ⟨rfl, Lib.hid (by simpa using e)⟩
                  | true =>
                    rw [hfc] at e
                    rcases Nat.eq_zero_or_pos a2 with h | h
                    · exact .inr (.inl ⟨rfl, h, Lib.hid (by rw [h] at e; simpa using e)⟩)
                    · exact .inr (.inr ⟨rfl, h, Lib.hid (by
                        have h' : a2 ≠ 0 := by omega
                        simpa [h'] using e)⟩)
                clear hk HE
                rcases hcase with ⟨g1, HV⟩ | ⟨g1, g2, HV⟩ | ⟨g1, g2, HV⟩
                all_goals
                  rw [g1] at r4
                  go_wp2_with fail
                  go_ret
                  exact ⟨ret_int (by rw [HV.out]; rfl), bnext HB0.out HBr.out⟩
theorem rclass_any (x : ClassD) (A : Option Addr) (i j : Nat) (B : Option Addr) (k l : Nat) (C : Option Addr) (m n : Nat) (w : World) (RA : StrRow w A i j x.faces) (RB : FieldRow w B k l x.fields) (RC : MethRow w C m n x.meths) (hx : x.upto 1048576) (hw : x.wf) :
    Calls Tryz.prog 26 #[classV x A i j B k l C m n] w fun e w' => e = .returned (.int .i64 (classF x : Int)) ∧ Below w.heap.size w w' := by
  cases h : headB_ x with
  | false => exact rclass_name x A i j B k l C m n w hx h
  | true => exact rclass_rest x A i j B k l C m n w RA RB RC hx hw h
end Go.Proofs.YtkolpbjpgobkcaaGreatDoor
