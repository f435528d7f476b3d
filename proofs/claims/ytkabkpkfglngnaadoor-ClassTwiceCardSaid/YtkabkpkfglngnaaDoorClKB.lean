/- class.checkFields: a search among the earlier fields by a closure. -/
import Derived.Test.YtkabkpkfglngnaaDoorClE
import Derived.Test.YtkabkpkfglngnaaDoorClB
import Derived.Test.YtkabkpkfglngnaaDoorNaC
namespace Go.Proofs.YtkabkpkfglngnaaDoor
open Go.ChangeShapes Go.WideShapes Go.ChangeAt Go.RowKit
set_option linter.unusedVariables false
attribute [local go_sem] eqGuard_errV_nil eqGuard_errV_iface eql_errV_nil neq_errV_nil eql_errV_form

set_option maxHeartbeats 1000000 in
theorem fsame_any (x y : FieldD) (b : Nat) (w : World) (h : w.cell? ⟨b, 0, none⟩ = some (.string (bs y.nm))) (hb : b < w.heap.size) :
    Calls Tryd.prog 22 #[.agg #[.string (bs x.nm), .string (bs x.ty)], .pointer (some ⟨b, 0, none⟩)] w fun e w' => e = .returned (.bool (x.nm == y.nm)) ∧ Below w.heap.size w w' := by
  by_cases he : x.nm = y.nm
  · have e : (x.nm == y.nm) = true := by simpa using he
    rw [e]
    rw [← he] at h
    clear e he
    go_enter Tryd.func22, Tryd.ntmps22
    go_wp2
    go_ret
    exact ⟨rfl, al1 _ _⟩
  · have e : (x.nm == y.nm) = false := by simpa using he
    rw [e]
    have hne := str_ne he
    clear e he
    go_enter Tryd.func22, Tryd.ntmps22
    go_wp2
    go_ret
    exact ⟨rfl, al1 _ _⟩

set_option maxRecDepth 20000 in
set_option maxHeartbeats 2000000 in
theorem findex_any (xs : List FieldD) (y : FieldD) (b : Nat) (A : Option Addr) (n c : Nat) (w : World) (R : FieldRow w A n c xs) (hn : n ≤ 140737488351232) (h : w.cell? ⟨b, 0, none⟩ = some (.string (bs y.nm))) (hb : b < w.heap.size) :
    Calls Tryd.prog 35 #[.slice A n c, .func (.func 22) #[] #[.pointer (some ⟨b, 0, none⟩)]] w
      fun e w' => ∃ k : Int, e = .returned (.int .i64 k) ∧ (xs.any (fun x => x.nm == y.nm) = true → ∃ m : Nat, k = m) ∧ (xs.any (fun x => x.nm == y.nm) = false → k = -1) ∧ Below w.heap.size w w' := by
  have hl : xs.length = n := R.1
  have HL := Lib.hid hl
  have HR := Lib.hid R
  have HC := Lib.hid (fun (W : World) (x : FieldD) (hB : Below w.heap.size w W) => fsame_any x y b W ((hB.cell (p := ⟨b, 0, none⟩) hb).trans h) (Nat.lt_of_lt_of_le hb hB.size))
  clear hl R h hb
  go_enter Tryd.func35, Tryd.ntmps35
  go_wp2
  go_loopw [5, 8] (fun _ i wr => ∃ k : Nat, k ≤ n ∧ i = .int .i64 k ∧ Hid ((xs.take k).any (fun x => x.nm == y.nm) = false) ∧ Hid (Below w.heap.size w wr)) (fun _ i _ => n - (intOf i).toNat)
  case atStart => exact ⟨0, Nat.zero_le _, rfl, Lib.hid rfl, Lib.hid (Below.refl _ _)⟩
  case round =>
    obtain ⟨k, hk, rfl, HT, HB⟩ := hrel
    by_cases hlt : k < n
    · obtain ⟨b1, o1, rfl, hb1, hx1⟩ := (FieldRow.below HR.out HB.out).at_ hlt
      have hk1 : k < xs.length := by rw [HL.out]; exact hlt
      have HX := fun hB => HC.out wr xs[k] hB
      have HTN := Lib.hid (show (xs[k].nm == y.nm) = false → _ from fun h => any_take (p := fun x => x.nm == y.nm) hk1 HT.out h)
      have HTA := Lib.hid (show (xs[k].nm == y.nm) = true → _ from fun h => any_at (p := fun x => x.nm == y.nm) hk1 h)
      generalize xs[k] = x at *
      obtain ⟨c0, c1⟩ := hx1
      cases he : (x.nm == y.nm) with
      | true =>
        rw [he] at HX
        replace HX := Lib.hid HX
        have HA := Lib.hid (HTA.out he)
        clear HTN HTA he
        go_wp2_with (first
          | (go_at_call 22; (with_reducible refine (HX.out HB.out).mono ?_); rintro e w1 ⟨rfl, hb⟩
             have HB1 := Lib.hid (bnext HB.out hb)
             clear hb))
        go_ret
        exact ⟨_, rfl, fun _ => ⟨k, rfl⟩, fun h => absurd (HA.out.symm.trans h) (by simp), HB1.out⟩
      | false =>
        rw [he] at HX
        replace HX := Lib.hid HX
        have HA := Lib.hid (HTN.out he)
        clear HTN HTA he
        go_wp2_with (first
          | (go_at_call 22; (with_reducible refine (HX.out HB.out).mono ?_); rintro e w1 ⟨rfl, hb⟩
             have HB1 := Lib.hid (bnext HB.out hb)
             clear hb))
        go_roundw
        case rel => exact ⟨k + 1, by omega, by go_num, HA, HB1⟩
        case measure => first | (simp [intOf]; omega) | simp [intOf]
    · obtain rfl : k = n := by omega
      have h := HT.out
      rw [List.take_of_length_le (by rw [HL.out]; exact Nat.le_refl _)] at h
      replace h := Lib.hid h
      go_wp2
      go_ret
      exact ⟨_, rfl, fun h' => absurd (h.out.symm.trans h') (by simp), fun _ => rfl, HB.out⟩
set_option maxHeartbeats 1000000 in
theorem fhas_any (xs : List FieldD) (y : FieldD) (b : Nat) (A : Option Addr) (n c : Nat) (w : World) (R : FieldRow w A n c xs) (hn : n ≤ 140737488351232) (h : w.cell? ⟨b, 0, none⟩ = some (.string (bs y.nm))) (hb : b < w.heap.size) :
    Calls Tryd.prog 23 #[.slice A n c, .func (.func 22) #[] #[.pointer (some ⟨b, 0, none⟩)]] w
      fun e w' => e = .returned (.bool (xs.any (fun x => x.nm == y.nm))) ∧ Below w.heap.size w w' := by
  have H := Lib.hid (findex_any xs y b A n c w R hn h hb)
  clear R h hb
  generalize xs.any (fun x => x.nm == y.nm) = q at *
  cases q with
  | true =>
    go_enter Tryd.func23, Tryd.ntmps23
    go_wp2_with (first
      | (go_at_call 35; (with_reducible refine H.out.mono ?_); rintro e w1 ⟨k, rfl, h1, _, hb⟩
         obtain ⟨m, rfl⟩ := h1 rfl
         have HB1 := Lib.hid hb
         clear hb h1))
    go_ret
    exact ⟨ret_bool (by simp), HB1.out⟩
  | false =>
    go_enter Tryd.func23, Tryd.ntmps23
    go_wp2_with (first
      | (go_at_call 35; (with_reducible refine H.out.mono ?_); rintro e w1 ⟨k, rfl, _, h2, hb⟩
         obtain rfl := h2 rfl
         have HB1 := Lib.hid hb
         clear hb h2))
    go_ret
    exact ⟨ret_bool (by simp), HB1.out⟩

theorem size_field (w : World) : (Go.sizeOf 36).run Tryd.prog w = .ok 2 w := by kernel_rfl
theorem pre_field (b o n c h : Nat) (hc : h ≤ c) (W : World) : (Instr.sliceAt 23 (.slice (some ⟨b, o, none⟩) n c) none (some (.int .i64 (h : Int))) none).run Tryd.prog W = .ok (.slice (some ⟨b, o, none⟩) h c) W := by
  have e : Tryd.prog.underlying 23 = some (.slice (Tryd.prog.elem 23)) := by kernel_rfl
  have e2 : Tryd.prog.elem 23 = 36 := by kernel_rfl
  rw [run_sliceAt_slice W _ _ _ _ _ e, run_slice_h W _ _ n c e .i64 _ (by omega) (by omega), e2, size_field]
  show Result.ok (sliced (some ⟨b, o, none⟩) 0 h c 2) W = _
  rw [sliced_pre]
theorem dcheck_yes (s : List UInt8) (w : World) (h : isTypeB s = true) (hs : (bs s).size ≤ maxLen) : Calls Tryd.prog 21 #[.string (bs s)] w fun e w' => e = .returned (errV 0) ∧ w = w' :=
  (dcheck_any (bs s) w hs).mono fun _ _ ⟨h1, h2⟩ => ⟨by rw [h1, bs_list, typeF_yes h], h2⟩
theorem dcheck_no (s : List UInt8) (w : World) (h : isTypeB s = false) (hs : (bs s).size ≤ maxLen) : Calls Tryd.prog 21 #[.string (bs s)] w fun e w' => e = .returned (errV 1) ∧ w = w' :=
  (dcheck_any (bs s) w hs).mono fun _ _ ⟨h1, h2⟩ => ⟨by rw [h1, bs_list, typeF_no h], h2⟩
set_option maxRecDepth 20000 in
set_option maxHeartbeats 4000000 in
theorem fields_any (xs : List FieldD) (A : Option Addr) (n c : Nat) (w : World) (R : FieldRow w A n c xs) (hn : n ≤ 140737488351232) (hs : ∀ x ∈ xs, x.nm.length ≤ 140737488351232 ∧ x.ty.length ≤ 140737488351232) :
    Calls Tryd.prog 13 #[.slice A n c] w fun e w' => e = .returned (errV (firstAt fieldF xs)) ∧ Below w.heap.size w w' := by
  have hl : xs.length = n := R.1
  have HL := Lib.hid hl
  have HR := Lib.hid R
  have HS := Lib.hid hs
  clear hl R hs
  go_enter Tryd.func13, Tryd.ntmps13
  go_wp2
  go_loopw [3, 4, 5, 8] (fun _ _ _ i wr => ∃ k : Nat, k ≤ n ∧ i = .int .i64 k ∧ Hid (CleanTo fieldF xs k) ∧ Hid (Below w.heap.size w wr)) (fun _ _ _ i _ => n - (intOf i).toNat)
  case atStart => exact ⟨0, Nat.zero_le _, rfl, Lib.hid (CleanTo.start _ _), Lib.hid (Below.refl _ _)⟩
  case round =>
    obtain ⟨k, hk, rfl, HT, HB⟩ := hrel
    by_cases hlt : k < n
    · obtain ⟨b1, o1, rfl, hb1, hx1⟩ := (FieldRow.below HR.out HB.out).at_ hlt
      have hk1 : k < xs.length := by rw [HL.out]; exact hlt
      have hys := HS.out _ (List.getElem_mem hk1)
      have hs1 : (bs xs[k].nm).size ≤ maxLen := by rw [bs_size]; have := hys.1; unfold maxLen; omega
      have hs2 : (bs xs[k].ty).size ≤ maxLen := by rw [bs_size]; have := hys.2; unfold maxLen; omega
      have HFa := Lib.hid (show fieldF (xs.take k) xs[k] ≠ 0 → _ from fun h => HT.out.fault hk1 h)
      have HNx := Lib.hid (show fieldF (xs.take k) xs[k] = 0 → _ from fun h => HT.out.next hk1 h)
      have hcut := fun W => pre_field b1 o1 n c k (Nat.le_trans hk HR.out.2.1) W
      have HHas := fun (W : World) (hB : Below w.heap.size w W) (h : W.cell? ⟨wr.heap.size, 0, none⟩ = some (.string (bs xs[k].nm))) (hb : wr.heap.size < W.heap.size) => fhas_any (xs.take k) xs[k] wr.heap.size (some ⟨b1, o1, none⟩) k c W (FieldRow.below (FieldRow.take HR.out hk) hB) (by omega) h hb
      generalize xs.take k = pre at *
      generalize xs[k] = y at *
      obtain ⟨c0, c1⟩ := hx1
      have HBox := Lib.hid (World.cell?_alloc_mark wr #[.string (bs y.nm), .string (bs y.ty)] 36 (0, 0) 0)
      cases hny : nameB y.nm with
      | false =>
        have HV := Lib.hid (HFa.out (by rw [fieldF_bad (by rw [hny]; rfl)]; decide))
        rw [fieldF_bad (by rw [hny]; rfl)] at HV
        have HNy := Lib.hid (fun w => check_no (bs y.nm) w hny hs1)
        clear HFa HNx hny HHas hcut
        go_wp2_with (first
          | (go_at_call 11; (with_reducible refine (HNy.out _).mono ?_); rintro e w2 ⟨rfl, rfl⟩))
        go_ret
        exact ⟨ret_err (by rw [HV.out]; rfl), bnext HB.out (al1 _ _)⟩
      | true =>
        have HNy := Lib.hid (fun w => check_yes (bs y.nm) w hny hs1)
        cases hty : isTypeB y.ty with
        | false =>
          have HV := Lib.hid (HFa.out (by rw [fieldF_bad (by rw [hny, hty]; rfl)]; decide))
          rw [fieldF_bad (by rw [hny, hty]; rfl)] at HV
          have HD := Lib.hid (fun w => dcheck_no y.ty w hty hs2)
          clear HFa HNx hny hty HHas hcut
          go_wp2_with (first
            | (go_at_call 11; (with_reducible refine (HNy.out _).mono ?_); rintro e w2 ⟨rfl, rfl⟩)
            | (go_at_call 21; (with_reducible refine (HD.out _).mono ?_); rintro e w2 ⟨rfl, rfl⟩))
          go_ret
          exact ⟨ret_err (by rw [HV.out]; rfl), bnext HB.out (al1 _ _)⟩
        | true =>
          have HD := Lib.hid (fun w => dcheck_yes y.ty w hty hs2)
          cases hin : pre.any (fun x => x.nm == y.nm) with
          | true =>
            have HV := Lib.hid (HFa.out (by rw [fieldF_twice (by rw [hny, hty]; rfl) hin]; decide))
            rw [fieldF_twice (by rw [hny, hty]; rfl) hin] at HV
            rw [hin] at HHas
            replace HHas := Lib.hid HHas
            clear HFa HNx hny hty hin
            go_wp2_with (first
              | (go_at_call 11; (with_reducible refine (HNy.out _).mono ?_); rintro e w2 ⟨rfl, rfl⟩)
              | (go_at_call 21; (with_reducible refine (HD.out _).mono ?_); rintro e w2 ⟨rfl, rfl⟩)
              | (go_at_call 23; (with_reducible refine (HHas.out _ (bnext HB.out (al1 _ _)) HBox.out (by simp)).mono ?_); rintro e w2 ⟨rfl, hb⟩
                 have HB1 := Lib.hid (bnext (bnext HB.out (al1 _ _)) hb)
                 clear hb))
            go_ret
            exact ⟨ret_err (by rw [HV.out]; rfl), HB1.out⟩
          | false =>
            have HN2 := Lib.hid (HNx.out (fieldF_none (by rw [hny, hty]; rfl) hin))
            rw [hin] at HHas
            replace HHas := Lib.hid HHas
            clear HFa HNx hny hty hin
            go_wp2_with (first
              | (go_at_call 11; (with_reducible refine (HNy.out _).mono ?_); rintro e w2 ⟨rfl, rfl⟩)
              | (go_at_call 21; (with_reducible refine (HD.out _).mono ?_); rintro e w2 ⟨rfl, rfl⟩)
              | (go_at_call 23; (with_reducible refine (HHas.out _ (bnext HB.out (al1 _ _)) HBox.out (by simp)).mono ?_); rintro e w2 ⟨rfl, hb⟩
                 have HB1 := Lib.hid (bnext (bnext HB.out (al1 _ _)) hb)
                 clear hb))
            go_roundw
            case rel => exact ⟨k + 1, by omega, by go_num, HN2, HB1⟩
            case measure => first | (simp [intOf]; omega) | simp [intOf]
    · obtain rfl : k = n := by omega
      have HV := Lib.hid (HT.out.all HL.out)
      go_wp2
      go_ret
      exact ⟨ret_err (by rw [HV.out]; rfl), HB.out⟩
end Go.Proofs.YtkabkpkfglngnaaDoor
