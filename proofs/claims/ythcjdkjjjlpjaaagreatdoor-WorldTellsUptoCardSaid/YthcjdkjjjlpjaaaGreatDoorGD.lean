/- The reference's small functions on instructions: Word32, Jumps, Deep, IsRef, typeMay, Needs. The reference's answer on an instruction with a field too many: its form is wrong. The reference's answer on an instruction: what is wrong with it. -/
import Derived.Test.YthcjdkjjjlpjaaaGreatDoorIn1
import Derived.Test.YthcjdkjjjlpjaaaGreatDoorGB
import Derived.Test.YthcjdkjjjlpjaaaGreatDoorIn2
namespace Go.Proofs.YthcjdkjjjlpjaaaGreatDoor
open Go.ChangeShapes Go.WideShapes Go.ChangeAt Go.RowKit
set_option linter.unusedVariables false
attribute [local go_sem] eqGuard_errV_nil eqGuard_errV_iface eql_errV_nil neq_errV_nil eql_errV_form

theorem word32_any (n : Int) (w : World) : Calls Tryz.prog 68 #[.int .i64 n] w fun e w' => e = .returned (.bool (decide (-2147483648 ≤ n ∧ n ≤ 2147483647))) ∧ w = w' := by
  go_enter Tryz.func68, Tryz.ntmps68
  go_wp2
  all_goals
    go_ret
    exact ⟨ret_bool (by simp; try omega), rfl⟩
theorem jumps_any (n : Int) (w : World) : Calls Tryz.prog 50 #[.int .i64 n] w fun e w' => e = .returned (.bool (decide (n = 12 ∨ n = 13 ∨ n = 14))) ∧ w = w' := by
  go_enter Tryz.func50, Tryz.ntmps50
  go_wp2
  all_goals
    go_ret
    exact ⟨ret_bool (by simp_all <;> (rw [Bool.eq_iff_iff]; simp)), rfl⟩
theorem deep_any (s : ByteArray) (w : World) (hs : s.size ≤ maxLen) : Calls Tryz.prog 86 #[.string s] w fun e w' => e = .returned (.int .i64 (brk s.data.toList : Int)) ∧ w = w' := by
  unfold maxLen at hs
  have hb : brk s.data.toList ≤ s.size := by simpa using brk_le s.data.toList
  have HL := Lib.hid (fun k h => brk_lt s (k := k) h)
  have HA := Lib.hid (brk_at s)
  generalize hB : brk s.data.toList = b at hb HL HA
  clear hB
  go_enter Tryz.func86, Tryz.ntmps86
  go_wp2
  go_loop [3] (fun i => ∃ k : Nat, k ≤ b ∧ i = .int .i64 k) (fun i => b - (intOf i).toNat)
  case atStart => exact ⟨0, Nat.zero_le _, rfl⟩
  case round =>
    obtain ⟨k, hk, rfl⟩ := hrel
    by_cases hlt : k < b
    · obtain ⟨h1, h2⟩ := HL.out k hlt
      go_wp2
      go_round
      case rel => exact ⟨k + 1, by omega, by go_num⟩
      case measure => first | (simp [intOf]; omega) | simp [intOf]
    · obtain rfl : k = b := by omega
      by_cases hz : k < s.size
      · have h2 := HA.out hz
        go_wp2
        go_ret
        exact ⟨rfl, rfl⟩
      · obtain rfl : k = s.size := by omega
        go_wp2
        go_ret
        exact ⟨rfl, rfl⟩
theorem isRef_any (s : ByteArray) (w : World) (hs : s.size ≤ maxLen) : Calls Tryz.prog 87 #[.string s] w fun e w' => e = .returned (.bool (isTypeB s.data.toList && !refWordB s.data.toList)) ∧ w = w' := by
  have HT := Lib.hid (fun w => isType_any s w hs)
  have HW := Lib.hid (fun w => refIsWord_any s w)
  clear hs
  go_enter Tryz.func87, Tryz.ntmps87
  go_wp2_with (first
    | (go_at_call 27; (with_reducible refine (HT.out _).mono ?_); rintro e w1 ⟨rfl, rfl⟩)
    | (go_at_call 85; (with_reducible refine (HW.out _).mono ?_); rintro e w1 ⟨rfl, rfl⟩))
  all_goals
    go_ret
    exact ⟨ret_bool (by simp_all), rfl⟩
/-- The reference's reading of a method type, its truth alone. -/
theorem refMeth_any (s : ByteArray) (w : World) (hs : s.size ≤ 1048576) : Calls Tryz.prog 40 #[.string s] w fun e w' => Below w.heap.size w w' ∧ ∃ v t, e = .returned (.tuple #[v, .string t, .bool (methS s.data.toList)]) :=
  (methodOf_any s w hs).mono fun _ _ ⟨hb, v, he, _⟩ => ⟨hb, v, _, he⟩
set_option maxHeartbeats 2000000 in
theorem typeMay_any (x : InsD) (w : World) (hs : x.ty.length ≤ 1048576) : Calls Tryz.prog 69 #[insV x] w fun e w' => e = .returned (.bool (typedB x)) ∧ Below w.heap.size w w' := by
  obtain ⟨op, a, b, ty, cl, nm⟩ := x
  have hs' : ty.length ≤ 1048576 := hs
  have hm : (bs ty).size ≤ maxLen := by rw [bs_size]; unfold maxLen; omega
  have HW := Lib.hid (fun w => refIsWord_any (bs ty) w)
  have HT := Lib.hid (fun w => isType_any (bs ty) w hm)
  have HD := Lib.hid (fun w => deep_any (bs ty) w hm)
  have HR := Lib.hid (fun w => isRef_any (bs ty) w hm)
  have HM := Lib.hid (fun w => refMeth_any (bs ty) w (by rw [bs_size]; omega))
  have HA := Lib.hid (isTypeB_array ty)
  clear hs hs' hm
  unfold insV
  go_enter Tryz.func69, Tryz.ntmps69
  go_wp2_with (first
    | (go_at_call 85; with_reducible refine (HW.out _).mono ?_; rintro e w' ⟨rfl, rfl⟩)
    | (go_at_call 27; with_reducible refine (HT.out _).mono ?_; rintro e w' ⟨rfl, rfl⟩)
    | (go_at_call 86; with_reducible refine (HD.out _).mono ?_; rintro e w' ⟨rfl, rfl⟩)
    | (go_at_call 87; with_reducible refine (HR.out _).mono ?_; rintro e w' ⟨rfl, rfl⟩)
    | (go_at_call 40; with_reducible refine (HM.out _).mono ?_; rintro e w' ⟨hb, v, t, rfl⟩))
  all_goals
    go_ret
    refine ⟨ret_bool ?_, ?_⟩
    · replace HA := HA.out
      clear HW HT HD HR HM
      simp_all [typedB, bs_list, methS] <;> exact decide_eq_decide.2 (by omega)
    · first
      | exact (Below.refl _ _).alloc (Nat.le_refl _) _
      | exact ((Below.refl _ _).alloc (Nat.le_refl _) _).trans (hb.mono (by simp))
theorem al0 (w : World) (o : Obj) : Below w.heap.size w (w.alloc o) := (Below.refl _ _).alloc (Nat.le_refl _) _
theorem bset0 {B b j : Nat} {a w : World} {v : Value} (h : Below B a w) (hb : B ≤ b) : Below B a (w.setCell ⟨b, j, none⟩ v) := h.setCell (p := ⟨b, j, none⟩) hb v
theorem needs_cases {k : Nat} {C : Nat → Prop} (h0 : 0 < k) (hk : k < 29) (c1 : C 1) (c2 : C 2) (c3 : C 3) (c4 : C 4) (c5 : C 5) (c6 : C 6) (c7 : C 7) (c8 : C 8) (c9 : C 9) (c10 : C 10) (c11 : C 11) (c12 : C 12) (c13 : C 13) (c14 : C 14) (c15 : C 15) (c16 : C 16) (c17 : C 17) (c18 : C 18) (c19 : C 19) (c20 : C 20) (c21 : C 21) (c22 : C 22) (c23 : C 23) (c24 : C 24) (c25 : C 25) (c26 : C 26) (c27 : C 27) (c28 : C 28) : C k := by
  have : k = 1 ∨ k = 2 ∨ k = 3 ∨ k = 4 ∨ k = 5 ∨ k = 6 ∨ k = 7 ∨ k = 8 ∨ k = 9 ∨ k = 10 ∨ k = 11 ∨ k = 12 ∨ k = 13 ∨ k = 14 ∨ k = 15 ∨ k = 16 ∨ k = 17 ∨ k = 18 ∨ k = 19 ∨ k = 20 ∨ k = 21 ∨ k = 22 ∨ k = 23 ∨ k = 24 ∨ k = 25 ∨ k = 26 ∨ k = 27 ∨ k = 28 := by omega
  rcases this with rfl | rfl | rfl | rfl | rfl | rfl | rfl | rfl | rfl | rfl | rfl | rfl | rfl | rfl | rfl | rfl | rfl | rfl | rfl | rfl | rfl | rfl | rfl | rfl | rfl | rfl | rfl | rfl
  all_goals assumption
theorem needs_1 (w : World) : Calls Tryz.prog 67 #[.int .i64 1] w fun e w' => e = .returned (.agg #[.bool false, .bool false, .bool false, .bool false, .bool false]) ∧ Below w.heap.size w w' := by
  have HJ := Lib.hid (fun w => jumps_any 1 w)
  go_enter Tryz.func67, Tryz.ntmps67
  go_wp2_with (first
    | (go_at_call 50; with_reducible refine (HJ.out _).mono ?_; rintro e w' ⟨rfl, rfl⟩))
  refine bodyPost_ret (v := .agg #[.bool false, .bool false, .bool false, .bool false, .bool false]) (by simp [results, Tryz.results67, go_sem]) rfl ⟨rfl, ?_⟩
  clear HJ
  repeat (first | with_reducible exact al0 _ _ | with_reducible refine bset0 ?_ (Nat.le_refl _))
theorem needs_2 (w : World) : Calls Tryz.prog 67 #[.int .i64 2] w fun e w' => e = .returned (.agg #[.bool true, .bool false, .bool true, .bool false, .bool false]) ∧ Below w.heap.size w w' := by
  have HJ := Lib.hid (fun w => jumps_any 2 w)
  go_enter Tryz.func67, Tryz.ntmps67
  go_wp2_with (first
    | (go_at_call 50; with_reducible refine (HJ.out _).mono ?_; rintro e w' ⟨rfl, rfl⟩))
  refine bodyPost_ret (v := .agg #[.bool true, .bool false, .bool true, .bool false, .bool false]) (by simp [results, Tryz.results67, go_sem]) rfl ⟨rfl, ?_⟩
  clear HJ
  repeat (first | with_reducible exact al0 _ _ | with_reducible refine bset0 ?_ (Nat.le_refl _))
theorem needs_3 (w : World) : Calls Tryz.prog 67 #[.int .i64 3] w fun e w' => e = .returned (.agg #[.bool false, .bool false, .bool false, .bool false, .bool false]) ∧ Below w.heap.size w w' := by
  have HJ := Lib.hid (fun w => jumps_any 3 w)
  go_enter Tryz.func67, Tryz.ntmps67
  go_wp2_with (first
    | (go_at_call 50; with_reducible refine (HJ.out _).mono ?_; rintro e w' ⟨rfl, rfl⟩))
  refine bodyPost_ret (v := .agg #[.bool false, .bool false, .bool false, .bool false, .bool false]) (by simp [results, Tryz.results67, go_sem]) rfl ⟨rfl, ?_⟩
  clear HJ
  repeat (first | with_reducible exact al0 _ _ | with_reducible refine bset0 ?_ (Nat.le_refl _))
theorem needs_4 (w : World) : Calls Tryz.prog 67 #[.int .i64 4] w fun e w' => e = .returned (.agg #[.bool true, .bool false, .bool false, .bool false, .bool false]) ∧ Below w.heap.size w w' := by
  have HJ := Lib.hid (fun w => jumps_any 4 w)
  go_enter Tryz.func67, Tryz.ntmps67
  go_wp2_with (first
    | (go_at_call 50; with_reducible refine (HJ.out _).mono ?_; rintro e w' ⟨rfl, rfl⟩))
  refine bodyPost_ret (v := .agg #[.bool true, .bool false, .bool false, .bool false, .bool false]) (by simp [results, Tryz.results67, go_sem]) rfl ⟨rfl, ?_⟩
  clear HJ
  repeat (first | with_reducible exact al0 _ _ | with_reducible refine bset0 ?_ (Nat.le_refl _))
theorem needs_5 (w : World) : Calls Tryz.prog 67 #[.int .i64 5] w fun e w' => e = .returned (.agg #[.bool true, .bool false, .bool false, .bool false, .bool false]) ∧ Below w.heap.size w w' := by
  have HJ := Lib.hid (fun w => jumps_any 5 w)
  go_enter Tryz.func67, Tryz.ntmps67
  go_wp2_with (first
    | (go_at_call 50; with_reducible refine (HJ.out _).mono ?_; rintro e w' ⟨rfl, rfl⟩))
  refine bodyPost_ret (v := .agg #[.bool true, .bool false, .bool false, .bool false, .bool false]) (by simp [results, Tryz.results67, go_sem]) rfl ⟨rfl, ?_⟩
  clear HJ
  repeat (first | with_reducible exact al0 _ _ | with_reducible refine bset0 ?_ (Nat.le_refl _))
theorem needs_6 (w : World) : Calls Tryz.prog 67 #[.int .i64 6] w fun e w' => e = .returned (.agg #[.bool false, .bool false, .bool false, .bool false, .bool false]) ∧ Below w.heap.size w w' := by
  have HJ := Lib.hid (fun w => jumps_any 6 w)
  go_enter Tryz.func67, Tryz.ntmps67
  go_wp2_with (first
    | (go_at_call 50; with_reducible refine (HJ.out _).mono ?_; rintro e w' ⟨rfl, rfl⟩))
  refine bodyPost_ret (v := .agg #[.bool false, .bool false, .bool false, .bool false, .bool false]) (by simp [results, Tryz.results67, go_sem]) rfl ⟨rfl, ?_⟩
  clear HJ
  repeat (first | with_reducible exact al0 _ _ | with_reducible refine bset0 ?_ (Nat.le_refl _))
theorem needs_7 (w : World) : Calls Tryz.prog 67 #[.int .i64 7] w fun e w' => e = .returned (.agg #[.bool false, .bool false, .bool false, .bool false, .bool false]) ∧ Below w.heap.size w w' := by
  have HJ := Lib.hid (fun w => jumps_any 7 w)
  go_enter Tryz.func67, Tryz.ntmps67
  go_wp2_with (first
    | (go_at_call 50; with_reducible refine (HJ.out _).mono ?_; rintro e w' ⟨rfl, rfl⟩))
  refine bodyPost_ret (v := .agg #[.bool false, .bool false, .bool false, .bool false, .bool false]) (by simp [results, Tryz.results67, go_sem]) rfl ⟨rfl, ?_⟩
  clear HJ
  repeat (first | with_reducible exact al0 _ _ | with_reducible refine bset0 ?_ (Nat.le_refl _))
theorem needs_8 (w : World) : Calls Tryz.prog 67 #[.int .i64 8] w fun e w' => e = .returned (.agg #[.bool false, .bool false, .bool false, .bool false, .bool false]) ∧ Below w.heap.size w w' := by
  have HJ := Lib.hid (fun w => jumps_any 8 w)
  go_enter Tryz.func67, Tryz.ntmps67
  go_wp2_with (first
    | (go_at_call 50; with_reducible refine (HJ.out _).mono ?_; rintro e w' ⟨rfl, rfl⟩))
  refine bodyPost_ret (v := .agg #[.bool false, .bool false, .bool false, .bool false, .bool false]) (by simp [results, Tryz.results67, go_sem]) rfl ⟨rfl, ?_⟩
  clear HJ
  repeat (first | with_reducible exact al0 _ _ | with_reducible refine bset0 ?_ (Nat.le_refl _))
theorem needs_9 (w : World) : Calls Tryz.prog 67 #[.int .i64 9] w fun e w' => e = .returned (.agg #[.bool true, .bool false, .bool true, .bool false, .bool false]) ∧ Below w.heap.size w w' := by
  have HJ := Lib.hid (fun w => jumps_any 9 w)
  go_enter Tryz.func67, Tryz.ntmps67
  go_wp2_with (first
    | (go_at_call 50; with_reducible refine (HJ.out _).mono ?_; rintro e w' ⟨rfl, rfl⟩))
  refine bodyPost_ret (v := .agg #[.bool true, .bool false, .bool true, .bool false, .bool false]) (by simp [results, Tryz.results67, go_sem]) rfl ⟨rfl, ?_⟩
  clear HJ
  repeat (first | with_reducible exact al0 _ _ | with_reducible refine bset0 ?_ (Nat.le_refl _))
theorem needs_10 (w : World) : Calls Tryz.prog 67 #[.int .i64 10] w fun e w' => e = .returned (.agg #[.bool false, .bool false, .bool true, .bool false, .bool false]) ∧ Below w.heap.size w w' := by
  have HJ := Lib.hid (fun w => jumps_any 10 w)
  go_enter Tryz.func67, Tryz.ntmps67
  go_wp2_with (first
    | (go_at_call 50; with_reducible refine (HJ.out _).mono ?_; rintro e w' ⟨rfl, rfl⟩))
  refine bodyPost_ret (v := .agg #[.bool false, .bool false, .bool true, .bool false, .bool false]) (by simp [results, Tryz.results67, go_sem]) rfl ⟨rfl, ?_⟩
  clear HJ
  repeat (first | with_reducible exact al0 _ _ | with_reducible refine bset0 ?_ (Nat.le_refl _))
theorem needs_11 (w : World) : Calls Tryz.prog 67 #[.int .i64 11] w fun e w' => e = .returned (.agg #[.bool false, .bool false, .bool false, .bool false, .bool false]) ∧ Below w.heap.size w w' := by
  have HJ := Lib.hid (fun w => jumps_any 11 w)
  go_enter Tryz.func67, Tryz.ntmps67
  go_wp2_with (first
    | (go_at_call 50; with_reducible refine (HJ.out _).mono ?_; rintro e w' ⟨rfl, rfl⟩))
  refine bodyPost_ret (v := .agg #[.bool false, .bool false, .bool false, .bool false, .bool false]) (by simp [results, Tryz.results67, go_sem]) rfl ⟨rfl, ?_⟩
  clear HJ
  repeat (first | with_reducible exact al0 _ _ | with_reducible refine bset0 ?_ (Nat.le_refl _))
theorem needs_12 (w : World) : Calls Tryz.prog 67 #[.int .i64 12] w fun e w' => e = .returned (.agg #[.bool true, .bool true, .bool false, .bool false, .bool false]) ∧ Below w.heap.size w w' := by
  have HJ := Lib.hid (fun w => jumps_any 12 w)
  go_enter Tryz.func67, Tryz.ntmps67
  go_wp2_with (first
    | (go_at_call 50; with_reducible refine (HJ.out _).mono ?_; rintro e w' ⟨rfl, rfl⟩))
  refine bodyPost_ret (v := .agg #[.bool true, .bool true, .bool false, .bool false, .bool false]) (by simp [results, Tryz.results67, go_sem]) rfl ⟨rfl, ?_⟩
  clear HJ
  repeat (first | with_reducible exact al0 _ _ | with_reducible refine bset0 ?_ (Nat.le_refl _))
theorem needs_13 (w : World) : Calls Tryz.prog 67 #[.int .i64 13] w fun e w' => e = .returned (.agg #[.bool true, .bool false, .bool false, .bool false, .bool false]) ∧ Below w.heap.size w w' := by
  have HJ := Lib.hid (fun w => jumps_any 13 w)
  go_enter Tryz.func67, Tryz.ntmps67
  go_wp2_with (first
    | (go_at_call 50; with_reducible refine (HJ.out _).mono ?_; rintro e w' ⟨rfl, rfl⟩))
  refine bodyPost_ret (v := .agg #[.bool true, .bool false, .bool false, .bool false, .bool false]) (by simp [results, Tryz.results67, go_sem]) rfl ⟨rfl, ?_⟩
  clear HJ
  repeat (first | with_reducible exact al0 _ _ | with_reducible refine bset0 ?_ (Nat.le_refl _))
theorem needs_14 (w : World) : Calls Tryz.prog 67 #[.int .i64 14] w fun e w' => e = .returned (.agg #[.bool true, .bool false, .bool false, .bool false, .bool false]) ∧ Below w.heap.size w w' := by
  have HJ := Lib.hid (fun w => jumps_any 14 w)
  go_enter Tryz.func67, Tryz.ntmps67
  go_wp2_with (first
    | (go_at_call 50; with_reducible refine (HJ.out _).mono ?_; rintro e w' ⟨rfl, rfl⟩))
  refine bodyPost_ret (v := .agg #[.bool true, .bool false, .bool false, .bool false, .bool false]) (by simp [results, Tryz.results67, go_sem]) rfl ⟨rfl, ?_⟩
  clear HJ
  repeat (first | with_reducible exact al0 _ _ | with_reducible refine bset0 ?_ (Nat.le_refl _))
theorem needs_15 (w : World) : Calls Tryz.prog 67 #[.int .i64 15] w fun e w' => e = .returned (.agg #[.bool false, .bool false, .bool false, .bool true, .bool false]) ∧ Below w.heap.size w w' := by
  have HJ := Lib.hid (fun w => jumps_any 15 w)
  go_enter Tryz.func67, Tryz.ntmps67
  go_wp2_with (first
    | (go_at_call 50; with_reducible refine (HJ.out _).mono ?_; rintro e w' ⟨rfl, rfl⟩))
  refine bodyPost_ret (v := .agg #[.bool false, .bool false, .bool false, .bool true, .bool false]) (by simp [results, Tryz.results67, go_sem]) rfl ⟨rfl, ?_⟩
  clear HJ
  repeat (first | with_reducible exact al0 _ _ | with_reducible refine bset0 ?_ (Nat.le_refl _))
theorem needs_16 (w : World) : Calls Tryz.prog 67 #[.int .i64 16] w fun e w' => e = .returned (.agg #[.bool false, .bool false, .bool false, .bool true, .bool true]) ∧ Below w.heap.size w w' := by
  have HJ := Lib.hid (fun w => jumps_any 16 w)
  go_enter Tryz.func67, Tryz.ntmps67
  go_wp2_with (first
    | (go_at_call 50; with_reducible refine (HJ.out _).mono ?_; rintro e w' ⟨rfl, rfl⟩))
  refine bodyPost_ret (v := .agg #[.bool false, .bool false, .bool false, .bool true, .bool true]) (by simp [results, Tryz.results67, go_sem]) rfl ⟨rfl, ?_⟩
  clear HJ
  repeat (first | with_reducible exact al0 _ _ | with_reducible refine bset0 ?_ (Nat.le_refl _))
theorem needs_17 (w : World) : Calls Tryz.prog 67 #[.int .i64 17] w fun e w' => e = .returned (.agg #[.bool false, .bool false, .bool false, .bool true, .bool true]) ∧ Below w.heap.size w w' := by
  have HJ := Lib.hid (fun w => jumps_any 17 w)
  go_enter Tryz.func67, Tryz.ntmps67
  go_wp2_with (first
    | (go_at_call 50; with_reducible refine (HJ.out _).mono ?_; rintro e w' ⟨rfl, rfl⟩))
  refine bodyPost_ret (v := .agg #[.bool false, .bool false, .bool false, .bool true, .bool true]) (by simp [results, Tryz.results67, go_sem]) rfl ⟨rfl, ?_⟩
  clear HJ
  repeat (first | with_reducible exact al0 _ _ | with_reducible refine bset0 ?_ (Nat.le_refl _))
theorem needs_18 (w : World) : Calls Tryz.prog 67 #[.int .i64 18] w fun e w' => e = .returned (.agg #[.bool false, .bool false, .bool true, .bool false, .bool false]) ∧ Below w.heap.size w w' := by
  have HJ := Lib.hid (fun w => jumps_any 18 w)
  go_enter Tryz.func67, Tryz.ntmps67
  go_wp2_with (first
    | (go_at_call 50; with_reducible refine (HJ.out _).mono ?_; rintro e w' ⟨rfl, rfl⟩))
  refine bodyPost_ret (v := .agg #[.bool false, .bool false, .bool true, .bool false, .bool false]) (by simp [results, Tryz.results67, go_sem]) rfl ⟨rfl, ?_⟩
  clear HJ
  repeat (first | with_reducible exact al0 _ _ | with_reducible refine bset0 ?_ (Nat.le_refl _))
theorem needs_19 (w : World) : Calls Tryz.prog 67 #[.int .i64 19] w fun e w' => e = .returned (.agg #[.bool false, .bool false, .bool false, .bool false, .bool false]) ∧ Below w.heap.size w w' := by
  have HJ := Lib.hid (fun w => jumps_any 19 w)
  go_enter Tryz.func67, Tryz.ntmps67
  go_wp2_with (first
    | (go_at_call 50; with_reducible refine (HJ.out _).mono ?_; rintro e w' ⟨rfl, rfl⟩))
  refine bodyPost_ret (v := .agg #[.bool false, .bool false, .bool false, .bool false, .bool false]) (by simp [results, Tryz.results67, go_sem]) rfl ⟨rfl, ?_⟩
  clear HJ
  repeat (first | with_reducible exact al0 _ _ | with_reducible refine bset0 ?_ (Nat.le_refl _))
theorem needs_20 (w : World) : Calls Tryz.prog 67 #[.int .i64 20] w fun e w' => e = .returned (.agg #[.bool false, .bool false, .bool true, .bool false, .bool false]) ∧ Below w.heap.size w w' := by
  have HJ := Lib.hid (fun w => jumps_any 20 w)
  go_enter Tryz.func67, Tryz.ntmps67
  go_wp2_with (first
    | (go_at_call 50; with_reducible refine (HJ.out _).mono ?_; rintro e w' ⟨rfl, rfl⟩))
  refine bodyPost_ret (v := .agg #[.bool false, .bool false, .bool true, .bool false, .bool false]) (by simp [results, Tryz.results67, go_sem]) rfl ⟨rfl, ?_⟩
  clear HJ
  repeat (first | with_reducible exact al0 _ _ | with_reducible refine bset0 ?_ (Nat.le_refl _))
theorem needs_21 (w : World) : Calls Tryz.prog 67 #[.int .i64 21] w fun e w' => e = .returned (.agg #[.bool false, .bool false, .bool true, .bool false, .bool false]) ∧ Below w.heap.size w w' := by
  have HJ := Lib.hid (fun w => jumps_any 21 w)
  go_enter Tryz.func67, Tryz.ntmps67
  go_wp2_with (first
    | (go_at_call 50; with_reducible refine (HJ.out _).mono ?_; rintro e w' ⟨rfl, rfl⟩))
  refine bodyPost_ret (v := .agg #[.bool false, .bool false, .bool true, .bool false, .bool false]) (by simp [results, Tryz.results67, go_sem]) rfl ⟨rfl, ?_⟩
  clear HJ
  repeat (first | with_reducible exact al0 _ _ | with_reducible refine bset0 ?_ (Nat.le_refl _))
theorem needs_22 (w : World) : Calls Tryz.prog 67 #[.int .i64 22] w fun e w' => e = .returned (.agg #[.bool false, .bool false, .bool true, .bool false, .bool false]) ∧ Below w.heap.size w w' := by
  have HJ := Lib.hid (fun w => jumps_any 22 w)
  go_enter Tryz.func67, Tryz.ntmps67
  go_wp2_with (first
    | (go_at_call 50; with_reducible refine (HJ.out _).mono ?_; rintro e w' ⟨rfl, rfl⟩))
  refine bodyPost_ret (v := .agg #[.bool false, .bool false, .bool true, .bool false, .bool false]) (by simp [results, Tryz.results67, go_sem]) rfl ⟨rfl, ?_⟩
  clear HJ
  repeat (first | with_reducible exact al0 _ _ | with_reducible refine bset0 ?_ (Nat.le_refl _))
theorem needs_23 (w : World) : Calls Tryz.prog 67 #[.int .i64 23] w fun e w' => e = .returned (.agg #[.bool false, .bool false, .bool true, .bool false, .bool false]) ∧ Below w.heap.size w w' := by
  have HJ := Lib.hid (fun w => jumps_any 23 w)
  go_enter Tryz.func67, Tryz.ntmps67
  go_wp2_with (first
    | (go_at_call 50; with_reducible refine (HJ.out _).mono ?_; rintro e w' ⟨rfl, rfl⟩))
  refine bodyPost_ret (v := .agg #[.bool false, .bool false, .bool true, .bool false, .bool false]) (by simp [results, Tryz.results67, go_sem]) rfl ⟨rfl, ?_⟩
  clear HJ
  repeat (first | with_reducible exact al0 _ _ | with_reducible refine bset0 ?_ (Nat.le_refl _))
theorem needs_24 (w : World) : Calls Tryz.prog 67 #[.int .i64 24] w fun e w' => e = .returned (.agg #[.bool false, .bool false, .bool true, .bool true, .bool true]) ∧ Below w.heap.size w w' := by
  have HJ := Lib.hid (fun w => jumps_any 24 w)
  go_enter Tryz.func67, Tryz.ntmps67
  go_wp2_with (first
    | (go_at_call 50; with_reducible refine (HJ.out _).mono ?_; rintro e w' ⟨rfl, rfl⟩))
  refine bodyPost_ret (v := .agg #[.bool false, .bool false, .bool true, .bool true, .bool true]) (by simp [results, Tryz.results67, go_sem]) rfl ⟨rfl, ?_⟩
  clear HJ
  repeat (first | with_reducible exact al0 _ _ | with_reducible refine bset0 ?_ (Nat.le_refl _))
theorem needs_25 (w : World) : Calls Tryz.prog 67 #[.int .i64 25] w fun e w' => e = .returned (.agg #[.bool false, .bool false, .bool true, .bool true, .bool true]) ∧ Below w.heap.size w w' := by
  have HJ := Lib.hid (fun w => jumps_any 25 w)
  go_enter Tryz.func67, Tryz.ntmps67
  go_wp2_with (first
    | (go_at_call 50; with_reducible refine (HJ.out _).mono ?_; rintro e w' ⟨rfl, rfl⟩))
  refine bodyPost_ret (v := .agg #[.bool false, .bool false, .bool true, .bool true, .bool true]) (by simp [results, Tryz.results67, go_sem]) rfl ⟨rfl, ?_⟩
  clear HJ
  repeat (first | with_reducible exact al0 _ _ | with_reducible refine bset0 ?_ (Nat.le_refl _))
theorem needs_26 (w : World) : Calls Tryz.prog 67 #[.int .i64 26] w fun e w' => e = .returned (.agg #[.bool false, .bool false, .bool false, .bool false, .bool false]) ∧ Below w.heap.size w w' := by
  have HJ := Lib.hid (fun w => jumps_any 26 w)
  go_enter Tryz.func67, Tryz.ntmps67
  go_wp2_with (first
    | (go_at_call 50; with_reducible refine (HJ.out _).mono ?_; rintro e w' ⟨rfl, rfl⟩))
  refine bodyPost_ret (v := .agg #[.bool false, .bool false, .bool false, .bool false, .bool false]) (by simp [results, Tryz.results67, go_sem]) rfl ⟨rfl, ?_⟩
  clear HJ
  repeat (first | with_reducible exact al0 _ _ | with_reducible refine bset0 ?_ (Nat.le_refl _))
theorem needs_27 (w : World) : Calls Tryz.prog 67 #[.int .i64 27] w fun e w' => e = .returned (.agg #[.bool false, .bool false, .bool false, .bool false, .bool false]) ∧ Below w.heap.size w w' := by
  have HJ := Lib.hid (fun w => jumps_any 27 w)
  go_enter Tryz.func67, Tryz.ntmps67
  go_wp2_with (first
    | (go_at_call 50; with_reducible refine (HJ.out _).mono ?_; rintro e w' ⟨rfl, rfl⟩))
  refine bodyPost_ret (v := .agg #[.bool false, .bool false, .bool false, .bool false, .bool false]) (by simp [results, Tryz.results67, go_sem]) rfl ⟨rfl, ?_⟩
  clear HJ
  repeat (first | with_reducible exact al0 _ _ | with_reducible refine bset0 ?_ (Nat.le_refl _))
theorem needs_28 (w : World) : Calls Tryz.prog 67 #[.int .i64 28] w fun e w' => e = .returned (.agg #[.bool false, .bool false, .bool false, .bool false, .bool false]) ∧ Below w.heap.size w w' := by
  have HJ := Lib.hid (fun w => jumps_any 28 w)
  go_enter Tryz.func67, Tryz.ntmps67
  go_wp2_with (first
    | (go_at_call 50; with_reducible refine (HJ.out _).mono ?_; rintro e w' ⟨rfl, rfl⟩))
  refine bodyPost_ret (v := .agg #[.bool false, .bool false, .bool false, .bool false, .bool false]) (by simp [results, Tryz.results67, go_sem]) rfl ⟨rfl, ?_⟩
  clear HJ
  repeat (first | with_reducible exact al0 _ _ | with_reducible refine bset0 ?_ (Nat.le_refl _))
end Go.Proofs.YthcjdkjjjlpjaaaGreatDoor
namespace Go.Proofs.YthcjdkjjjlpjaaaGreatDoor
open Go.ChangeShapes Go.WideShapes Go.ChangeAt Go.RowKit
set_option linter.unusedVariables false
set_option linter.unusedSimpArgs false

theorem emptyB_ne {l : List UInt8} (h : l ≠ []) : (bs l).toList.isEmpty = false := by
  rw [ByteArray.toList_eq, bs_list]
  simpa using h

set_option maxHeartbeats 1000000 in
theorem bad_0 {k : Int} {b1 b2 b3 b4 : Bool} {a b : Int} {ty cl nm : List UInt8} (hk0 : 0 < k) (hk : k < 29) (HN : ∀ w, Calls Tryz.prog 67 #[.int .i64 k] w fun e w' => e = .returned (.agg #[.bool false, .bool b1, .bool b2, .bool b3, .bool b4]) ∧ Below w.heap.size w w') (hx : a ≠ 0) (w : World) :
    Calls Tryz.prog 49 #[insV ⟨k, a, b, ty, cl, nm⟩] w fun e w' => e = .returned (.int .i64 1) ∧ Below w.heap.size w w' := by
  have hk1 : ¬ k < 1 := by omega
  have hk2 : ¬ 28 < k := by omega
  replace HN := Lib.hid HN
  clear hk0 hk
  unfold insV
  go_enter Tryz.func49, Tryz.ntmps49
  go_wp2_with (first
    | (go_at_call 67; (with_reducible refine (HN.out _).mono ?_); rintro e w1 ⟨rfl, b1⟩
       have BX1 := box_new ⟨k, a, b, ty, cl, nm⟩ _ _ rfl b1
       have L1 := Lib.hid BX1.2
       obtain ⟨q0, q1, q2, q3, q4, q5, q6⟩ := BX1.1
       clear BX1 b1))
  all_goals
    go_ret
    exact ⟨rfl, bnext L1.out (al0 _ _)⟩
set_option maxHeartbeats 1000000 in
theorem bad_1f {k : Int} {b2 b3 b4 : Bool} {b : Int} {ty cl nm : List UInt8} (hk0 : 0 < k) (hk : k < 29) (HN : ∀ w, Calls Tryz.prog 67 #[.int .i64 k] w fun e w' => e = .returned (.agg #[.bool false, .bool false, .bool b2, .bool b3, .bool b4]) ∧ Below w.heap.size w w') (hx : b ≠ 0) (w : World) :
    Calls Tryz.prog 49 #[insV ⟨k, 0, b, ty, cl, nm⟩] w fun e w' => e = .returned (.int .i64 1) ∧ Below w.heap.size w w' := by
  have hk1 : ¬ k < 1 := by omega
  have hk2 : ¬ 28 < k := by omega
  replace HN := Lib.hid HN
  clear hk0 hk
  unfold insV
  go_enter Tryz.func49, Tryz.ntmps49
  go_wp2_with (first
    | (go_at_call 67; (with_reducible refine (HN.out _).mono ?_); rintro e w1 ⟨rfl, b1⟩
       have BX1 := box_new ⟨k, 0, b, ty, cl, nm⟩ _ _ rfl b1
       have L1 := Lib.hid BX1.2
       obtain ⟨q0, q1, q2, q3, q4, q5, q6⟩ := BX1.1
       clear BX1 b1))
  all_goals
    go_ret
    exact ⟨rfl, bnext L1.out (al0 _ _)⟩
set_option maxHeartbeats 1000000 in
theorem bad_1t {k : Int} {b2 b3 b4 : Bool} {a b : Int} {ty cl nm : List UInt8} (hk0 : 0 < k) (hk : k < 29) (HN : ∀ w, Calls Tryz.prog 67 #[.int .i64 k] w fun e w' => e = .returned (.agg #[.bool true, .bool false, .bool b2, .bool b3, .bool b4]) ∧ Below w.heap.size w w') (hx : b ≠ 0) (w : World) :
    Calls Tryz.prog 49 #[insV ⟨k, a, b, ty, cl, nm⟩] w fun e w' => e = .returned (.int .i64 1) ∧ Below w.heap.size w w' := by
  have hk1 : ¬ k < 1 := by omega
  have hk2 : ¬ 28 < k := by omega
  replace HN := Lib.hid HN
  clear hk0 hk
  unfold insV
  go_enter Tryz.func49, Tryz.ntmps49
  go_wp2_with (first
    | (go_at_call 67; (with_reducible refine (HN.out _).mono ?_); rintro e w1 ⟨rfl, b1⟩
       have BX1 := box_new ⟨k, a, b, ty, cl, nm⟩ _ _ rfl b1
       have L1 := Lib.hid BX1.2
       obtain ⟨q0, q1, q2, q3, q4, q5, q6⟩ := BX1.1
       clear BX1 b1))
  all_goals
    go_ret
    exact ⟨rfl, bnext L1.out (al0 _ _)⟩
set_option maxHeartbeats 1000000 in
theorem bad_2ff {k : Int} {b3 b4 : Bool} {ty cl nm : List UInt8} (hk0 : 0 < k) (hk : k < 29) (HN : ∀ w, Calls Tryz.prog 67 #[.int .i64 k] w fun e w' => e = .returned (.agg #[.bool false, .bool false, .bool false, .bool b3, .bool b4]) ∧ Below w.heap.size w w') (hx : (bs ty).toList.isEmpty = false) (w : World) :
    Calls Tryz.prog 49 #[insV ⟨k, 0, 0, ty, cl, nm⟩] w fun e w' => e = .returned (.int .i64 1) ∧ Below w.heap.size w w' := by
  have hk1 : ¬ k < 1 := by omega
  have hk2 : ¬ 28 < k := by omega
  replace HN := Lib.hid HN
  clear hk0 hk
  unfold insV
  go_enter Tryz.func49, Tryz.ntmps49
  go_wp2_with (first
    | (go_at_call 67; (with_reducible refine (HN.out _).mono ?_); rintro e w1 ⟨rfl, b1⟩
       have BX1 := box_new ⟨k, 0, 0, ty, cl, nm⟩ _ _ rfl b1
       have L1 := Lib.hid BX1.2
       obtain ⟨q0, q1, q2, q3, q4, q5, q6⟩ := BX1.1
       clear BX1 b1))
  all_goals
    go_ret
    exact ⟨rfl, bnext L1.out (al0 _ _)⟩
set_option maxHeartbeats 1000000 in
theorem bad_2ft {k : Int} {b3 b4 : Bool} {b : Int} {ty cl nm : List UInt8} (hk0 : 0 < k) (hk : k < 29) (HN : ∀ w, Calls Tryz.prog 67 #[.int .i64 k] w fun e w' => e = .returned (.agg #[.bool false, .bool true, .bool false, .bool b3, .bool b4]) ∧ Below w.heap.size w w') (hx : (bs ty).toList.isEmpty = false) (w : World) :
    Calls Tryz.prog 49 #[insV ⟨k, 0, b, ty, cl, nm⟩] w fun e w' => e = .returned (.int .i64 1) ∧ Below w.heap.size w w' := by
  have hk1 : ¬ k < 1 := by omega
  have hk2 : ¬ 28 < k := by omega
  replace HN := Lib.hid HN
  clear hk0 hk
  unfold insV
  go_enter Tryz.func49, Tryz.ntmps49
  go_wp2_with (first
    | (go_at_call 67; (with_reducible refine (HN.out _).mono ?_); rintro e w1 ⟨rfl, b1⟩
       have BX1 := box_new ⟨k, 0, b, ty, cl, nm⟩ _ _ rfl b1
       have L1 := Lib.hid BX1.2
       obtain ⟨q0, q1, q2, q3, q4, q5, q6⟩ := BX1.1
       clear BX1 b1))
  all_goals
    go_ret
    exact ⟨rfl, bnext L1.out (al0 _ _)⟩
set_option maxHeartbeats 1000000 in
theorem bad_2tf {k : Int} {b3 b4 : Bool} {a : Int} {ty cl nm : List UInt8} (hk0 : 0 < k) (hk : k < 29) (HN : ∀ w, Calls Tryz.prog 67 #[.int .i64 k] w fun e w' => e = .returned (.agg #[.bool true, .bool false, .bool false, .bool b3, .bool b4]) ∧ Below w.heap.size w w') (hx : (bs ty).toList.isEmpty = false) (w : World) :
    Calls Tryz.prog 49 #[insV ⟨k, a, 0, ty, cl, nm⟩] w fun e w' => e = .returned (.int .i64 1) ∧ Below w.heap.size w w' := by
  have hk1 : ¬ k < 1 := by omega
  have hk2 : ¬ 28 < k := by omega
  replace HN := Lib.hid HN
  clear hk0 hk
  unfold insV
  go_enter Tryz.func49, Tryz.ntmps49
  go_wp2_with (first
    | (go_at_call 67; (with_reducible refine (HN.out _).mono ?_); rintro e w1 ⟨rfl, b1⟩
       have BX1 := box_new ⟨k, a, 0, ty, cl, nm⟩ _ _ rfl b1
       have L1 := Lib.hid BX1.2
       obtain ⟨q0, q1, q2, q3, q4, q5, q6⟩ := BX1.1
       clear BX1 b1))
  all_goals
    go_ret
    exact ⟨rfl, bnext L1.out (al0 _ _)⟩
set_option maxHeartbeats 1000000 in
theorem bad_2tt {k : Int} {b3 b4 : Bool} {a b : Int} {ty cl nm : List UInt8} (hk0 : 0 < k) (hk : k < 29) (HN : ∀ w, Calls Tryz.prog 67 #[.int .i64 k] w fun e w' => e = .returned (.agg #[.bool true, .bool true, .bool false, .bool b3, .bool b4]) ∧ Below w.heap.size w w') (hx : (bs ty).toList.isEmpty = false) (w : World) :
    Calls Tryz.prog 49 #[insV ⟨k, a, b, ty, cl, nm⟩] w fun e w' => e = .returned (.int .i64 1) ∧ Below w.heap.size w w' := by
  have hk1 : ¬ k < 1 := by omega
  have hk2 : ¬ 28 < k := by omega
  replace HN := Lib.hid HN
  clear hk0 hk
  unfold insV
  go_enter Tryz.func49, Tryz.ntmps49
  go_wp2_with (first
    | (go_at_call 67; (with_reducible refine (HN.out _).mono ?_); rintro e w1 ⟨rfl, b1⟩
       have BX1 := box_new ⟨k, a, b, ty, cl, nm⟩ _ _ rfl b1
       have L1 := Lib.hid BX1.2
       obtain ⟨q0, q1, q2, q3, q4, q5, q6⟩ := BX1.1
       clear BX1 b1))
  all_goals
    go_ret
    exact ⟨rfl, bnext L1.out (al0 _ _)⟩
set_option maxHeartbeats 1000000 in
theorem bad_3fff {k : Int} {b4 : Bool} {cl nm : List UInt8} (hk0 : 0 < k) (hk : k < 29) (HN : ∀ w, Calls Tryz.prog 67 #[.int .i64 k] w fun e w' => e = .returned (.agg #[.bool false, .bool false, .bool false, .bool false, .bool b4]) ∧ Below w.heap.size w w') (hx : (bs cl).toList.isEmpty = false) (w : World) :
    Calls Tryz.prog 49 #[insV ⟨k, 0, 0, [], cl, nm⟩] w fun e w' => e = .returned (.int .i64 1) ∧ Below w.heap.size w w' := by
  have hk1 : ¬ k < 1 := by omega
  have hk2 : ¬ 28 < k := by omega
  have z2 : (bs []).toList.isEmpty = true := by rw [ByteArray.toList_eq]; rfl
  replace HN := Lib.hid HN
  clear hk0 hk
  unfold insV
  go_enter Tryz.func49, Tryz.ntmps49
  go_wp2_with (first
    | (go_at_call 67; (with_reducible refine (HN.out _).mono ?_); rintro e w1 ⟨rfl, b1⟩
       have BX1 := box_new ⟨k, 0, 0, [], cl, nm⟩ _ _ rfl b1
       have L1 := Lib.hid BX1.2
       obtain ⟨q0, q1, q2, q3, q4, q5, q6⟩ := BX1.1
       clear BX1 b1))
  all_goals
    go_ret
    exact ⟨rfl, bnext L1.out (al0 _ _)⟩
set_option maxHeartbeats 1000000 in
theorem bad_3fft {k : Int} {b4 : Bool} {ty cl nm : List UInt8} (hk0 : 0 < k) (hk : k < 29) (HN : ∀ w, Calls Tryz.prog 67 #[.int .i64 k] w fun e w' => e = .returned (.agg #[.bool false, .bool false, .bool true, .bool false, .bool b4]) ∧ Below w.heap.size w w') (hx : (bs cl).toList.isEmpty = false) (w : World) :
    Calls Tryz.prog 49 #[insV ⟨k, 0, 0, ty, cl, nm⟩] w fun e w' => e = .returned (.int .i64 1) ∧ Below w.heap.size w w' := by
  have hk1 : ¬ k < 1 := by omega
  have hk2 : ¬ 28 < k := by omega
  replace HN := Lib.hid HN
  clear hk0 hk
  unfold insV
  go_enter Tryz.func49, Tryz.ntmps49
  go_wp2_with (first
    | (go_at_call 67; (with_reducible refine (HN.out _).mono ?_); rintro e w1 ⟨rfl, b1⟩
       have BX1 := box_new ⟨k, 0, 0, ty, cl, nm⟩ _ _ rfl b1
       have L1 := Lib.hid BX1.2
       obtain ⟨q0, q1, q2, q3, q4, q5, q6⟩ := BX1.1
       clear BX1 b1))
  all_goals
    go_ret
    exact ⟨rfl, bnext L1.out (al0 _ _)⟩
set_option maxHeartbeats 1000000 in
theorem bad_3ftf {k : Int} {b4 : Bool} {b : Int} {cl nm : List UInt8} (hk0 : 0 < k) (hk : k < 29) (HN : ∀ w, Calls Tryz.prog 67 #[.int .i64 k] w fun e w' => e = .returned (.agg #[.bool false, .bool true, .bool false, .bool false, .bool b4]) ∧ Below w.heap.size w w') (hx : (bs cl).toList.isEmpty = false) (w : World) :
    Calls Tryz.prog 49 #[insV ⟨k, 0, b, [], cl, nm⟩] w fun e w' => e = .returned (.int .i64 1) ∧ Below w.heap.size w w' := by
  have hk1 : ¬ k < 1 := by omega
  have hk2 : ¬ 28 < k := by omega
  have z2 : (bs []).toList.isEmpty = true := by rw [ByteArray.toList_eq]; rfl
  replace HN := Lib.hid HN
  clear hk0 hk
  unfold insV
  go_enter Tryz.func49, Tryz.ntmps49
  go_wp2_with (first
    | (go_at_call 67; (with_reducible refine (HN.out _).mono ?_); rintro e w1 ⟨rfl, b1⟩
       have BX1 := box_new ⟨k, 0, b, [], cl, nm⟩ _ _ rfl b1
       have L1 := Lib.hid BX1.2
       obtain ⟨q0, q1, q2, q3, q4, q5, q6⟩ := BX1.1
       clear BX1 b1))
  all_goals
    go_ret
    exact ⟨rfl, bnext L1.out (al0 _ _)⟩
set_option maxHeartbeats 1000000 in
theorem bad_3ftt {k : Int} {b4 : Bool} {b : Int} {ty cl nm : List UInt8} (hk0 : 0 < k) (hk : k < 29) (HN : ∀ w, Calls Tryz.prog 67 #[.int .i64 k] w fun e w' => e = .returned (.agg #[.bool false, .bool true, .bool true, .bool false, .bool b4]) ∧ Below w.heap.size w w') (hx : (bs cl).toList.isEmpty = false) (w : World) :
    Calls Tryz.prog 49 #[insV ⟨k, 0, b, ty, cl, nm⟩] w fun e w' => e = .returned (.int .i64 1) ∧ Below w.heap.size w w' := by
  have hk1 : ¬ k < 1 := by omega
  have hk2 : ¬ 28 < k := by omega
  replace HN := Lib.hid HN
  clear hk0 hk
  unfold insV
  go_enter Tryz.func49, Tryz.ntmps49
  go_wp2_with (first
    | (go_at_call 67; (with_reducible refine (HN.out _).mono ?_); rintro e w1 ⟨rfl, b1⟩
       have BX1 := box_new ⟨k, 0, b, ty, cl, nm⟩ _ _ rfl b1
       have L1 := Lib.hid BX1.2
       obtain ⟨q0, q1, q2, q3, q4, q5, q6⟩ := BX1.1
       clear BX1 b1))
  all_goals
    go_ret
    exact ⟨rfl, bnext L1.out (al0 _ _)⟩
set_option maxHeartbeats 1000000 in
theorem bad_3tff {k : Int} {b4 : Bool} {a : Int} {cl nm : List UInt8} (hk0 : 0 < k) (hk : k < 29) (HN : ∀ w, Calls Tryz.prog 67 #[.int .i64 k] w fun e w' => e = .returned (.agg #[.bool true, .bool false, .bool false, .bool false, .bool b4]) ∧ Below w.heap.size w w') (hx : (bs cl).toList.isEmpty = false) (w : World) :
    Calls Tryz.prog 49 #[insV ⟨k, a, 0, [], cl, nm⟩] w fun e w' => e = .returned (.int .i64 1) ∧ Below w.heap.size w w' := by
  have hk1 : ¬ k < 1 := by omega
  have hk2 : ¬ 28 < k := by omega
  have z2 : (bs []).toList.isEmpty = true := by rw [ByteArray.toList_eq]; rfl
  replace HN := Lib.hid HN
  clear hk0 hk
  unfold insV
  go_enter Tryz.func49, Tryz.ntmps49
  go_wp2_with (first
    | (go_at_call 67; (with_reducible refine (HN.out _).mono ?_); rintro e w1 ⟨rfl, b1⟩
       have BX1 := box_new ⟨k, a, 0, [], cl, nm⟩ _ _ rfl b1
       have L1 := Lib.hid BX1.2
       obtain ⟨q0, q1, q2, q3, q4, q5, q6⟩ := BX1.1
       clear BX1 b1))
  all_goals
    go_ret
    exact ⟨rfl, bnext L1.out (al0 _ _)⟩
set_option maxHeartbeats 1000000 in
theorem bad_3tft {k : Int} {b4 : Bool} {a : Int} {ty cl nm : List UInt8} (hk0 : 0 < k) (hk : k < 29) (HN : ∀ w, Calls Tryz.prog 67 #[.int .i64 k] w fun e w' => e = .returned (.agg #[.bool true, .bool false, .bool true, .bool false, .bool b4]) ∧ Below w.heap.size w w') (hx : (bs cl).toList.isEmpty = false) (w : World) :
    Calls Tryz.prog 49 #[insV ⟨k, a, 0, ty, cl, nm⟩] w fun e w' => e = .returned (.int .i64 1) ∧ Below w.heap.size w w' := by
  have hk1 : ¬ k < 1 := by omega
  have hk2 : ¬ 28 < k := by omega
  replace HN := Lib.hid HN
  clear hk0 hk
  unfold insV
  go_enter Tryz.func49, Tryz.ntmps49
  go_wp2_with (first
    | (go_at_call 67; (with_reducible refine (HN.out _).mono ?_); rintro e w1 ⟨rfl, b1⟩
       have BX1 := box_new ⟨k, a, 0, ty, cl, nm⟩ _ _ rfl b1
       have L1 := Lib.hid BX1.2
       obtain ⟨q0, q1, q2, q3, q4, q5, q6⟩ := BX1.1
       clear BX1 b1))
  all_goals
    go_ret
    exact ⟨rfl, bnext L1.out (al0 _ _)⟩
set_option maxHeartbeats 1000000 in
theorem bad_3ttf {k : Int} {b4 : Bool} {a b : Int} {cl nm : List UInt8} (hk0 : 0 < k) (hk : k < 29) (HN : ∀ w, Calls Tryz.prog 67 #[.int .i64 k] w fun e w' => e = .returned (.agg #[.bool true, .bool true, .bool false, .bool false, .bool b4]) ∧ Below w.heap.size w w') (hx : (bs cl).toList.isEmpty = false) (w : World) :
    Calls Tryz.prog 49 #[insV ⟨k, a, b, [], cl, nm⟩] w fun e w' => e = .returned (.int .i64 1) ∧ Below w.heap.size w w' := by
  have hk1 : ¬ k < 1 := by omega
  have hk2 : ¬ 28 < k := by omega
  have z2 : (bs []).toList.isEmpty = true := by rw [ByteArray.toList_eq]; rfl
  replace HN := Lib.hid HN
  clear hk0 hk
  unfold insV
  go_enter Tryz.func49, Tryz.ntmps49
  go_wp2_with (first
    | (go_at_call 67; (with_reducible refine (HN.out _).mono ?_); rintro e w1 ⟨rfl, b1⟩
       have BX1 := box_new ⟨k, a, b, [], cl, nm⟩ _ _ rfl b1
       have L1 := Lib.hid BX1.2
       obtain ⟨q0, q1, q2, q3, q4, q5, q6⟩ := BX1.1
       clear BX1 b1))
  all_goals
    go_ret
    exact ⟨rfl, bnext L1.out (al0 _ _)⟩
set_option maxHeartbeats 1000000 in
theorem bad_3ttt {k : Int} {b4 : Bool} {a b : Int} {ty cl nm : List UInt8} (hk0 : 0 < k) (hk : k < 29) (HN : ∀ w, Calls Tryz.prog 67 #[.int .i64 k] w fun e w' => e = .returned (.agg #[.bool true, .bool true, .bool true, .bool false, .bool b4]) ∧ Below w.heap.size w w') (hx : (bs cl).toList.isEmpty = false) (w : World) :
    Calls Tryz.prog 49 #[insV ⟨k, a, b, ty, cl, nm⟩] w fun e w' => e = .returned (.int .i64 1) ∧ Below w.heap.size w w' := by
  have hk1 : ¬ k < 1 := by omega
  have hk2 : ¬ 28 < k := by omega
  replace HN := Lib.hid HN
  clear hk0 hk
  unfold insV
  go_enter Tryz.func49, Tryz.ntmps49
  go_wp2_with (first
    | (go_at_call 67; (with_reducible refine (HN.out _).mono ?_); rintro e w1 ⟨rfl, b1⟩
       have BX1 := box_new ⟨k, a, b, ty, cl, nm⟩ _ _ rfl b1
       have L1 := Lib.hid BX1.2
       obtain ⟨q0, q1, q2, q3, q4, q5, q6⟩ := BX1.1
       clear BX1 b1))
  all_goals
    go_ret
    exact ⟨rfl, bnext L1.out (al0 _ _)⟩
set_option maxHeartbeats 1000000 in
theorem bad_4ffff {k : Int} {nm : List UInt8} (hk0 : 0 < k) (hk : k < 29) (HN : ∀ w, Calls Tryz.prog 67 #[.int .i64 k] w fun e w' => e = .returned (.agg #[.bool false, .bool false, .bool false, .bool false, .bool false]) ∧ Below w.heap.size w w') (hx : (bs nm).toList.isEmpty = false) (w : World) :
    Calls Tryz.prog 49 #[insV ⟨k, 0, 0, [], [], nm⟩] w fun e w' => e = .returned (.int .i64 1) ∧ Below w.heap.size w w' := by
  have hk1 : ¬ k < 1 := by omega
  have hk2 : ¬ 28 < k := by omega
  have z2 : (bs []).toList.isEmpty = true := by rw [ByteArray.toList_eq]; rfl
  have z3 : (bs []).toList.isEmpty = true := by rw [ByteArray.toList_eq]; rfl
  replace HN := Lib.hid HN
  clear hk0 hk
  unfold insV
  go_enter Tryz.func49, Tryz.ntmps49
  go_wp2_with (first
    | (go_at_call 67; (with_reducible refine (HN.out _).mono ?_); rintro e w1 ⟨rfl, b1⟩
       have BX1 := box_new ⟨k, 0, 0, [], [], nm⟩ _ _ rfl b1
       have L1 := Lib.hid BX1.2
       obtain ⟨q0, q1, q2, q3, q4, q5, q6⟩ := BX1.1
       clear BX1 b1))
  all_goals
    go_ret
    exact ⟨rfl, bnext L1.out (al0 _ _)⟩
set_option maxHeartbeats 1000000 in
theorem bad_4ffft {k : Int} {cl nm : List UInt8} (hk0 : 0 < k) (hk : k < 29) (HN : ∀ w, Calls Tryz.prog 67 #[.int .i64 k] w fun e w' => e = .returned (.agg #[.bool false, .bool false, .bool false, .bool true, .bool false]) ∧ Below w.heap.size w w') (hx : (bs nm).toList.isEmpty = false) (w : World) :
    Calls Tryz.prog 49 #[insV ⟨k, 0, 0, [], cl, nm⟩] w fun e w' => e = .returned (.int .i64 1) ∧ Below w.heap.size w w' := by
  have hk1 : ¬ k < 1 := by omega
  have hk2 : ¬ 28 < k := by omega
  have z2 : (bs []).toList.isEmpty = true := by rw [ByteArray.toList_eq]; rfl
  replace HN := Lib.hid HN
  clear hk0 hk
  unfold insV
  go_enter Tryz.func49, Tryz.ntmps49
  go_wp2_with (first
    | (go_at_call 67; (with_reducible refine (HN.out _).mono ?_); rintro e w1 ⟨rfl, b1⟩
       have BX1 := box_new ⟨k, 0, 0, [], cl, nm⟩ _ _ rfl b1
       have L1 := Lib.hid BX1.2
       obtain ⟨q0, q1, q2, q3, q4, q5, q6⟩ := BX1.1
       clear BX1 b1))
  all_goals
    go_ret
    exact ⟨rfl, bnext L1.out (al0 _ _)⟩
set_option maxHeartbeats 1000000 in
theorem bad_4fftf {k : Int} {ty nm : List UInt8} (hk0 : 0 < k) (hk : k < 29) (HN : ∀ w, Calls Tryz.prog 67 #[.int .i64 k] w fun e w' => e = .returned (.agg #[.bool false, .bool false, .bool true, .bool false, .bool false]) ∧ Below w.heap.size w w') (hx : (bs nm).toList.isEmpty = false) (w : World) :
    Calls Tryz.prog 49 #[insV ⟨k, 0, 0, ty, [], nm⟩] w fun e w' => e = .returned (.int .i64 1) ∧ Below w.heap.size w w' := by
  have hk1 : ¬ k < 1 := by omega
  have hk2 : ¬ 28 < k := by omega
  have z3 : (bs []).toList.isEmpty = true := by rw [ByteArray.toList_eq]; rfl
  replace HN := Lib.hid HN
  clear hk0 hk
  unfold insV
  go_enter Tryz.func49, Tryz.ntmps49
  go_wp2_with (first
    | (go_at_call 67; (with_reducible refine (HN.out _).mono ?_); rintro e w1 ⟨rfl, b1⟩
       have BX1 := box_new ⟨k, 0, 0, ty, [], nm⟩ _ _ rfl b1
       have L1 := Lib.hid BX1.2
       obtain ⟨q0, q1, q2, q3, q4, q5, q6⟩ := BX1.1
       clear BX1 b1))
  all_goals
    go_ret
    exact ⟨rfl, bnext L1.out (al0 _ _)⟩
set_option maxHeartbeats 1000000 in
theorem bad_4fftt {k : Int} {ty cl nm : List UInt8} (hk0 : 0 < k) (hk : k < 29) (HN : ∀ w, Calls Tryz.prog 67 #[.int .i64 k] w fun e w' => e = .returned (.agg #[.bool false, .bool false, .bool true, .bool true, .bool false]) ∧ Below w.heap.size w w') (hx : (bs nm).toList.isEmpty = false) (w : World) :
    Calls Tryz.prog 49 #[insV ⟨k, 0, 0, ty, cl, nm⟩] w fun e w' => e = .returned (.int .i64 1) ∧ Below w.heap.size w w' := by
  have hk1 : ¬ k < 1 := by omega
  have hk2 : ¬ 28 < k := by omega
  replace HN := Lib.hid HN
  clear hk0 hk
  unfold insV
  go_enter Tryz.func49, Tryz.ntmps49
  go_wp2_with (first
    | (go_at_call 67; (with_reducible refine (HN.out _).mono ?_); rintro e w1 ⟨rfl, b1⟩
       have BX1 := box_new ⟨k, 0, 0, ty, cl, nm⟩ _ _ rfl b1
       have L1 := Lib.hid BX1.2
       obtain ⟨q0, q1, q2, q3, q4, q5, q6⟩ := BX1.1
       clear BX1 b1))
  all_goals
    go_ret
    exact ⟨rfl, bnext L1.out (al0 _ _)⟩
set_option maxHeartbeats 1000000 in
theorem bad_4ftff {k : Int} {b : Int} {nm : List UInt8} (hk0 : 0 < k) (hk : k < 29) (HN : ∀ w, Calls Tryz.prog 67 #[.int .i64 k] w fun e w' => e = .returned (.agg #[.bool false, .bool true, .bool false, .bool false, .bool false]) ∧ Below w.heap.size w w') (hx : (bs nm).toList.isEmpty = false) (w : World) :
    Calls Tryz.prog 49 #[insV ⟨k, 0, b, [], [], nm⟩] w fun e w' => e = .returned (.int .i64 1) ∧ Below w.heap.size w w' := by
  have hk1 : ¬ k < 1 := by omega
  have hk2 : ¬ 28 < k := by omega
  have z2 : (bs []).toList.isEmpty = true := by rw [ByteArray.toList_eq]; rfl
  have z3 : (bs []).toList.isEmpty = true := by rw [ByteArray.toList_eq]; rfl
  replace HN := Lib.hid HN
  clear hk0 hk
  unfold insV
  go_enter Tryz.func49, Tryz.ntmps49
  go_wp2_with (first
    | (go_at_call 67; (with_reducible refine (HN.out _).mono ?_); rintro e w1 ⟨rfl, b1⟩
       have BX1 := box_new ⟨k, 0, b, [], [], nm⟩ _ _ rfl b1
       have L1 := Lib.hid BX1.2
       obtain ⟨q0, q1, q2, q3, q4, q5, q6⟩ := BX1.1
       clear BX1 b1))
  all_goals
    go_ret
    exact ⟨rfl, bnext L1.out (al0 _ _)⟩
set_option maxHeartbeats 1000000 in
theorem bad_4ftft {k : Int} {b : Int} {cl nm : List UInt8} (hk0 : 0 < k) (hk : k < 29) (HN : ∀ w, Calls Tryz.prog 67 #[.int .i64 k] w fun e w' => e = .returned (.agg #[.bool false, .bool true, .bool false, .bool true, .bool false]) ∧ Below w.heap.size w w') (hx : (bs nm).toList.isEmpty = false) (w : World) :
    Calls Tryz.prog 49 #[insV ⟨k, 0, b, [], cl, nm⟩] w fun e w' => e = .returned (.int .i64 1) ∧ Below w.heap.size w w' := by
  have hk1 : ¬ k < 1 := by omega
  have hk2 : ¬ 28 < k := by omega
  have z2 : (bs []).toList.isEmpty = true := by rw [ByteArray.toList_eq]; rfl
  replace HN := Lib.hid HN
  clear hk0 hk
  unfold insV
  go_enter Tryz.func49, Tryz.ntmps49
  go_wp2_with (first
    | (go_at_call 67; (with_reducible refine (HN.out _).mono ?_); rintro e w1 ⟨rfl, b1⟩
       have BX1 := box_new ⟨k, 0, b, [], cl, nm⟩ _ _ rfl b1
       have L1 := Lib.hid BX1.2
       obtain ⟨q0, q1, q2, q3, q4, q5, q6⟩ := BX1.1
       clear BX1 b1))
  all_goals
    go_ret
    exact ⟨rfl, bnext L1.out (al0 _ _)⟩
set_option maxHeartbeats 1000000 in
theorem bad_4fttf {k : Int} {b : Int} {ty nm : List UInt8} (hk0 : 0 < k) (hk : k < 29) (HN : ∀ w, Calls Tryz.prog 67 #[.int .i64 k] w fun e w' => e = .returned (.agg #[.bool false, .bool true, .bool true, .bool false, .bool false]) ∧ Below w.heap.size w w') (hx : (bs nm).toList.isEmpty = false) (w : World) :
    Calls Tryz.prog 49 #[insV ⟨k, 0, b, ty, [], nm⟩] w fun e w' => e = .returned (.int .i64 1) ∧ Below w.heap.size w w' := by
  have hk1 : ¬ k < 1 := by omega
  have hk2 : ¬ 28 < k := by omega
  have z3 : (bs []).toList.isEmpty = true := by rw [ByteArray.toList_eq]; rfl
  replace HN := Lib.hid HN
  clear hk0 hk
  unfold insV
  go_enter Tryz.func49, Tryz.ntmps49
  go_wp2_with (first
    | (go_at_call 67; (with_reducible refine (HN.out _).mono ?_); rintro e w1 ⟨rfl, b1⟩
       have BX1 := box_new ⟨k, 0, b, ty, [], nm⟩ _ _ rfl b1
       have L1 := Lib.hid BX1.2
       obtain ⟨q0, q1, q2, q3, q4, q5, q6⟩ := BX1.1
       clear BX1 b1))
  all_goals
    go_ret
    exact ⟨rfl, bnext L1.out (al0 _ _)⟩
set_option maxHeartbeats 1000000 in
theorem bad_4fttt {k : Int} {b : Int} {ty cl nm : List UInt8} (hk0 : 0 < k) (hk : k < 29) (HN : ∀ w, Calls Tryz.prog 67 #[.int .i64 k] w fun e w' => e = .returned (.agg #[.bool false, .bool true, .bool true, .bool true, .bool false]) ∧ Below w.heap.size w w') (hx : (bs nm).toList.isEmpty = false) (w : World) :
    Calls Tryz.prog 49 #[insV ⟨k, 0, b, ty, cl, nm⟩] w fun e w' => e = .returned (.int .i64 1) ∧ Below w.heap.size w w' := by
  have hk1 : ¬ k < 1 := by omega
  have hk2 : ¬ 28 < k := by omega
  replace HN := Lib.hid HN
  clear hk0 hk
  unfold insV
  go_enter Tryz.func49, Tryz.ntmps49
  go_wp2_with (first
    | (go_at_call 67; (with_reducible refine (HN.out _).mono ?_); rintro e w1 ⟨rfl, b1⟩
       have BX1 := box_new ⟨k, 0, b, ty, cl, nm⟩ _ _ rfl b1
       have L1 := Lib.hid BX1.2
       obtain ⟨q0, q1, q2, q3, q4, q5, q6⟩ := BX1.1
       clear BX1 b1))
  all_goals
    go_ret
    exact ⟨rfl, bnext L1.out (al0 _ _)⟩
set_option maxHeartbeats 1000000 in
theorem bad_4tfff {k : Int} {a : Int} {nm : List UInt8} (hk0 : 0 < k) (hk : k < 29) (HN : ∀ w, Calls Tryz.prog 67 #[.int .i64 k] w fun e w' => e = .returned (.agg #[.bool true, .bool false, .bool false, .bool false, .bool false]) ∧ Below w.heap.size w w') (hx : (bs nm).toList.isEmpty = false) (w : World) :
    Calls Tryz.prog 49 #[insV ⟨k, a, 0, [], [], nm⟩] w fun e w' => e = .returned (.int .i64 1) ∧ Below w.heap.size w w' := by
  have hk1 : ¬ k < 1 := by omega
  have hk2 : ¬ 28 < k := by omega
  have z2 : (bs []).toList.isEmpty = true := by rw [ByteArray.toList_eq]; rfl
  have z3 : (bs []).toList.isEmpty = true := by rw [ByteArray.toList_eq]; rfl
  replace HN := Lib.hid HN
  clear hk0 hk
  unfold insV
  go_enter Tryz.func49, Tryz.ntmps49
  go_wp2_with (first
    | (go_at_call 67; (with_reducible refine (HN.out _).mono ?_); rintro e w1 ⟨rfl, b1⟩
       have BX1 := box_new ⟨k, a, 0, [], [], nm⟩ _ _ rfl b1
       have L1 := Lib.hid BX1.2
       obtain ⟨q0, q1, q2, q3, q4, q5, q6⟩ := BX1.1
       clear BX1 b1))
  all_goals
    go_ret
    exact ⟨rfl, bnext L1.out (al0 _ _)⟩
set_option maxHeartbeats 1000000 in
theorem bad_4tfft {k : Int} {a : Int} {cl nm : List UInt8} (hk0 : 0 < k) (hk : k < 29) (HN : ∀ w, Calls Tryz.prog 67 #[.int .i64 k] w fun e w' => e = .returned (.agg #[.bool true, .bool false, .bool false, .bool true, .bool false]) ∧ Below w.heap.size w w') (hx : (bs nm).toList.isEmpty = false) (w : World) :
    Calls Tryz.prog 49 #[insV ⟨k, a, 0, [], cl, nm⟩] w fun e w' => e = .returned (.int .i64 1) ∧ Below w.heap.size w w' := by
  have hk1 : ¬ k < 1 := by omega
  have hk2 : ¬ 28 < k := by omega
  have z2 : (bs []).toList.isEmpty = true := by rw [ByteArray.toList_eq]; rfl
  replace HN := Lib.hid HN
  clear hk0 hk
  unfold insV
  go_enter Tryz.func49, Tryz.ntmps49
  go_wp2_with (first
    | (go_at_call 67; (with_reducible refine (HN.out _).mono ?_); rintro e w1 ⟨rfl, b1⟩
       have BX1 := box_new ⟨k, a, 0, [], cl, nm⟩ _ _ rfl b1
       have L1 := Lib.hid BX1.2
       obtain ⟨q0, q1, q2, q3, q4, q5, q6⟩ := BX1.1
       clear BX1 b1))
  all_goals
    go_ret
    exact ⟨rfl, bnext L1.out (al0 _ _)⟩
set_option maxHeartbeats 1000000 in
theorem bad_4tftf {k : Int} {a : Int} {ty nm : List UInt8} (hk0 : 0 < k) (hk : k < 29) (HN : ∀ w, Calls Tryz.prog 67 #[.int .i64 k] w fun e w' => e = .returned (.agg #[.bool true, .bool false, .bool true, .bool false, .bool false]) ∧ Below w.heap.size w w') (hx : (bs nm).toList.isEmpty = false) (w : World) :
    Calls Tryz.prog 49 #[insV ⟨k, a, 0, ty, [], nm⟩] w fun e w' => e = .returned (.int .i64 1) ∧ Below w.heap.size w w' := by
  have hk1 : ¬ k < 1 := by omega
  have hk2 : ¬ 28 < k := by omega
  have z3 : (bs []).toList.isEmpty = true := by rw [ByteArray.toList_eq]; rfl
  replace HN := Lib.hid HN
  clear hk0 hk
  unfold insV
  go_enter Tryz.func49, Tryz.ntmps49
  go_wp2_with (first
    | (go_at_call 67; (with_reducible refine (HN.out _).mono ?_); rintro e w1 ⟨rfl, b1⟩
       have BX1 := box_new ⟨k, a, 0, ty, [], nm⟩ _ _ rfl b1
       have L1 := Lib.hid BX1.2
       obtain ⟨q0, q1, q2, q3, q4, q5, q6⟩ := BX1.1
       clear BX1 b1))
  all_goals
    go_ret
    exact ⟨rfl, bnext L1.out (al0 _ _)⟩
set_option maxHeartbeats 1000000 in
theorem bad_4tftt {k : Int} {a : Int} {ty cl nm : List UInt8} (hk0 : 0 < k) (hk : k < 29) (HN : ∀ w, Calls Tryz.prog 67 #[.int .i64 k] w fun e w' => e = .returned (.agg #[.bool true, .bool false, .bool true, .bool true, .bool false]) ∧ Below w.heap.size w w') (hx : (bs nm).toList.isEmpty = false) (w : World) :
    Calls Tryz.prog 49 #[insV ⟨k, a, 0, ty, cl, nm⟩] w fun e w' => e = .returned (.int .i64 1) ∧ Below w.heap.size w w' := by
  have hk1 : ¬ k < 1 := by omega
  have hk2 : ¬ 28 < k := by omega
  replace HN := Lib.hid HN
  clear hk0 hk
  unfold insV
  go_enter Tryz.func49, Tryz.ntmps49
  go_wp2_with (first
    | (go_at_call 67; (with_reducible refine (HN.out _).mono ?_); rintro e w1 ⟨rfl, b1⟩
       have BX1 := box_new ⟨k, a, 0, ty, cl, nm⟩ _ _ rfl b1
       have L1 := Lib.hid BX1.2
       obtain ⟨q0, q1, q2, q3, q4, q5, q6⟩ := BX1.1
       clear BX1 b1))
  all_goals
    go_ret
    exact ⟨rfl, bnext L1.out (al0 _ _)⟩
set_option maxHeartbeats 1000000 in
theorem bad_4ttff {k : Int} {a b : Int} {nm : List UInt8} (hk0 : 0 < k) (hk : k < 29) (HN : ∀ w, Calls Tryz.prog 67 #[.int .i64 k] w fun e w' => e = .returned (.agg #[.bool true, .bool true, .bool false, .bool false, .bool false]) ∧ Below w.heap.size w w') (hx : (bs nm).toList.isEmpty = false) (w : World) :
    Calls Tryz.prog 49 #[insV ⟨k, a, b, [], [], nm⟩] w fun e w' => e = .returned (.int .i64 1) ∧ Below w.heap.size w w' := by
  have hk1 : ¬ k < 1 := by omega
  have hk2 : ¬ 28 < k := by omega
  have z2 : (bs []).toList.isEmpty = true := by rw [ByteArray.toList_eq]; rfl
  have z3 : (bs []).toList.isEmpty = true := by rw [ByteArray.toList_eq]; rfl
  replace HN := Lib.hid HN
  clear hk0 hk
  unfold insV
  go_enter Tryz.func49, Tryz.ntmps49
  go_wp2_with (first
    | (go_at_call 67; (with_reducible refine (HN.out _).mono ?_); rintro e w1 ⟨rfl, b1⟩
       have BX1 := box_new ⟨k, a, b, [], [], nm⟩ _ _ rfl b1
       have L1 := Lib.hid BX1.2
       obtain ⟨q0, q1, q2, q3, q4, q5, q6⟩ := BX1.1
       clear BX1 b1))
  all_goals
    go_ret
    exact ⟨rfl, bnext L1.out (al0 _ _)⟩
set_option maxHeartbeats 1000000 in
theorem bad_4ttft {k : Int} {a b : Int} {cl nm : List UInt8} (hk0 : 0 < k) (hk : k < 29) (HN : ∀ w, Calls Tryz.prog 67 #[.int .i64 k] w fun e w' => e = .returned (.agg #[.bool true, .bool true, .bool false, .bool true, .bool false]) ∧ Below w.heap.size w w') (hx : (bs nm).toList.isEmpty = false) (w : World) :
    Calls Tryz.prog 49 #[insV ⟨k, a, b, [], cl, nm⟩] w fun e w' => e = .returned (.int .i64 1) ∧ Below w.heap.size w w' := by
  have hk1 : ¬ k < 1 := by omega
  have hk2 : ¬ 28 < k := by omega
  have z2 : (bs []).toList.isEmpty = true := by rw [ByteArray.toList_eq]; rfl
  replace HN := Lib.hid HN
  clear hk0 hk
  unfold insV
  go_enter Tryz.func49, Tryz.ntmps49
  go_wp2_with (first
    | (go_at_call 67; (with_reducible refine (HN.out _).mono ?_); rintro e w1 ⟨rfl, b1⟩
       have BX1 := box_new ⟨k, a, b, [], cl, nm⟩ _ _ rfl b1
       have L1 := Lib.hid BX1.2
       obtain ⟨q0, q1, q2, q3, q4, q5, q6⟩ := BX1.1
       clear BX1 b1))
  all_goals
    go_ret
    exact ⟨rfl, bnext L1.out (al0 _ _)⟩
set_option maxHeartbeats 1000000 in
theorem bad_4tttf {k : Int} {a b : Int} {ty nm : List UInt8} (hk0 : 0 < k) (hk : k < 29) (HN : ∀ w, Calls Tryz.prog 67 #[.int .i64 k] w fun e w' => e = .returned (.agg #[.bool true, .bool true, .bool true, .bool false, .bool false]) ∧ Below w.heap.size w w') (hx : (bs nm).toList.isEmpty = false) (w : World) :
    Calls Tryz.prog 49 #[insV ⟨k, a, b, ty, [], nm⟩] w fun e w' => e = .returned (.int .i64 1) ∧ Below w.heap.size w w' := by
  have hk1 : ¬ k < 1 := by omega
  have hk2 : ¬ 28 < k := by omega
  have z3 : (bs []).toList.isEmpty = true := by rw [ByteArray.toList_eq]; rfl
  replace HN := Lib.hid HN
  clear hk0 hk
  unfold insV
  go_enter Tryz.func49, Tryz.ntmps49
  go_wp2_with (first
    | (go_at_call 67; (with_reducible refine (HN.out _).mono ?_); rintro e w1 ⟨rfl, b1⟩
       have BX1 := box_new ⟨k, a, b, ty, [], nm⟩ _ _ rfl b1
       have L1 := Lib.hid BX1.2
       obtain ⟨q0, q1, q2, q3, q4, q5, q6⟩ := BX1.1
       clear BX1 b1))
  all_goals
    go_ret
    exact ⟨rfl, bnext L1.out (al0 _ _)⟩
set_option maxHeartbeats 1000000 in
theorem bad_4tttt {k : Int} {a b : Int} {ty cl nm : List UInt8} (hk0 : 0 < k) (hk : k < 29) (HN : ∀ w, Calls Tryz.prog 67 #[.int .i64 k] w fun e w' => e = .returned (.agg #[.bool true, .bool true, .bool true, .bool true, .bool false]) ∧ Below w.heap.size w w') (hx : (bs nm).toList.isEmpty = false) (w : World) :
    Calls Tryz.prog 49 #[insV ⟨k, a, b, ty, cl, nm⟩] w fun e w' => e = .returned (.int .i64 1) ∧ Below w.heap.size w w' := by
  have hk1 : ¬ k < 1 := by omega
  have hk2 : ¬ 28 < k := by omega
  replace HN := Lib.hid HN
  clear hk0 hk
  unfold insV
  go_enter Tryz.func49, Tryz.ntmps49
  go_wp2_with (first
    | (go_at_call 67; (with_reducible refine (HN.out _).mono ?_); rintro e w1 ⟨rfl, b1⟩
       have BX1 := box_new ⟨k, a, b, ty, cl, nm⟩ _ _ rfl b1
       have L1 := Lib.hid BX1.2
       obtain ⟨q0, q1, q2, q3, q4, q5, q6⟩ := BX1.1
       clear BX1 b1))
  all_goals
    go_ret
    exact ⟨rfl, bnext L1.out (al0 _ _)⟩
theorem bad_any {k : Int} {b0 b1 b2 b3 b4 : Bool} {a b : Int} {ty cl nm : List UInt8} (hk0 : 0 < k) (hk : k < 29) (HN : ∀ w, Calls Tryz.prog 67 #[.int .i64 k] w fun e w' => e = .returned (.agg #[.bool b0, .bool b1, .bool b2, .bool b3, .bool b4]) ∧ Below w.heap.size w w')
    (ho : ((a == 0 || b0) && (b == 0 || b1) && (ty == [] || b2) && (cl == [] || b3) && (nm == [] || b4)) = false) (w : World) :
    Calls Tryz.prog 49 #[insV ⟨k, a, b, ty, cl, nm⟩] w fun e w' => e = .returned (.int .i64 1) ∧ Below w.heap.size w w' := by
  cases b0
  · by_cases hz : a = 0
    · subst hz
      cases b1
      · by_cases hz : b = 0
        · subst hz
          cases b2
          · by_cases hz : ty = []
            · subst hz
              cases b3
              · by_cases hz : cl = []
                · subst hz
                  cases b4
                  · by_cases hz : nm = []
                    · subst hz
                      simp at ho
                    · exact bad_4ffff hk0 hk HN (emptyB_ne hz) w
                  · simp at ho
                · exact bad_3fff hk0 hk HN (emptyB_ne hz) w
              · cases b4
                · by_cases hz : nm = []
                  · subst hz
                    simp at ho
                  · exact bad_4ffft hk0 hk HN (emptyB_ne hz) w
                · simp at ho
            · exact bad_2ff hk0 hk HN (emptyB_ne hz) w
          · cases b3
            · by_cases hz : cl = []
              · subst hz
                cases b4
                · by_cases hz : nm = []
                  · subst hz
                    simp at ho
                  · exact bad_4fftf hk0 hk HN (emptyB_ne hz) w
                · simp at ho
              · exact bad_3fft hk0 hk HN (emptyB_ne hz) w
            · cases b4
              · by_cases hz : nm = []
                · subst hz
                  simp at ho
                · exact bad_4fftt hk0 hk HN (emptyB_ne hz) w
              · simp at ho
        · exact bad_1f hk0 hk HN hz w
      · cases b2
        · by_cases hz : ty = []
          · subst hz
            cases b3
            · by_cases hz : cl = []
              · subst hz
                cases b4
                · by_cases hz : nm = []
                  · subst hz
                    simp at ho
                  · exact bad_4ftff hk0 hk HN (emptyB_ne hz) w
                · simp at ho
              · exact bad_3ftf hk0 hk HN (emptyB_ne hz) w
            · cases b4
              · by_cases hz : nm = []
                · subst hz
                  simp at ho
                · exact bad_4ftft hk0 hk HN (emptyB_ne hz) w
              · simp at ho
          · exact bad_2ft hk0 hk HN (emptyB_ne hz) w
        · cases b3
          · by_cases hz : cl = []
            · subst hz
              cases b4
              · by_cases hz : nm = []
                · subst hz
                  simp at ho
                · exact bad_4fttf hk0 hk HN (emptyB_ne hz) w
              · simp at ho
            · exact bad_3ftt hk0 hk HN (emptyB_ne hz) w
          · cases b4
            · by_cases hz : nm = []
              · subst hz
                simp at ho
              · exact bad_4fttt hk0 hk HN (emptyB_ne hz) w
            · simp at ho
    · exact bad_0 hk0 hk HN hz w
  · cases b1
    · by_cases hz : b = 0
      · subst hz
        cases b2
        · by_cases hz : ty = []
          · subst hz
            cases b3
            · by_cases hz : cl = []
              · subst hz
                cases b4
                · by_cases hz : nm = []
                  · subst hz
                    simp at ho
                  · exact bad_4tfff hk0 hk HN (emptyB_ne hz) w
                · simp at ho
              · exact bad_3tff hk0 hk HN (emptyB_ne hz) w
            · cases b4
              · by_cases hz : nm = []
                · subst hz
                  simp at ho
                · exact bad_4tfft hk0 hk HN (emptyB_ne hz) w
              · simp at ho
          · exact bad_2tf hk0 hk HN (emptyB_ne hz) w
        · cases b3
          · by_cases hz : cl = []
            · subst hz
              cases b4
              · by_cases hz : nm = []
                · subst hz
                  simp at ho
                · exact bad_4tftf hk0 hk HN (emptyB_ne hz) w
              · simp at ho
            · exact bad_3tft hk0 hk HN (emptyB_ne hz) w
          · cases b4
            · by_cases hz : nm = []
              · subst hz
                simp at ho
              · exact bad_4tftt hk0 hk HN (emptyB_ne hz) w
            · simp at ho
      · exact bad_1t hk0 hk HN hz w
    · cases b2
      · by_cases hz : ty = []
        · subst hz
          cases b3
          · by_cases hz : cl = []
            · subst hz
              cases b4
              · by_cases hz : nm = []
                · subst hz
                  simp at ho
                · exact bad_4ttff hk0 hk HN (emptyB_ne hz) w
              · simp at ho
            · exact bad_3ttf hk0 hk HN (emptyB_ne hz) w
          · cases b4
            · by_cases hz : nm = []
              · subst hz
                simp at ho
              · exact bad_4ttft hk0 hk HN (emptyB_ne hz) w
            · simp at ho
        · exact bad_2tt hk0 hk HN (emptyB_ne hz) w
      · cases b3
        · by_cases hz : cl = []
          · subst hz
            cases b4
            · by_cases hz : nm = []
              · subst hz
                simp at ho
              · exact bad_4tttf hk0 hk HN (emptyB_ne hz) w
            · simp at ho
          · exact bad_3ttt hk0 hk HN (emptyB_ne hz) w
        · cases b4
          · by_cases hz : nm = []
            · subst hz
              simp at ho
            · exact bad_4tttt hk0 hk HN (emptyB_ne hz) w
          · simp at ho
end Go.Proofs.YthcjdkjjjlpjaaaGreatDoor
namespace Go.Proofs.YthcjdkjjjlpjaaaGreatDoor
open Go.ChangeShapes Go.WideShapes Go.ChangeAt Go.RowKit
set_option linter.unusedVariables false
set_option linter.unusedSimpArgs false

theorem insF_at (k : Int) (a b : Int) (ty cl nm : List UInt8) (b0 b1 b2 b3 b4 : Bool) (hk0 : 0 < k) (hk : k < 29) (h : ((opF k.toNat).testBit 0, (opF k.toNat).testBit 1, (opF k.toNat).testBit 2, (opF k.toNat).testBit 3, (opF k.toNat).testBit 4) = (b0, b1, b2, b3, b4)) :
    insF ⟨k, a, b, ty, cl, nm⟩ = (if ((a == 0 || b0) && (b == 0 || b1) && (ty == [] || b2) && (cl == [] || b3) && (nm == [] || b4)) = false then 1 else if rangeB ⟨k, a, b, ty, cl, nm⟩ = false then 2
      else if (typedB ⟨k, a, b, ty, cl, nm⟩ && ((!b3 || nameB cl) && (!b4 || nameB nm))) = false then 1 else 0) := by
  simp only [Prod.mk.injEq] at h
  obtain ⟨rfl, rfl, rfl, rfl, rfl⟩ := h
  unfold insF
  rw [if_neg (by simp only; omega)]
  rfl
theorem ten_cells (w : World) (b0 b1 b2 b3 b4 : Bool) (t : TypeId) {wn : World} (hb : Below (w.alloc (.cells #[.bool b0, .bool b1, .bool b2, .bool b3, .bool b4] t)).heap.size (w.alloc (.cells #[.bool b0, .bool b1, .bool b2, .bool b3, .bool b4] t)) wn) :
    wn.cell? ⟨w.heap.size, 3, none⟩ = some (.bool b3) ∧ wn.cell? ⟨w.heap.size, 4, none⟩ = some (.bool b4) := by
  have hlt : w.heap.size < (w.alloc (.cells #[.bool b0, .bool b1, .bool b2, .bool b3, .bool b4] t)).heap.size := by simp
  refine ⟨?_, ?_⟩
  · rw [hb.cell (p := ⟨w.heap.size, 3, none⟩) hlt]; exact World.cell?_alloc_mark ..
  · rw [hb.cell (p := ⟨w.heap.size, 4, none⟩) hlt]; exact World.cell?_alloc_mark ..
theorem ret_i {a b : Int} (h : a = b) : Ending.returned (.int .i64 a) = .returned (.int .i64 b) := by rw [h]
set_option maxHeartbeats 2000000 in
theorem fault_1 (w : World) :
    Calls Tryz.prog 49 #[insV ⟨1, 0, 0, [], [], []⟩] w fun e w' => e = .returned (.int .i64 (insF ⟨1, 0, 0, [], [], []⟩ : Int)) ∧ Below w.heap.size w w' := by
  have E := Lib.hid (insF_at 1 0 0 [] [] [] false false false false false (by decide) (by decide) (by decide))
  have HN := Lib.hid needs_1
  have HW := Lib.hid (fun a w => word32_any a w)
  have HJ := Lib.hid (show ∀ w, Calls Tryz.prog 50 #[.int .i64 1] w fun e w' => e = .returned (.bool false) ∧ w = w' from fun w => by simpa using jumps_any 1 w)
  have HM := fun w => typeMay_any ⟨1, 0, 0, [], [], []⟩ w (by first | exact Nat.zero_le _ | exact ht)
  have z0 : (bs []).toList.isEmpty = true := by rw [ByteArray.toList_eq]; rfl
  unfold insV at *
  generalize typedB ⟨1, 0, 0, [], [], []⟩ = tb at *
  replace HM := Lib.hid HM
  go_enter Tryz.func49, Tryz.ntmps49
  go_wp2_with (first
    | (go_at_call 67; (with_reducible refine (HN.out _).mono ?_); rintro e w1 ⟨rfl, b1⟩
       have BX1 := box_new ⟨1, 0, 0, [], [], []⟩ _ _ rfl b1
       have B1 := Lib.hid BX1.1
       have L1 := Lib.hid BX1.2
       obtain ⟨q0, q1, q2, q3, q4, q5, q6⟩ := BX1.1
       clear BX1 b1)
    | (go_at_call 68; (with_reducible refine (HW.out _ _).mono ?_); rintro e w' ⟨rfl, rfl⟩)
    | (go_at_call 50; (with_reducible refine (HJ.out _).mono ?_); rintro e w' ⟨rfl, rfl⟩)
    | (go_at_call 69; (with_reducible refine (HM.out _).mono ?_); rintro e w2 ⟨rfl, b2⟩
       have L2 := Lib.hid (bnext (bnext L1.out (al0 _ _)) b2)
       have C2 := ten_cells _ _ _ _ _ _ _ b2
       have B2 := (B1.out.below (al0 _ _)).below b2
       obtain ⟨q0, q1, q2, q3, q4, q5, q6⟩ := B2
       obtain ⟨r3, r4⟩ := C2
       clear b2))
  all_goals
    go_ret
    refine ⟨ret_i ?_, ?_⟩
    · rw [E.out]
      clear E HN HW HJ HM 
      simp_all [rangeB, targetB, bs_list, ByteArray.toList_eq] <;> (repeat' split) <;> omega
    · first | with_reducible exact L2.out | with_reducible exact bnext L1.out (al0 _ _)
set_option maxHeartbeats 2000000 in
theorem fault_2 (a : Int) (ty : List UInt8) (w : World) (ht : ty.length ≤ 1048576) :
    Calls Tryz.prog 49 #[insV ⟨2, a, 0, ty, [], []⟩] w fun e w' => e = .returned (.int .i64 (insF ⟨2, a, 0, ty, [], []⟩ : Int)) ∧ Below w.heap.size w w' := by
  have E := Lib.hid (insF_at 2 a 0 ty [] [] true false true false false (by decide) (by decide) (by decide))
  have HN := Lib.hid needs_2
  have HW := Lib.hid (fun a w => word32_any a w)
  have HJ := Lib.hid (show ∀ w, Calls Tryz.prog 50 #[.int .i64 2] w fun e w' => e = .returned (.bool false) ∧ w = w' from fun w => by simpa using jumps_any 2 w)
  have HM := fun w => typeMay_any ⟨2, a, 0, ty, [], []⟩ w (by first | exact Nat.zero_le _ | exact ht)
  have z0 : (bs []).toList.isEmpty = true := by rw [ByteArray.toList_eq]; rfl
  unfold insV at *
  generalize typedB ⟨2, a, 0, ty, [], []⟩ = tb at *
  replace HM := Lib.hid HM
  clear ht
  go_enter Tryz.func49, Tryz.ntmps49
  go_wp2_with (first
    | (go_at_call 67; (with_reducible refine (HN.out _).mono ?_); rintro e w1 ⟨rfl, b1⟩
       have BX1 := box_new ⟨2, a, 0, ty, [], []⟩ _ _ rfl b1
       have B1 := Lib.hid BX1.1
       have L1 := Lib.hid BX1.2
       obtain ⟨q0, q1, q2, q3, q4, q5, q6⟩ := BX1.1
       clear BX1 b1)
    | (go_at_call 68; (with_reducible refine (HW.out _ _).mono ?_); rintro e w' ⟨rfl, rfl⟩)
    | (go_at_call 50; (with_reducible refine (HJ.out _).mono ?_); rintro e w' ⟨rfl, rfl⟩)
    | (go_at_call 69; (with_reducible refine (HM.out _).mono ?_); rintro e w2 ⟨rfl, b2⟩
       have L2 := Lib.hid (bnext (bnext L1.out (al0 _ _)) b2)
       have C2 := ten_cells _ _ _ _ _ _ _ b2
       have B2 := (B1.out.below (al0 _ _)).below b2
       obtain ⟨q0, q1, q2, q3, q4, q5, q6⟩ := B2
       obtain ⟨r3, r4⟩ := C2
       clear b2))
  all_goals
    go_ret
    refine ⟨ret_i ?_, ?_⟩
    · rw [E.out]
      clear E HN HW HJ HM 
      simp_all [rangeB, targetB, bs_list, ByteArray.toList_eq] <;> (repeat' split) <;> omega
    · first | with_reducible exact L2.out | with_reducible exact bnext L1.out (al0 _ _)
set_option maxHeartbeats 2000000 in
theorem fault_3 (w : World) :
    Calls Tryz.prog 49 #[insV ⟨3, 0, 0, [], [], []⟩] w fun e w' => e = .returned (.int .i64 (insF ⟨3, 0, 0, [], [], []⟩ : Int)) ∧ Below w.heap.size w w' := by
  have E := Lib.hid (insF_at 3 0 0 [] [] [] false false false false false (by decide) (by decide) (by decide))
  have HN := Lib.hid needs_3
  have HW := Lib.hid (fun a w => word32_any a w)
  have HJ := Lib.hid (show ∀ w, Calls Tryz.prog 50 #[.int .i64 3] w fun e w' => e = .returned (.bool false) ∧ w = w' from fun w => by simpa using jumps_any 3 w)
  have HM := fun w => typeMay_any ⟨3, 0, 0, [], [], []⟩ w (by first | exact Nat.zero_le _ | exact ht)
  have z0 : (bs []).toList.isEmpty = true := by rw [ByteArray.toList_eq]; rfl
  unfold insV at *
  generalize typedB ⟨3, 0, 0, [], [], []⟩ = tb at *
  replace HM := Lib.hid HM
  go_enter Tryz.func49, Tryz.ntmps49
  go_wp2_with (first
    | (go_at_call 67; (with_reducible refine (HN.out _).mono ?_); rintro e w1 ⟨rfl, b1⟩
       have BX1 := box_new ⟨3, 0, 0, [], [], []⟩ _ _ rfl b1
       have B1 := Lib.hid BX1.1
       have L1 := Lib.hid BX1.2
       obtain ⟨q0, q1, q2, q3, q4, q5, q6⟩ := BX1.1
       clear BX1 b1)
    | (go_at_call 68; (with_reducible refine (HW.out _ _).mono ?_); rintro e w' ⟨rfl, rfl⟩)
    | (go_at_call 50; (with_reducible refine (HJ.out _).mono ?_); rintro e w' ⟨rfl, rfl⟩)
    | (go_at_call 69; (with_reducible refine (HM.out _).mono ?_); rintro e w2 ⟨rfl, b2⟩
       have L2 := Lib.hid (bnext (bnext L1.out (al0 _ _)) b2)
       have C2 := ten_cells _ _ _ _ _ _ _ b2
       have B2 := (B1.out.below (al0 _ _)).below b2
       obtain ⟨q0, q1, q2, q3, q4, q5, q6⟩ := B2
       obtain ⟨r3, r4⟩ := C2
       clear b2))
  all_goals
    go_ret
    refine ⟨ret_i ?_, ?_⟩
    · rw [E.out]
      clear E HN HW HJ HM 
      simp_all [rangeB, targetB, bs_list, ByteArray.toList_eq] <;> (repeat' split) <;> omega
    · first | with_reducible exact L2.out | with_reducible exact bnext L1.out (al0 _ _)
set_option maxHeartbeats 2000000 in
theorem fault_4 (a : Int) (w : World) :
    Calls Tryz.prog 49 #[insV ⟨4, a, 0, [], [], []⟩] w fun e w' => e = .returned (.int .i64 (insF ⟨4, a, 0, [], [], []⟩ : Int)) ∧ Below w.heap.size w w' := by
  have E := Lib.hid (insF_at 4 a 0 [] [] [] true false false false false (by decide) (by decide) (by decide))
  have HN := Lib.hid needs_4
  have HW := Lib.hid (fun a w => word32_any a w)
  have HJ := Lib.hid (show ∀ w, Calls Tryz.prog 50 #[.int .i64 4] w fun e w' => e = .returned (.bool false) ∧ w = w' from fun w => by simpa using jumps_any 4 w)
  have HM := fun w => typeMay_any ⟨4, a, 0, [], [], []⟩ w (by first | exact Nat.zero_le _ | exact ht)
  have z0 : (bs []).toList.isEmpty = true := by rw [ByteArray.toList_eq]; rfl
  unfold insV at *
  generalize typedB ⟨4, a, 0, [], [], []⟩ = tb at *
  replace HM := Lib.hid HM
  go_enter Tryz.func49, Tryz.ntmps49
  go_wp2_with (first
    | (go_at_call 67; (with_reducible refine (HN.out _).mono ?_); rintro e w1 ⟨rfl, b1⟩
       have BX1 := box_new ⟨4, a, 0, [], [], []⟩ _ _ rfl b1
       have B1 := Lib.hid BX1.1
       have L1 := Lib.hid BX1.2
       obtain ⟨q0, q1, q2, q3, q4, q5, q6⟩ := BX1.1
       clear BX1 b1)
    | (go_at_call 68; (with_reducible refine (HW.out _ _).mono ?_); rintro e w' ⟨rfl, rfl⟩)
    | (go_at_call 50; (with_reducible refine (HJ.out _).mono ?_); rintro e w' ⟨rfl, rfl⟩)
    | (go_at_call 69; (with_reducible refine (HM.out _).mono ?_); rintro e w2 ⟨rfl, b2⟩
       have L2 := Lib.hid (bnext (bnext L1.out (al0 _ _)) b2)
       have C2 := ten_cells _ _ _ _ _ _ _ b2
       have B2 := (B1.out.below (al0 _ _)).below b2
       obtain ⟨q0, q1, q2, q3, q4, q5, q6⟩ := B2
       obtain ⟨r3, r4⟩ := C2
       clear b2))
  all_goals
    go_ret
    refine ⟨ret_i ?_, ?_⟩
    · rw [E.out]
      clear E HN HW HJ HM 
      simp_all [rangeB, targetB, bs_list, ByteArray.toList_eq] <;> (repeat' split) <;> omega
    · first | with_reducible exact L2.out | with_reducible exact bnext L1.out (al0 _ _)
set_option maxHeartbeats 2000000 in
theorem fault_5 (a : Int) (w : World) :
    Calls Tryz.prog 49 #[insV ⟨5, a, 0, [], [], []⟩] w fun e w' => e = .returned (.int .i64 (insF ⟨5, a, 0, [], [], []⟩ : Int)) ∧ Below w.heap.size w w' := by
  have E := Lib.hid (insF_at 5 a 0 [] [] [] true false false false false (by decide) (by decide) (by decide))
  have HN := Lib.hid needs_5
  have HW := Lib.hid (fun a w => word32_any a w)
  have HJ := Lib.hid (show ∀ w, Calls Tryz.prog 50 #[.int .i64 5] w fun e w' => e = .returned (.bool false) ∧ w = w' from fun w => by simpa using jumps_any 5 w)
  have HM := fun w => typeMay_any ⟨5, a, 0, [], [], []⟩ w (by first | exact Nat.zero_le _ | exact ht)
  have z0 : (bs []).toList.isEmpty = true := by rw [ByteArray.toList_eq]; rfl
  unfold insV at *
  generalize typedB ⟨5, a, 0, [], [], []⟩ = tb at *
  replace HM := Lib.hid HM
  go_enter Tryz.func49, Tryz.ntmps49
  go_wp2_with (first
    | (go_at_call 67; (with_reducible refine (HN.out _).mono ?_); rintro e w1 ⟨rfl, b1⟩
       have BX1 := box_new ⟨5, a, 0, [], [], []⟩ _ _ rfl b1
       have B1 := Lib.hid BX1.1
       have L1 := Lib.hid BX1.2
       obtain ⟨q0, q1, q2, q3, q4, q5, q6⟩ := BX1.1
       clear BX1 b1)
    | (go_at_call 68; (with_reducible refine (HW.out _ _).mono ?_); rintro e w' ⟨rfl, rfl⟩)
    | (go_at_call 50; (with_reducible refine (HJ.out _).mono ?_); rintro e w' ⟨rfl, rfl⟩)
    | (go_at_call 69; (with_reducible refine (HM.out _).mono ?_); rintro e w2 ⟨rfl, b2⟩
       have L2 := Lib.hid (bnext (bnext L1.out (al0 _ _)) b2)
       have C2 := ten_cells _ _ _ _ _ _ _ b2
       have B2 := (B1.out.below (al0 _ _)).below b2
       obtain ⟨q0, q1, q2, q3, q4, q5, q6⟩ := B2
       obtain ⟨r3, r4⟩ := C2
       clear b2))
  all_goals
    go_ret
    refine ⟨ret_i ?_, ?_⟩
    · rw [E.out]
      clear E HN HW HJ HM 
      simp_all [rangeB, targetB, bs_list, ByteArray.toList_eq] <;> (repeat' split) <;> omega
    · first | with_reducible exact L2.out | with_reducible exact bnext L1.out (al0 _ _)
set_option maxHeartbeats 2000000 in
theorem fault_6 (w : World) :
    Calls Tryz.prog 49 #[insV ⟨6, 0, 0, [], [], []⟩] w fun e w' => e = .returned (.int .i64 (insF ⟨6, 0, 0, [], [], []⟩ : Int)) ∧ Below w.heap.size w w' := by
  have E := Lib.hid (insF_at 6 0 0 [] [] [] false false false false false (by decide) (by decide) (by decide))
  have HN := Lib.hid needs_6
  have HW := Lib.hid (fun a w => word32_any a w)
  have HJ := Lib.hid (show ∀ w, Calls Tryz.prog 50 #[.int .i64 6] w fun e w' => e = .returned (.bool false) ∧ w = w' from fun w => by simpa using jumps_any 6 w)
  have HM := fun w => typeMay_any ⟨6, 0, 0, [], [], []⟩ w (by first | exact Nat.zero_le _ | exact ht)
  have z0 : (bs []).toList.isEmpty = true := by rw [ByteArray.toList_eq]; rfl
  unfold insV at *
  generalize typedB ⟨6, 0, 0, [], [], []⟩ = tb at *
  replace HM := Lib.hid HM
  go_enter Tryz.func49, Tryz.ntmps49
  go_wp2_with (first
    | (go_at_call 67; (with_reducible refine (HN.out _).mono ?_); rintro e w1 ⟨rfl, b1⟩
       have BX1 := box_new ⟨6, 0, 0, [], [], []⟩ _ _ rfl b1
       have B1 := Lib.hid BX1.1
       have L1 := Lib.hid BX1.2
       obtain ⟨q0, q1, q2, q3, q4, q5, q6⟩ := BX1.1
       clear BX1 b1)
    | (go_at_call 68; (with_reducible refine (HW.out _ _).mono ?_); rintro e w' ⟨rfl, rfl⟩)
    | (go_at_call 50; (with_reducible refine (HJ.out _).mono ?_); rintro e w' ⟨rfl, rfl⟩)
    | (go_at_call 69; (with_reducible refine (HM.out _).mono ?_); rintro e w2 ⟨rfl, b2⟩
       have L2 := Lib.hid (bnext (bnext L1.out (al0 _ _)) b2)
       have C2 := ten_cells _ _ _ _ _ _ _ b2
       have B2 := (B1.out.below (al0 _ _)).below b2
       obtain ⟨q0, q1, q2, q3, q4, q5, q6⟩ := B2
       obtain ⟨r3, r4⟩ := C2
       clear b2))
  all_goals
    go_ret
    refine ⟨ret_i ?_, ?_⟩
    · rw [E.out]
      clear E HN HW HJ HM 
      simp_all [rangeB, targetB, bs_list, ByteArray.toList_eq] <;> (repeat' split) <;> omega
    · first | with_reducible exact L2.out | with_reducible exact bnext L1.out (al0 _ _)
set_option maxHeartbeats 2000000 in
theorem fault_7 (w : World) :
    Calls Tryz.prog 49 #[insV ⟨7, 0, 0, [], [], []⟩] w fun e w' => e = .returned (.int .i64 (insF ⟨7, 0, 0, [], [], []⟩ : Int)) ∧ Below w.heap.size w w' := by
  have E := Lib.hid (insF_at 7 0 0 [] [] [] false false false false false (by decide) (by decide) (by decide))
  have HN := Lib.hid needs_7
  have HW := Lib.hid (fun a w => word32_any a w)
  have HJ := Lib.hid (show ∀ w, Calls Tryz.prog 50 #[.int .i64 7] w fun e w' => e = .returned (.bool false) ∧ w = w' from fun w => by simpa using jumps_any 7 w)
  have HM := fun w => typeMay_any ⟨7, 0, 0, [], [], []⟩ w (by first | exact Nat.zero_le _ | exact ht)
  have z0 : (bs []).toList.isEmpty = true := by rw [ByteArray.toList_eq]; rfl
  unfold insV at *
  generalize typedB ⟨7, 0, 0, [], [], []⟩ = tb at *
  replace HM := Lib.hid HM
  go_enter Tryz.func49, Tryz.ntmps49
  go_wp2_with (first
    | (go_at_call 67; (with_reducible refine (HN.out _).mono ?_); rintro e w1 ⟨rfl, b1⟩
       have BX1 := box_new ⟨7, 0, 0, [], [], []⟩ _ _ rfl b1
       have B1 := Lib.hid BX1.1
       have L1 := Lib.hid BX1.2
       obtain ⟨q0, q1, q2, q3, q4, q5, q6⟩ := BX1.1
       clear BX1 b1)
    | (go_at_call 68; (with_reducible refine (HW.out _ _).mono ?_); rintro e w' ⟨rfl, rfl⟩)
    | (go_at_call 50; (with_reducible refine (HJ.out _).mono ?_); rintro e w' ⟨rfl, rfl⟩)
    | (go_at_call 69; (with_reducible refine (HM.out _).mono ?_); rintro e w2 ⟨rfl, b2⟩
       have L2 := Lib.hid (bnext (bnext L1.out (al0 _ _)) b2)
       have C2 := ten_cells _ _ _ _ _ _ _ b2
       have B2 := (B1.out.below (al0 _ _)).below b2
       obtain ⟨q0, q1, q2, q3, q4, q5, q6⟩ := B2
       obtain ⟨r3, r4⟩ := C2
       clear b2))
  all_goals
    go_ret
    refine ⟨ret_i ?_, ?_⟩
    · rw [E.out]
      clear E HN HW HJ HM 
      simp_all [rangeB, targetB, bs_list, ByteArray.toList_eq] <;> (repeat' split) <;> omega
    · first | with_reducible exact L2.out | with_reducible exact bnext L1.out (al0 _ _)
set_option maxHeartbeats 2000000 in
theorem fault_8 (w : World) :
    Calls Tryz.prog 49 #[insV ⟨8, 0, 0, [], [], []⟩] w fun e w' => e = .returned (.int .i64 (insF ⟨8, 0, 0, [], [], []⟩ : Int)) ∧ Below w.heap.size w w' := by
  have E := Lib.hid (insF_at 8 0 0 [] [] [] false false false false false (by decide) (by decide) (by decide))
  have HN := Lib.hid needs_8
  have HW := Lib.hid (fun a w => word32_any a w)
  have HJ := Lib.hid (show ∀ w, Calls Tryz.prog 50 #[.int .i64 8] w fun e w' => e = .returned (.bool false) ∧ w = w' from fun w => by simpa using jumps_any 8 w)
  have HM := fun w => typeMay_any ⟨8, 0, 0, [], [], []⟩ w (by first | exact Nat.zero_le _ | exact ht)
  have z0 : (bs []).toList.isEmpty = true := by rw [ByteArray.toList_eq]; rfl
  unfold insV at *
  generalize typedB ⟨8, 0, 0, [], [], []⟩ = tb at *
  replace HM := Lib.hid HM
  go_enter Tryz.func49, Tryz.ntmps49
  go_wp2_with (first
    | (go_at_call 67; (with_reducible refine (HN.out _).mono ?_); rintro e w1 ⟨rfl, b1⟩
       have BX1 := box_new ⟨8, 0, 0, [], [], []⟩ _ _ rfl b1
       have B1 := Lib.hid BX1.1
       have L1 := Lib.hid BX1.2
       obtain ⟨q0, q1, q2, q3, q4, q5, q6⟩ := BX1.1
       clear BX1 b1)
    | (go_at_call 68; (with_reducible refine (HW.out _ _).mono ?_); rintro e w' ⟨rfl, rfl⟩)
    | (go_at_call 50; (with_reducible refine (HJ.out _).mono ?_); rintro e w' ⟨rfl, rfl⟩)
    | (go_at_call 69; (with_reducible refine (HM.out _).mono ?_); rintro e w2 ⟨rfl, b2⟩
       have L2 := Lib.hid (bnext (bnext L1.out (al0 _ _)) b2)
       have C2 := ten_cells _ _ _ _ _ _ _ b2
       have B2 := (B1.out.below (al0 _ _)).below b2
       obtain ⟨q0, q1, q2, q3, q4, q5, q6⟩ := B2
       obtain ⟨r3, r4⟩ := C2
       clear b2))
  all_goals
    go_ret
    refine ⟨ret_i ?_, ?_⟩
    · rw [E.out]
      clear E HN HW HJ HM 
      simp_all [rangeB, targetB, bs_list, ByteArray.toList_eq] <;> (repeat' split) <;> omega
    · first | with_reducible exact L2.out | with_reducible exact bnext L1.out (al0 _ _)
set_option maxHeartbeats 2000000 in
theorem fault_9 (a : Int) (ty : List UInt8) (w : World) (ht : ty.length ≤ 1048576) :
    Calls Tryz.prog 49 #[insV ⟨9, a, 0, ty, [], []⟩] w fun e w' => e = .returned (.int .i64 (insF ⟨9, a, 0, ty, [], []⟩ : Int)) ∧ Below w.heap.size w w' := by
  have E := Lib.hid (insF_at 9 a 0 ty [] [] true false true false false (by decide) (by decide) (by decide))
  have HN := Lib.hid needs_9
  have HW := Lib.hid (fun a w => word32_any a w)
  have HJ := Lib.hid (show ∀ w, Calls Tryz.prog 50 #[.int .i64 9] w fun e w' => e = .returned (.bool false) ∧ w = w' from fun w => by simpa using jumps_any 9 w)
  have HM := fun w => typeMay_any ⟨9, a, 0, ty, [], []⟩ w (by first | exact Nat.zero_le _ | exact ht)
  have z0 : (bs []).toList.isEmpty = true := by rw [ByteArray.toList_eq]; rfl
  unfold insV at *
  generalize typedB ⟨9, a, 0, ty, [], []⟩ = tb at *
  replace HM := Lib.hid HM
  clear ht
  go_enter Tryz.func49, Tryz.ntmps49
  go_wp2_with (first
    | (go_at_call 67; (with_reducible refine (HN.out _).mono ?_); rintro e w1 ⟨rfl, b1⟩
       have BX1 := box_new ⟨9, a, 0, ty, [], []⟩ _ _ rfl b1
       have B1 := Lib.hid BX1.1
       have L1 := Lib.hid BX1.2
       obtain ⟨q0, q1, q2, q3, q4, q5, q6⟩ := BX1.1
       clear BX1 b1)
    | (go_at_call 68; (with_reducible refine (HW.out _ _).mono ?_); rintro e w' ⟨rfl, rfl⟩)
    | (go_at_call 50; (with_reducible refine (HJ.out _).mono ?_); rintro e w' ⟨rfl, rfl⟩)
    | (go_at_call 69; (with_reducible refine (HM.out _).mono ?_); rintro e w2 ⟨rfl, b2⟩
       have L2 := Lib.hid (bnext (bnext L1.out (al0 _ _)) b2)
       have C2 := ten_cells _ _ _ _ _ _ _ b2
       have B2 := (B1.out.below (al0 _ _)).below b2
       obtain ⟨q0, q1, q2, q3, q4, q5, q6⟩ := B2
       obtain ⟨r3, r4⟩ := C2
       clear b2))
  all_goals
    go_ret
    refine ⟨ret_i ?_, ?_⟩
    · rw [E.out]
      clear E HN HW HJ HM 
      simp_all [rangeB, targetB, bs_list, ByteArray.toList_eq] <;> (repeat' split) <;> omega
    · first | with_reducible exact L2.out | with_reducible exact bnext L1.out (al0 _ _)
set_option maxHeartbeats 2000000 in
theorem fault_10 (ty : List UInt8) (w : World) (ht : ty.length ≤ 1048576) :
    Calls Tryz.prog 49 #[insV ⟨10, 0, 0, ty, [], []⟩] w fun e w' => e = .returned (.int .i64 (insF ⟨10, 0, 0, ty, [], []⟩ : Int)) ∧ Below w.heap.size w w' := by
  have E := Lib.hid (insF_at 10 0 0 ty [] [] false false true false false (by decide) (by decide) (by decide))
  have HN := Lib.hid needs_10
  have HW := Lib.hid (fun a w => word32_any a w)
  have HJ := Lib.hid (show ∀ w, Calls Tryz.prog 50 #[.int .i64 10] w fun e w' => e = .returned (.bool false) ∧ w = w' from fun w => by simpa using jumps_any 10 w)
  have HM := fun w => typeMay_any ⟨10, 0, 0, ty, [], []⟩ w (by first | exact Nat.zero_le _ | exact ht)
  have z0 : (bs []).toList.isEmpty = true := by rw [ByteArray.toList_eq]; rfl
  unfold insV at *
  generalize typedB ⟨10, 0, 0, ty, [], []⟩ = tb at *
  replace HM := Lib.hid HM
  clear ht
  go_enter Tryz.func49, Tryz.ntmps49
  go_wp2_with (first
    | (go_at_call 67; (with_reducible refine (HN.out _).mono ?_); rintro e w1 ⟨rfl, b1⟩
       have BX1 := box_new ⟨10, 0, 0, ty, [], []⟩ _ _ rfl b1
       have B1 := Lib.hid BX1.1
       have L1 := Lib.hid BX1.2
       obtain ⟨q0, q1, q2, q3, q4, q5, q6⟩ := BX1.1
       clear BX1 b1)
    | (go_at_call 68; (with_reducible refine (HW.out _ _).mono ?_); rintro e w' ⟨rfl, rfl⟩)
    | (go_at_call 50; (with_reducible refine (HJ.out _).mono ?_); rintro e w' ⟨rfl, rfl⟩)
    | (go_at_call 69; (with_reducible refine (HM.out _).mono ?_); rintro e w2 ⟨rfl, b2⟩
       have L2 := Lib.hid (bnext (bnext L1.out (al0 _ _)) b2)
       have C2 := ten_cells _ _ _ _ _ _ _ b2
       have B2 := (B1.out.below (al0 _ _)).below b2
       obtain ⟨q0, q1, q2, q3, q4, q5, q6⟩ := B2
       obtain ⟨r3, r4⟩ := C2
       clear b2))
  all_goals
    go_ret
    refine ⟨ret_i ?_, ?_⟩
    · rw [E.out]
      clear E HN HW HJ HM 
      simp_all [rangeB, targetB, bs_list, ByteArray.toList_eq] <;> (repeat' split) <;> omega
    · first | with_reducible exact L2.out | with_reducible exact bnext L1.out (al0 _ _)
set_option maxHeartbeats 2000000 in
theorem fault_11 (w : World) :
    Calls Tryz.prog 49 #[insV ⟨11, 0, 0, [], [], []⟩] w fun e w' => e = .returned (.int .i64 (insF ⟨11, 0, 0, [], [], []⟩ : Int)) ∧ Below w.heap.size w w' := by
  have E := Lib.hid (insF_at 11 0 0 [] [] [] false false false false false (by decide) (by decide) (by decide))
  have HN := Lib.hid needs_11
  have HW := Lib.hid (fun a w => word32_any a w)
  have HJ := Lib.hid (show ∀ w, Calls Tryz.prog 50 #[.int .i64 11] w fun e w' => e = .returned (.bool false) ∧ w = w' from fun w => by simpa using jumps_any 11 w)
  have HM := fun w => typeMay_any ⟨11, 0, 0, [], [], []⟩ w (by first | exact Nat.zero_le _ | exact ht)
  have z0 : (bs []).toList.isEmpty = true := by rw [ByteArray.toList_eq]; rfl
  unfold insV at *
  generalize typedB ⟨11, 0, 0, [], [], []⟩ = tb at *
  replace HM := Lib.hid HM
  go_enter Tryz.func49, Tryz.ntmps49
  go_wp2_with (first
    | (go_at_call 67; (with_reducible refine (HN.out _).mono ?_); rintro e w1 ⟨rfl, b1⟩
       have BX1 := box_new ⟨11, 0, 0, [], [], []⟩ _ _ rfl b1
       have B1 := Lib.hid BX1.1
       have L1 := Lib.hid BX1.2
       obtain ⟨q0, q1, q2, q3, q4, q5, q6⟩ := BX1.1
       clear BX1 b1)
    | (go_at_call 68; (with_reducible refine (HW.out _ _).mono ?_); rintro e w' ⟨rfl, rfl⟩)
    | (go_at_call 50; (with_reducible refine (HJ.out _).mono ?_); rintro e w' ⟨rfl, rfl⟩)
    | (go_at_call 69; (with_reducible refine (HM.out _).mono ?_); rintro e w2 ⟨rfl, b2⟩
       have L2 := Lib.hid (bnext (bnext L1.out (al0 _ _)) b2)
       have C2 := ten_cells _ _ _ _ _ _ _ b2
       have B2 := (B1.out.below (al0 _ _)).below b2
       obtain ⟨q0, q1, q2, q3, q4, q5, q6⟩ := B2
       obtain ⟨r3, r4⟩ := C2
       clear b2))
  all_goals
    go_ret
    refine ⟨ret_i ?_, ?_⟩
    · rw [E.out]
      clear E HN HW HJ HM 
      simp_all [rangeB, targetB, bs_list, ByteArray.toList_eq] <;> (repeat' split) <;> omega
    · first | with_reducible exact L2.out | with_reducible exact bnext L1.out (al0 _ _)
set_option maxHeartbeats 2000000 in
theorem fault_12 (a b : Int) (w : World) :
    Calls Tryz.prog 49 #[insV ⟨12, a, b, [], [], []⟩] w fun e w' => e = .returned (.int .i64 (insF ⟨12, a, b, [], [], []⟩ : Int)) ∧ Below w.heap.size w w' := by
  have E := Lib.hid (insF_at 12 a b [] [] [] true true false false false (by decide) (by decide) (by decide))
  have HN := Lib.hid needs_12
  have HW := Lib.hid (fun a w => word32_any a w)
  have HJ := Lib.hid (show ∀ w, Calls Tryz.prog 50 #[.int .i64 12] w fun e w' => e = .returned (.bool true) ∧ w = w' from fun w => by simpa using jumps_any 12 w)
  have HM := fun w => typeMay_any ⟨12, a, b, [], [], []⟩ w (by first | exact Nat.zero_le _ | exact ht)
  have z0 : (bs []).toList.isEmpty = true := by rw [ByteArray.toList_eq]; rfl
  unfold insV at *
  generalize typedB ⟨12, a, b, [], [], []⟩ = tb at *
  replace HM := Lib.hid HM
  go_enter Tryz.func49, Tryz.ntmps49
  go_wp2_with (first
    | (go_at_call 67; (with_reducible refine (HN.out _).mono ?_); rintro e w1 ⟨rfl, b1⟩
       have BX1 := box_new ⟨12, a, b, [], [], []⟩ _ _ rfl b1
       have B1 := Lib.hid BX1.1
       have L1 := Lib.hid BX1.2
       obtain ⟨q0, q1, q2, q3, q4, q5, q6⟩ := BX1.1
       clear BX1 b1)
    | (go_at_call 68; (with_reducible refine (HW.out _ _).mono ?_); rintro e w' ⟨rfl, rfl⟩)
    | (go_at_call 50; (with_reducible refine (HJ.out _).mono ?_); rintro e w' ⟨rfl, rfl⟩)
    | (go_at_call 69; (with_reducible refine (HM.out _).mono ?_); rintro e w2 ⟨rfl, b2⟩
       have L2 := Lib.hid (bnext (bnext L1.out (al0 _ _)) b2)
       have C2 := ten_cells _ _ _ _ _ _ _ b2
       have B2 := (B1.out.below (al0 _ _)).below b2
       obtain ⟨q0, q1, q2, q3, q4, q5, q6⟩ := B2
       obtain ⟨r3, r4⟩ := C2
       clear b2))
  all_goals
    go_ret
    refine ⟨ret_i ?_, ?_⟩
    · rw [E.out]
      clear E HN HW HJ HM 
      simp_all [rangeB, targetB, bs_list, ByteArray.toList_eq] <;> (repeat' split) <;> omega
    · first | with_reducible exact L2.out | with_reducible exact bnext L1.out (al0 _ _)
set_option maxHeartbeats 2000000 in
theorem fault_13 (a : Int) (w : World) :
    Calls Tryz.prog 49 #[insV ⟨13, a, 0, [], [], []⟩] w fun e w' => e = .returned (.int .i64 (insF ⟨13, a, 0, [], [], []⟩ : Int)) ∧ Below w.heap.size w w' := by
  have E := Lib.hid (insF_at 13 a 0 [] [] [] true false false false false (by decide) (by decide) (by decide))
  have HN := Lib.hid needs_13
  have HW := Lib.hid (fun a w => word32_any a w)
  have HJ := Lib.hid (show ∀ w, Calls Tryz.prog 50 #[.int .i64 13] w fun e w' => e = .returned (.bool true) ∧ w = w' from fun w => by simpa using jumps_any 13 w)
  have HM := fun w => typeMay_any ⟨13, a, 0, [], [], []⟩ w (by first | exact Nat.zero_le _ | exact ht)
  have z0 : (bs []).toList.isEmpty = true := by rw [ByteArray.toList_eq]; rfl
  unfold insV at *
  generalize typedB ⟨13, a, 0, [], [], []⟩ = tb at *
  replace HM := Lib.hid HM
  go_enter Tryz.func49, Tryz.ntmps49
  go_wp2_with (first
    | (go_at_call 67; (with_reducible refine (HN.out _).mono ?_); rintro e w1 ⟨rfl, b1⟩
       have BX1 := box_new ⟨13, a, 0, [], [], []⟩ _ _ rfl b1
       have B1 := Lib.hid BX1.1
       have L1 := Lib.hid BX1.2
       obtain ⟨q0, q1, q2, q3, q4, q5, q6⟩ := BX1.1
       clear BX1 b1)
    | (go_at_call 68; (with_reducible refine (HW.out _ _).mono ?_); rintro e w' ⟨rfl, rfl⟩)
    | (go_at_call 50; (with_reducible refine (HJ.out _).mono ?_); rintro e w' ⟨rfl, rfl⟩)
    | (go_at_call 69; (with_reducible refine (HM.out _).mono ?_); rintro e w2 ⟨rfl, b2⟩
       have L2 := Lib.hid (bnext (bnext L1.out (al0 _ _)) b2)
       have C2 := ten_cells _ _ _ _ _ _ _ b2
       have B2 := (B1.out.below (al0 _ _)).below b2
       obtain ⟨q0, q1, q2, q3, q4, q5, q6⟩ := B2
       obtain ⟨r3, r4⟩ := C2
       clear b2))
  all_goals
    go_ret
    refine ⟨ret_i ?_, ?_⟩
    · rw [E.out]
      clear E HN HW HJ HM 
      simp_all [rangeB, targetB, bs_list, ByteArray.toList_eq] <;> (repeat' split) <;> omega
    · first | with_reducible exact L2.out | with_reducible exact bnext L1.out (al0 _ _)
set_option maxHeartbeats 2000000 in
theorem fault_14 (a : Int) (w : World) :
    Calls Tryz.prog 49 #[insV ⟨14, a, 0, [], [], []⟩] w fun e w' => e = .returned (.int .i64 (insF ⟨14, a, 0, [], [], []⟩ : Int)) ∧ Below w.heap.size w w' := by
  have E := Lib.hid (insF_at 14 a 0 [] [] [] true false false false false (by decide) (by decide) (by decide))
  have HN := Lib.hid needs_14
  have HW := Lib.hid (fun a w => word32_any a w)
  have HJ := Lib.hid (show ∀ w, Calls Tryz.prog 50 #[.int .i64 14] w fun e w' => e = .returned (.bool true) ∧ w = w' from fun w => by simpa using jumps_any 14 w)
  have HM := fun w => typeMay_any ⟨14, a, 0, [], [], []⟩ w (by first | exact Nat.zero_le _ | exact ht)
  have z0 : (bs []).toList.isEmpty = true := by rw [ByteArray.toList_eq]; rfl
  unfold insV at *
  generalize typedB ⟨14, a, 0, [], [], []⟩ = tb at *
  replace HM := Lib.hid HM
  go_enter Tryz.func49, Tryz.ntmps49
  go_wp2_with (first
    | (go_at_call 67; (with_reducible refine (HN.out _).mono ?_); rintro e w1 ⟨rfl, b1⟩
       have BX1 := box_new ⟨14, a, 0, [], [], []⟩ _ _ rfl b1
       have B1 := Lib.hid BX1.1
       have L1 := Lib.hid BX1.2
       obtain ⟨q0, q1, q2, q3, q4, q5, q6⟩ := BX1.1
       clear BX1 b1)
    | (go_at_call 68; (with_reducible refine (HW.out _ _).mono ?_); rintro e w' ⟨rfl, rfl⟩)
    | (go_at_call 50; (with_reducible refine (HJ.out _).mono ?_); rintro e w' ⟨rfl, rfl⟩)
    | (go_at_call 69; (with_reducible refine (HM.out _).mono ?_); rintro e w2 ⟨rfl, b2⟩
       have L2 := Lib.hid (bnext (bnext L1.out (al0 _ _)) b2)
       have C2 := ten_cells _ _ _ _ _ _ _ b2
       have B2 := (B1.out.below (al0 _ _)).below b2
       obtain ⟨q0, q1, q2, q3, q4, q5, q6⟩ := B2
       obtain ⟨r3, r4⟩ := C2
       clear b2))
  all_goals
    go_ret
    refine ⟨ret_i ?_, ?_⟩
    · rw [E.out]
      clear E HN HW HJ HM 
      simp_all [rangeB, targetB, bs_list, ByteArray.toList_eq] <;> (repeat' split) <;> omega
    · first | with_reducible exact L2.out | with_reducible exact bnext L1.out (al0 _ _)
set_option maxHeartbeats 2000000 in
theorem fault_15 (cl : List UInt8) (w : World) (hc : cl.length ≤ 1048576) :
    Calls Tryz.prog 49 #[insV ⟨15, 0, 0, [], cl, []⟩] w fun e w' => e = .returned (.int .i64 (insF ⟨15, 0, 0, [], cl, []⟩ : Int)) ∧ Below w.heap.size w w' := by
  have E := Lib.hid (insF_at 15 0 0 [] cl [] false false false true false (by decide) (by decide) (by decide))
  have HN := Lib.hid needs_15
  have HW := Lib.hid (fun a w => word32_any a w)
  have HJ := Lib.hid (show ∀ w, Calls Tryz.prog 50 #[.int .i64 15] w fun e w' => e = .returned (.bool false) ∧ w = w' from fun w => by simpa using jumps_any 15 w)
  have HM := fun w => typeMay_any ⟨15, 0, 0, [], cl, []⟩ w (by first | exact Nat.zero_le _ | exact ht)
  have HC := Lib.hid (fun w => isName_any (bs cl) w (by rw [bs_size]; unfold maxLen; omega))
  have z0 : (bs []).toList.isEmpty = true := by rw [ByteArray.toList_eq]; rfl
  unfold insV at *
  generalize typedB ⟨15, 0, 0, [], cl, []⟩ = tb at *
  replace HM := Lib.hid HM
  clear hc
  go_enter Tryz.func49, Tryz.ntmps49
  go_wp2_with (first
    | (go_at_call 67; (with_reducible refine (HN.out _).mono ?_); rintro e w1 ⟨rfl, b1⟩
       have BX1 := box_new ⟨15, 0, 0, [], cl, []⟩ _ _ rfl b1
       have B1 := Lib.hid BX1.1
       have L1 := Lib.hid BX1.2
       obtain ⟨q0, q1, q2, q3, q4, q5, q6⟩ := BX1.1
       clear BX1 b1)
    | (go_at_call 68; (with_reducible refine (HW.out _ _).mono ?_); rintro e w' ⟨rfl, rfl⟩)
    | (go_at_call 50; (with_reducible refine (HJ.out _).mono ?_); rintro e w' ⟨rfl, rfl⟩)
    | (go_at_call 69; (with_reducible refine (HM.out _).mono ?_); rintro e w2 ⟨rfl, b2⟩
       have L2 := Lib.hid (bnext (bnext L1.out (al0 _ _)) b2)
       have C2 := ten_cells _ _ _ _ _ _ _ b2
       have B2 := (B1.out.below (al0 _ _)).below b2
       obtain ⟨q0, q1, q2, q3, q4, q5, q6⟩ := B2
       obtain ⟨r3, r4⟩ := C2
       clear b2)
    | (go_at_call 26; first
       | ((with_reducible refine (HC.out _).mono ?_); rintro e w' ⟨rfl, rfl⟩)))
  all_goals
    go_ret
    refine ⟨ret_i ?_, ?_⟩
    · rw [E.out]
      clear E HN HW HJ HM HC
      simp_all [rangeB, targetB, bs_list, ByteArray.toList_eq] <;> (repeat' split) <;> omega
    · first | with_reducible exact L2.out | with_reducible exact bnext L1.out (al0 _ _)
set_option maxHeartbeats 2000000 in
theorem fault_16 (cl nm : List UInt8) (w : World) (hc : cl.length ≤ 1048576) (hn : nm.length ≤ 1048576) :
    Calls Tryz.prog 49 #[insV ⟨16, 0, 0, [], cl, nm⟩] w fun e w' => e = .returned (.int .i64 (insF ⟨16, 0, 0, [], cl, nm⟩ : Int)) ∧ Below w.heap.size w w' := by
  have E := Lib.hid (insF_at 16 0 0 [] cl nm false false false true true (by decide) (by decide) (by decide))
  have HN := Lib.hid needs_16
  have HW := Lib.hid (fun a w => word32_any a w)
  have HJ := Lib.hid (show ∀ w, Calls Tryz.prog 50 #[.int .i64 16] w fun e w' => e = .returned (.bool false) ∧ w = w' from fun w => by simpa using jumps_any 16 w)
  have HM := fun w => typeMay_any ⟨16, 0, 0, [], cl, nm⟩ w (by first | exact Nat.zero_le _ | exact ht)
  have HC := Lib.hid (fun w => isName_any (bs cl) w (by rw [bs_size]; unfold maxLen; omega))
  have HD := Lib.hid (fun w => isName_any (bs nm) w (by rw [bs_size]; unfold maxLen; omega))
  have z0 : (bs []).toList.isEmpty = true := by rw [ByteArray.toList_eq]; rfl
  unfold insV at *
  generalize typedB ⟨16, 0, 0, [], cl, nm⟩ = tb at *
  replace HM := Lib.hid HM
  clear hc hn
  go_enter Tryz.func49, Tryz.ntmps49
  go_wp2_with (first
    | (go_at_call 67; (with_reducible refine (HN.out _).mono ?_); rintro e w1 ⟨rfl, b1⟩
       have BX1 := box_new ⟨16, 0, 0, [], cl, nm⟩ _ _ rfl b1
       have B1 := Lib.hid BX1.1
       have L1 := Lib.hid BX1.2
       obtain ⟨q0, q1, q2, q3, q4, q5, q6⟩ := BX1.1
       clear BX1 b1)
    | (go_at_call 68; (with_reducible refine (HW.out _ _).mono ?_); rintro e w' ⟨rfl, rfl⟩)
    | (go_at_call 50; (with_reducible refine (HJ.out _).mono ?_); rintro e w' ⟨rfl, rfl⟩)
    | (go_at_call 69; (with_reducible refine (HM.out _).mono ?_); rintro e w2 ⟨rfl, b2⟩
       have L2 := Lib.hid (bnext (bnext L1.out (al0 _ _)) b2)
       have C2 := ten_cells _ _ _ _ _ _ _ b2
       have B2 := (B1.out.below (al0 _ _)).below b2
       obtain ⟨q0, q1, q2, q3, q4, q5, q6⟩ := B2
       obtain ⟨r3, r4⟩ := C2
       clear b2)
    | (go_at_call 26; first
       | ((with_reducible refine (HC.out _).mono ?_); rintro e w' ⟨rfl, rfl⟩)
       | ((with_reducible refine (HD.out _).mono ?_); rintro e w' ⟨rfl, rfl⟩)))
  all_goals
    go_ret
    refine ⟨ret_i ?_, ?_⟩
    · rw [E.out]
      clear E HN HW HJ HM HC HD
      simp_all [rangeB, targetB, bs_list, ByteArray.toList_eq] <;> (repeat' split) <;> omega
    · first | with_reducible exact L2.out | with_reducible exact bnext L1.out (al0 _ _)
set_option maxHeartbeats 2000000 in
theorem fault_17 (cl nm : List UInt8) (w : World) (hc : cl.length ≤ 1048576) (hn : nm.length ≤ 1048576) :
    Calls Tryz.prog 49 #[insV ⟨17, 0, 0, [], cl, nm⟩] w fun e w' => e = .returned (.int .i64 (insF ⟨17, 0, 0, [], cl, nm⟩ : Int)) ∧ Below w.heap.size w w' := by
  have E := Lib.hid (insF_at 17 0 0 [] cl nm false false false true true (by decide) (by decide) (by decide))
  have HN := Lib.hid needs_17
  have HW := Lib.hid (fun a w => word32_any a w)
  have HJ := Lib.hid (show ∀ w, Calls Tryz.prog 50 #[.int .i64 17] w fun e w' => e = .returned (.bool false) ∧ w = w' from fun w => by simpa using jumps_any 17 w)
  have HM := fun w => typeMay_any ⟨17, 0, 0, [], cl, nm⟩ w (by first | exact Nat.zero_le _ | exact ht)
  have HC := Lib.hid (fun w => isName_any (bs cl) w (by rw [bs_size]; unfold maxLen; omega))
  have HD := Lib.hid (fun w => isName_any (bs nm) w (by rw [bs_size]; unfold maxLen; omega))
  have z0 : (bs []).toList.isEmpty = true := by rw [ByteArray.toList_eq]; rfl
  unfold insV at *
  generalize typedB ⟨17, 0, 0, [], cl, nm⟩ = tb at *
  replace HM := Lib.hid HM
  clear hc hn
  go_enter Tryz.func49, Tryz.ntmps49
  go_wp2_with (first
    | (go_at_call 67; (with_reducible refine (HN.out _).mono ?_); rintro e w1 ⟨rfl, b1⟩
       have BX1 := box_new ⟨17, 0, 0, [], cl, nm⟩ _ _ rfl b1
       have B1 := Lib.hid BX1.1
       have L1 := Lib.hid BX1.2
       obtain ⟨q0, q1, q2, q3, q4, q5, q6⟩ := BX1.1
       clear BX1 b1)
    | (go_at_call 68; (with_reducible refine (HW.out _ _).mono ?_); rintro e w' ⟨rfl, rfl⟩)
    | (go_at_call 50; (with_reducible refine (HJ.out _).mono ?_); rintro e w' ⟨rfl, rfl⟩)
    | (go_at_call 69; (with_reducible refine (HM.out _).mono ?_); rintro e w2 ⟨rfl, b2⟩
       have L2 := Lib.hid (bnext (bnext L1.out (al0 _ _)) b2)
       have C2 := ten_cells _ _ _ _ _ _ _ b2
       have B2 := (B1.out.below (al0 _ _)).below b2
       obtain ⟨q0, q1, q2, q3, q4, q5, q6⟩ := B2
       obtain ⟨r3, r4⟩ := C2
       clear b2)
    | (go_at_call 26; first
       | ((with_reducible refine (HC.out _).mono ?_); rintro e w' ⟨rfl, rfl⟩)
       | ((with_reducible refine (HD.out _).mono ?_); rintro e w' ⟨rfl, rfl⟩)))
  all_goals
    go_ret
    refine ⟨ret_i ?_, ?_⟩
    · rw [E.out]
      clear E HN HW HJ HM HC HD
      simp_all [rangeB, targetB, bs_list, ByteArray.toList_eq] <;> (repeat' split) <;> omega
    · first | with_reducible exact L2.out | with_reducible exact bnext L1.out (al0 _ _)
set_option maxHeartbeats 2000000 in
theorem fault_18 (ty : List UInt8) (w : World) (ht : ty.length ≤ 1048576) :
    Calls Tryz.prog 49 #[insV ⟨18, 0, 0, ty, [], []⟩] w fun e w' => e = .returned (.int .i64 (insF ⟨18, 0, 0, ty, [], []⟩ : Int)) ∧ Below w.heap.size w w' := by
  have E := Lib.hid (insF_at 18 0 0 ty [] [] false false true false false (by decide) (by decide) (by decide))
  have HN := Lib.hid needs_18
  have HW := Lib.hid (fun a w => word32_any a w)
  have HJ := Lib.hid (show ∀ w, Calls Tryz.prog 50 #[.int .i64 18] w fun e w' => e = .returned (.bool false) ∧ w = w' from fun w => by simpa using jumps_any 18 w)
  have HM := fun w => typeMay_any ⟨18, 0, 0, ty, [], []⟩ w (by first | exact Nat.zero_le _ | exact ht)
  have z0 : (bs []).toList.isEmpty = true := by rw [ByteArray.toList_eq]; rfl
  unfold insV at *
  generalize typedB ⟨18, 0, 0, ty, [], []⟩ = tb at *
  replace HM := Lib.hid HM
  clear ht
  go_enter Tryz.func49, Tryz.ntmps49
  go_wp2_with (first
    | (go_at_call 67; (with_reducible refine (HN.out _).mono ?_); rintro e w1 ⟨rfl, b1⟩
       have BX1 := box_new ⟨18, 0, 0, ty, [], []⟩ _ _ rfl b1
       have B1 := Lib.hid BX1.1
       have L1 := Lib.hid BX1.2
       obtain ⟨q0, q1, q2, q3, q4, q5, q6⟩ := BX1.1
       clear BX1 b1)
    | (go_at_call 68; (with_reducible refine (HW.out _ _).mono ?_); rintro e w' ⟨rfl, rfl⟩)
    | (go_at_call 50; (with_reducible refine (HJ.out _).mono ?_); rintro e w' ⟨rfl, rfl⟩)
    | (go_at_call 69; (with_reducible refine (HM.out _).mono ?_); rintro e w2 ⟨rfl, b2⟩
       have L2 := Lib.hid (bnext (bnext L1.out (al0 _ _)) b2)
       have C2 := ten_cells _ _ _ _ _ _ _ b2
       have B2 := (B1.out.below (al0 _ _)).below b2
       obtain ⟨q0, q1, q2, q3, q4, q5, q6⟩ := B2
       obtain ⟨r3, r4⟩ := C2
       clear b2))
  all_goals
    go_ret
    refine ⟨ret_i ?_, ?_⟩
    · rw [E.out]
      clear E HN HW HJ HM 
      simp_all [rangeB, targetB, bs_list, ByteArray.toList_eq] <;> (repeat' split) <;> omega
    · first | with_reducible exact L2.out | with_reducible exact bnext L1.out (al0 _ _)
set_option maxHeartbeats 2000000 in
theorem fault_19 (w : World) :
    Calls Tryz.prog 49 #[insV ⟨19, 0, 0, [], [], []⟩] w fun e w' => e = .returned (.int .i64 (insF ⟨19, 0, 0, [], [], []⟩ : Int)) ∧ Below w.heap.size w w' := by
  have E := Lib.hid (insF_at 19 0 0 [] [] [] false false false false false (by decide) (by decide) (by decide))
  have HN := Lib.hid needs_19
  have HW := Lib.hid (fun a w => word32_any a w)
  have HJ := Lib.hid (show ∀ w, Calls Tryz.prog 50 #[.int .i64 19] w fun e w' => e = .returned (.bool false) ∧ w = w' from fun w => by simpa using jumps_any 19 w)
  have HM := fun w => typeMay_any ⟨19, 0, 0, [], [], []⟩ w (by first | exact Nat.zero_le _ | exact ht)
  have z0 : (bs []).toList.isEmpty = true := by rw [ByteArray.toList_eq]; rfl
  unfold insV at *
  generalize typedB ⟨19, 0, 0, [], [], []⟩ = tb at *
  replace HM := Lib.hid HM
  go_enter Tryz.func49, Tryz.ntmps49
  go_wp2_with (first
    | (go_at_call 67; (with_reducible refine (HN.out _).mono ?_); rintro e w1 ⟨rfl, b1⟩
       have BX1 := box_new ⟨19, 0, 0, [], [], []⟩ _ _ rfl b1
       have B1 := Lib.hid BX1.1
       have L1 := Lib.hid BX1.2
       obtain ⟨q0, q1, q2, q3, q4, q5, q6⟩ := BX1.1
       clear BX1 b1)
    | (go_at_call 68; (with_reducible refine (HW.out _ _).mono ?_); rintro e w' ⟨rfl, rfl⟩)
    | (go_at_call 50; (with_reducible refine (HJ.out _).mono ?_); rintro e w' ⟨rfl, rfl⟩)
    | (go_at_call 69; (with_reducible refine (HM.out _).mono ?_); rintro e w2 ⟨rfl, b2⟩
       have L2 := Lib.hid (bnext (bnext L1.out (al0 _ _)) b2)
       have C2 := ten_cells _ _ _ _ _ _ _ b2
       have B2 := (B1.out.below (al0 _ _)).below b2
       obtain ⟨q0, q1, q2, q3, q4, q5, q6⟩ := B2
       obtain ⟨r3, r4⟩ := C2
       clear b2))
  all_goals
    go_ret
    refine ⟨ret_i ?_, ?_⟩
    · rw [E.out]
      clear E HN HW HJ HM 
      simp_all [rangeB, targetB, bs_list, ByteArray.toList_eq] <;> (repeat' split) <;> omega
    · first | with_reducible exact L2.out | with_reducible exact bnext L1.out (al0 _ _)
set_option maxHeartbeats 2000000 in
theorem fault_20 (ty : List UInt8) (w : World) (ht : ty.length ≤ 1048576) :
    Calls Tryz.prog 49 #[insV ⟨20, 0, 0, ty, [], []⟩] w fun e w' => e = .returned (.int .i64 (insF ⟨20, 0, 0, ty, [], []⟩ : Int)) ∧ Below w.heap.size w w' := by
  have E := Lib.hid (insF_at 20 0 0 ty [] [] false false true false false (by decide) (by decide) (by decide))
  have HN := Lib.hid needs_20
  have HW := Lib.hid (fun a w => word32_any a w)
  have HJ := Lib.hid (show ∀ w, Calls Tryz.prog 50 #[.int .i64 20] w fun e w' => e = .returned (.bool false) ∧ w = w' from fun w => by simpa using jumps_any 20 w)
  have HM := fun w => typeMay_any ⟨20, 0, 0, ty, [], []⟩ w (by first | exact Nat.zero_le _ | exact ht)
  have z0 : (bs []).toList.isEmpty = true := by rw [ByteArray.toList_eq]; rfl
  unfold insV at *
  generalize typedB ⟨20, 0, 0, ty, [], []⟩ = tb at *
  replace HM := Lib.hid HM
  clear ht
  go_enter Tryz.func49, Tryz.ntmps49
  go_wp2_with (first
    | (go_at_call 67; (with_reducible refine (HN.out _).mono ?_); rintro e w1 ⟨rfl, b1⟩
       have BX1 := box_new ⟨20, 0, 0, ty, [], []⟩ _ _ rfl b1
       have B1 := Lib.hid BX1.1
       have L1 := Lib.hid BX1.2
       obtain ⟨q0, q1, q2, q3, q4, q5, q6⟩ := BX1.1
       clear BX1 b1)
    | (go_at_call 68; (with_reducible refine (HW.out _ _).mono ?_); rintro e w' ⟨rfl, rfl⟩)
    | (go_at_call 50; (with_reducible refine (HJ.out _).mono ?_); rintro e w' ⟨rfl, rfl⟩)
    | (go_at_call 69; (with_reducible refine (HM.out _).mono ?_); rintro e w2 ⟨rfl, b2⟩
       have L2 := Lib.hid (bnext (bnext L1.out (al0 _ _)) b2)
       have C2 := ten_cells _ _ _ _ _ _ _ b2
       have B2 := (B1.out.below (al0 _ _)).below b2
       obtain ⟨q0, q1, q2, q3, q4, q5, q6⟩ := B2
       obtain ⟨r3, r4⟩ := C2
       clear b2))
  all_goals
    go_ret
    refine ⟨ret_i ?_, ?_⟩
    · rw [E.out]
      clear E HN HW HJ HM 
      simp_all [rangeB, targetB, bs_list, ByteArray.toList_eq] <;> (repeat' split) <;> omega
    · first | with_reducible exact L2.out | with_reducible exact bnext L1.out (al0 _ _)
set_option maxHeartbeats 2000000 in
theorem fault_21 (ty : List UInt8) (w : World) (ht : ty.length ≤ 1048576) :
    Calls Tryz.prog 49 #[insV ⟨21, 0, 0, ty, [], []⟩] w fun e w' => e = .returned (.int .i64 (insF ⟨21, 0, 0, ty, [], []⟩ : Int)) ∧ Below w.heap.size w w' := by
  have E := Lib.hid (insF_at 21 0 0 ty [] [] false false true false false (by decide) (by decide) (by decide))
  have HN := Lib.hid needs_21
  have HW := Lib.hid (fun a w => word32_any a w)
  have HJ := Lib.hid (show ∀ w, Calls Tryz.prog 50 #[.int .i64 21] w fun e w' => e = .returned (.bool false) ∧ w = w' from fun w => by simpa using jumps_any 21 w)
  have HM := fun w => typeMay_any ⟨21, 0, 0, ty, [], []⟩ w (by first | exact Nat.zero_le _ | exact ht)
  have z0 : (bs []).toList.isEmpty = true := by rw [ByteArray.toList_eq]; rfl
  unfold insV at *
  generalize typedB ⟨21, 0, 0, ty, [], []⟩ = tb at *
  replace HM := Lib.hid HM
  clear ht
  go_enter Tryz.func49, Tryz.ntmps49
  go_wp2_with (first
    | (go_at_call 67; (with_reducible refine (HN.out _).mono ?_); rintro e w1 ⟨rfl, b1⟩
       have BX1 := box_new ⟨21, 0, 0, ty, [], []⟩ _ _ rfl b1
       have B1 := Lib.hid BX1.1
       have L1 := Lib.hid BX1.2
       obtain ⟨q0, q1, q2, q3, q4, q5, q6⟩ := BX1.1
       clear BX1 b1)
    | (go_at_call 68; (with_reducible refine (HW.out _ _).mono ?_); rintro e w' ⟨rfl, rfl⟩)
    | (go_at_call 50; (with_reducible refine (HJ.out _).mono ?_); rintro e w' ⟨rfl, rfl⟩)
    | (go_at_call 69; (with_reducible refine (HM.out _).mono ?_); rintro e w2 ⟨rfl, b2⟩
       have L2 := Lib.hid (bnext (bnext L1.out (al0 _ _)) b2)
       have C2 := ten_cells _ _ _ _ _ _ _ b2
       have B2 := (B1.out.below (al0 _ _)).below b2
       obtain ⟨q0, q1, q2, q3, q4, q5, q6⟩ := B2
       obtain ⟨r3, r4⟩ := C2
       clear b2))
  all_goals
    go_ret
    refine ⟨ret_i ?_, ?_⟩
    · rw [E.out]
      clear E HN HW HJ HM 
      simp_all [rangeB, targetB, bs_list, ByteArray.toList_eq] <;> (repeat' split) <;> omega
    · first | with_reducible exact L2.out | with_reducible exact bnext L1.out (al0 _ _)
set_option maxHeartbeats 2000000 in
theorem fault_22 (ty : List UInt8) (w : World) (ht : ty.length ≤ 1048576) :
    Calls Tryz.prog 49 #[insV ⟨22, 0, 0, ty, [], []⟩] w fun e w' => e = .returned (.int .i64 (insF ⟨22, 0, 0, ty, [], []⟩ : Int)) ∧ Below w.heap.size w w' := by
  have E := Lib.hid (insF_at 22 0 0 ty [] [] false false true false false (by decide) (by decide) (by decide))
  have HN := Lib.hid needs_22
  have HW := Lib.hid (fun a w => word32_any a w)
  have HJ := Lib.hid (show ∀ w, Calls Tryz.prog 50 #[.int .i64 22] w fun e w' => e = .returned (.bool false) ∧ w = w' from fun w => by simpa using jumps_any 22 w)
  have HM := fun w => typeMay_any ⟨22, 0, 0, ty, [], []⟩ w (by first | exact Nat.zero_le _ | exact ht)
  have z0 : (bs []).toList.isEmpty = true := by rw [ByteArray.toList_eq]; rfl
  unfold insV at *
  generalize typedB ⟨22, 0, 0, ty, [], []⟩ = tb at *
  replace HM := Lib.hid HM
  clear ht
  go_enter Tryz.func49, Tryz.ntmps49
  go_wp2_with (first
    | (go_at_call 67; (with_reducible refine (HN.out _).mono ?_); rintro e w1 ⟨rfl, b1⟩
       have BX1 := box_new ⟨22, 0, 0, ty, [], []⟩ _ _ rfl b1
       have B1 := Lib.hid BX1.1
       have L1 := Lib.hid BX1.2
       obtain ⟨q0, q1, q2, q3, q4, q5, q6⟩ := BX1.1
       clear BX1 b1)
    | (go_at_call 68; (with_reducible refine (HW.out _ _).mono ?_); rintro e w' ⟨rfl, rfl⟩)
    | (go_at_call 50; (with_reducible refine (HJ.out _).mono ?_); rintro e w' ⟨rfl, rfl⟩)
    | (go_at_call 69; (with_reducible refine (HM.out _).mono ?_); rintro e w2 ⟨rfl, b2⟩
       have L2 := Lib.hid (bnext (bnext L1.out (al0 _ _)) b2)
       have C2 := ten_cells _ _ _ _ _ _ _ b2
       have B2 := (B1.out.below (al0 _ _)).below b2
       obtain ⟨q0, q1, q2, q3, q4, q5, q6⟩ := B2
       obtain ⟨r3, r4⟩ := C2
       clear b2))
  all_goals
    go_ret
    refine ⟨ret_i ?_, ?_⟩
    · rw [E.out]
      clear E HN HW HJ HM 
      simp_all [rangeB, targetB, bs_list, ByteArray.toList_eq] <;> (repeat' split) <;> omega
    · first | with_reducible exact L2.out | with_reducible exact bnext L1.out (al0 _ _)
set_option maxHeartbeats 2000000 in
theorem fault_23 (ty : List UInt8) (w : World) (ht : ty.length ≤ 1048576) :
    Calls Tryz.prog 49 #[insV ⟨23, 0, 0, ty, [], []⟩] w fun e w' => e = .returned (.int .i64 (insF ⟨23, 0, 0, ty, [], []⟩ : Int)) ∧ Below w.heap.size w w' := by
  have E := Lib.hid (insF_at 23 0 0 ty [] [] false false true false false (by decide) (by decide) (by decide))
  have HN := Lib.hid needs_23
  have HW := Lib.hid (fun a w => word32_any a w)
  have HJ := Lib.hid (show ∀ w, Calls Tryz.prog 50 #[.int .i64 23] w fun e w' => e = .returned (.bool false) ∧ w = w' from fun w => by simpa using jumps_any 23 w)
  have HM := fun w => typeMay_any ⟨23, 0, 0, ty, [], []⟩ w (by first | exact Nat.zero_le _ | exact ht)
  have z0 : (bs []).toList.isEmpty = true := by rw [ByteArray.toList_eq]; rfl
  unfold insV at *
  generalize typedB ⟨23, 0, 0, ty, [], []⟩ = tb at *
  replace HM := Lib.hid HM
  clear ht
  go_enter Tryz.func49, Tryz.ntmps49
  go_wp2_with (first
    | (go_at_call 67; (with_reducible refine (HN.out _).mono ?_); rintro e w1 ⟨rfl, b1⟩
       have BX1 := box_new ⟨23, 0, 0, ty, [], []⟩ _ _ rfl b1
       have B1 := Lib.hid BX1.1
       have L1 := Lib.hid BX1.2
       obtain ⟨q0, q1, q2, q3, q4, q5, q6⟩ := BX1.1
       clear BX1 b1)
    | (go_at_call 68; (with_reducible refine (HW.out _ _).mono ?_); rintro e w' ⟨rfl, rfl⟩)
    | (go_at_call 50; (with_reducible refine (HJ.out _).mono ?_); rintro e w' ⟨rfl, rfl⟩)
    | (go_at_call 69; (with_reducible refine (HM.out _).mono ?_); rintro e w2 ⟨rfl, b2⟩
       have L2 := Lib.hid (bnext (bnext L1.out (al0 _ _)) b2)
       have C2 := ten_cells _ _ _ _ _ _ _ b2
       have B2 := (B1.out.below (al0 _ _)).below b2
       obtain ⟨q0, q1, q2, q3, q4, q5, q6⟩ := B2
       obtain ⟨r3, r4⟩ := C2
       clear b2))
  all_goals
    go_ret
    refine ⟨ret_i ?_, ?_⟩
    · rw [E.out]
      clear E HN HW HJ HM 
      simp_all [rangeB, targetB, bs_list, ByteArray.toList_eq] <;> (repeat' split) <;> omega
    · first | with_reducible exact L2.out | with_reducible exact bnext L1.out (al0 _ _)
set_option maxHeartbeats 2000000 in
theorem fault_24 (ty cl nm : List UInt8) (w : World) (ht : ty.length ≤ 1048576) (hc : cl.length ≤ 1048576) (hn : nm.length ≤ 1048576) :
    Calls Tryz.prog 49 #[insV ⟨24, 0, 0, ty, cl, nm⟩] w fun e w' => e = .returned (.int .i64 (insF ⟨24, 0, 0, ty, cl, nm⟩ : Int)) ∧ Below w.heap.size w w' := by
  have E := Lib.hid (insF_at 24 0 0 ty cl nm false false true true true (by decide) (by decide) (by decide))
  have HN := Lib.hid needs_24
  have HW := Lib.hid (fun a w => word32_any a w)
  have HJ := Lib.hid (show ∀ w, Calls Tryz.prog 50 #[.int .i64 24] w fun e w' => e = .returned (.bool false) ∧ w = w' from fun w => by simpa using jumps_any 24 w)
  have HM := fun w => typeMay_any ⟨24, 0, 0, ty, cl, nm⟩ w (by first | exact Nat.zero_le _ | exact ht)
  have HC := Lib.hid (fun w => isName_any (bs cl) w (by rw [bs_size]; unfold maxLen; omega))
  have HD := Lib.hid (fun w => isName_any (bs nm) w (by rw [bs_size]; unfold maxLen; omega))
  unfold insV at *
  generalize typedB ⟨24, 0, 0, ty, cl, nm⟩ = tb at *
  replace HM := Lib.hid HM
  clear ht hc hn
  go_enter Tryz.func49, Tryz.ntmps49
  go_wp2_with (first
    | (go_at_call 67; (with_reducible refine (HN.out _).mono ?_); rintro e w1 ⟨rfl, b1⟩
       have BX1 := box_new ⟨24, 0, 0, ty, cl, nm⟩ _ _ rfl b1
       have B1 := Lib.hid BX1.1
       have L1 := Lib.hid BX1.2
       obtain ⟨q0, q1, q2, q3, q4, q5, q6⟩ := BX1.1
       clear BX1 b1)
    | (go_at_call 68; (with_reducible refine (HW.out _ _).mono ?_); rintro e w' ⟨rfl, rfl⟩)
    | (go_at_call 50; (with_reducible refine (HJ.out _).mono ?_); rintro e w' ⟨rfl, rfl⟩)
    | (go_at_call 69; (with_reducible refine (HM.out _).mono ?_); rintro e w2 ⟨rfl, b2⟩
       have L2 := Lib.hid (bnext (bnext L1.out (al0 _ _)) b2)
       have C2 := ten_cells _ _ _ _ _ _ _ b2
       have B2 := (B1.out.below (al0 _ _)).below b2
       obtain ⟨q0, q1, q2, q3, q4, q5, q6⟩ := B2
       obtain ⟨r3, r4⟩ := C2
       clear b2)
    | (go_at_call 26; first
       | ((with_reducible refine (HC.out _).mono ?_); rintro e w' ⟨rfl, rfl⟩)
       | ((with_reducible refine (HD.out _).mono ?_); rintro e w' ⟨rfl, rfl⟩)))
  all_goals
    go_ret
    refine ⟨ret_i ?_, ?_⟩
    · rw [E.out]
      clear E HN HW HJ HM HC HD
      simp_all [rangeB, targetB, bs_list, ByteArray.toList_eq] <;> (repeat' split) <;> omega
    · first | with_reducible exact L2.out | with_reducible exact bnext L1.out (al0 _ _)
set_option maxHeartbeats 2000000 in
theorem fault_25 (ty cl nm : List UInt8) (w : World) (ht : ty.length ≤ 1048576) (hc : cl.length ≤ 1048576) (hn : nm.length ≤ 1048576) :
    Calls Tryz.prog 49 #[insV ⟨25, 0, 0, ty, cl, nm⟩] w fun e w' => e = .returned (.int .i64 (insF ⟨25, 0, 0, ty, cl, nm⟩ : Int)) ∧ Below w.heap.size w w' := by
  have E := Lib.hid (insF_at 25 0 0 ty cl nm false false true true true (by decide) (by decide) (by decide))
  have HN := Lib.hid needs_25
  have HW := Lib.hid (fun a w => word32_any a w)
  have HJ := Lib.hid (show ∀ w, Calls Tryz.prog 50 #[.int .i64 25] w fun e w' => e = .returned (.bool false) ∧ w = w' from fun w => by simpa using jumps_any 25 w)
  have HM := fun w => typeMay_any ⟨25, 0, 0, ty, cl, nm⟩ w (by first | exact Nat.zero_le _ | exact ht)
  have HC := Lib.hid (fun w => isName_any (bs cl) w (by rw [bs_size]; unfold maxLen; omega))
  have HD := Lib.hid (fun w => isName_any (bs nm) w (by rw [bs_size]; unfold maxLen; omega))
  unfold insV at *
  generalize typedB ⟨25, 0, 0, ty, cl, nm⟩ = tb at *
  replace HM := Lib.hid HM
  clear ht hc hn
  go_enter Tryz.func49, Tryz.ntmps49
  go_wp2_with (first
    | (go_at_call 67; (with_reducible refine (HN.out _).mono ?_); rintro e w1 ⟨rfl, b1⟩
       have BX1 := box_new ⟨25, 0, 0, ty, cl, nm⟩ _ _ rfl b1
       have B1 := Lib.hid BX1.1
       have L1 := Lib.hid BX1.2
       obtain ⟨q0, q1, q2, q3, q4, q5, q6⟩ := BX1.1
       clear BX1 b1)
    | (go_at_call 68; (with_reducible refine (HW.out _ _).mono ?_); rintro e w' ⟨rfl, rfl⟩)
    | (go_at_call 50; (with_reducible refine (HJ.out _).mono ?_); rintro e w' ⟨rfl, rfl⟩)
    | (go_at_call 69; (with_reducible refine (HM.out _).mono ?_); rintro e w2 ⟨rfl, b2⟩
       have L2 := Lib.hid (bnext (bnext L1.out (al0 _ _)) b2)
       have C2 := ten_cells _ _ _ _ _ _ _ b2
       have B2 := (B1.out.below (al0 _ _)).below b2
       obtain ⟨q0, q1, q2, q3, q4, q5, q6⟩ := B2
       obtain ⟨r3, r4⟩ := C2
       clear b2)
    | (go_at_call 26; first
       | ((with_reducible refine (HC.out _).mono ?_); rintro e w' ⟨rfl, rfl⟩)
       | ((with_reducible refine (HD.out _).mono ?_); rintro e w' ⟨rfl, rfl⟩)))
  all_goals
    go_ret
    refine ⟨ret_i ?_, ?_⟩
    · rw [E.out]
      clear E HN HW HJ HM HC HD
      simp_all [rangeB, targetB, bs_list, ByteArray.toList_eq] <;> (repeat' split) <;> omega
    · first | with_reducible exact L2.out | with_reducible exact bnext L1.out (al0 _ _)
set_option maxHeartbeats 2000000 in
theorem fault_26 (w : World) :
    Calls Tryz.prog 49 #[insV ⟨26, 0, 0, [], [], []⟩] w fun e w' => e = .returned (.int .i64 (insF ⟨26, 0, 0, [], [], []⟩ : Int)) ∧ Below w.heap.size w w' := by
  have E := Lib.hid (insF_at 26 0 0 [] [] [] false false false false false (by decide) (by decide) (by decide))
  have HN := Lib.hid needs_26
  have HW := Lib.hid (fun a w => word32_any a w)
  have HJ := Lib.hid (show ∀ w, Calls Tryz.prog 50 #[.int .i64 26] w fun e w' => e = .returned (.bool false) ∧ w = w' from fun w => by simpa using jumps_any 26 w)
  have HM := fun w => typeMay_any ⟨26, 0, 0, [], [], []⟩ w (by first | exact Nat.zero_le _ | exact ht)
  have z0 : (bs []).toList.isEmpty = true := by rw [ByteArray.toList_eq]; rfl
  unfold insV at *
  generalize typedB ⟨26, 0, 0, [], [], []⟩ = tb at *
  replace HM := Lib.hid HM
  go_enter Tryz.func49, Tryz.ntmps49
  go_wp2_with (first
    | (go_at_call 67; (with_reducible refine (HN.out _).mono ?_); rintro e w1 ⟨rfl, b1⟩
       have BX1 := box_new ⟨26, 0, 0, [], [], []⟩ _ _ rfl b1
       have B1 := Lib.hid BX1.1
       have L1 := Lib.hid BX1.2
       obtain ⟨q0, q1, q2, q3, q4, q5, q6⟩ := BX1.1
       clear BX1 b1)
    | (go_at_call 68; (with_reducible refine (HW.out _ _).mono ?_); rintro e w' ⟨rfl, rfl⟩)
    | (go_at_call 50; (with_reducible refine (HJ.out _).mono ?_); rintro e w' ⟨rfl, rfl⟩)
    | (go_at_call 69; (with_reducible refine (HM.out _).mono ?_); rintro e w2 ⟨rfl, b2⟩
       have L2 := Lib.hid (bnext (bnext L1.out (al0 _ _)) b2)
       have C2 := ten_cells _ _ _ _ _ _ _ b2
       have B2 := (B1.out.below (al0 _ _)).below b2
       obtain ⟨q0, q1, q2, q3, q4, q5, q6⟩ := B2
       obtain ⟨r3, r4⟩ := C2
       clear b2))
  all_goals
    go_ret
    refine ⟨ret_i ?_, ?_⟩
    · rw [E.out]
      clear E HN HW HJ HM 
      simp_all [rangeB, targetB, bs_list, ByteArray.toList_eq] <;> (repeat' split) <;> omega
    · first | with_reducible exact L2.out | with_reducible exact bnext L1.out (al0 _ _)
set_option maxHeartbeats 2000000 in
theorem fault_27 (w : World) :
    Calls Tryz.prog 49 #[insV ⟨27, 0, 0, [], [], []⟩] w fun e w' => e = .returned (.int .i64 (insF ⟨27, 0, 0, [], [], []⟩ : Int)) ∧ Below w.heap.size w w' := by
  have E := Lib.hid (insF_at 27 0 0 [] [] [] false false false false false (by decide) (by decide) (by decide))
  have HN := Lib.hid needs_27
  have HW := Lib.hid (fun a w => word32_any a w)
  have HJ := Lib.hid (show ∀ w, Calls Tryz.prog 50 #[.int .i64 27] w fun e w' => e = .returned (.bool false) ∧ w = w' from fun w => by simpa using jumps_any 27 w)
  have HM := fun w => typeMay_any ⟨27, 0, 0, [], [], []⟩ w (by first | exact Nat.zero_le _ | exact ht)
  have z0 : (bs []).toList.isEmpty = true := by rw [ByteArray.toList_eq]; rfl
  unfold insV at *
  generalize typedB ⟨27, 0, 0, [], [], []⟩ = tb at *
  replace HM := Lib.hid HM
  go_enter Tryz.func49, Tryz.ntmps49
  go_wp2_with (first
    | (go_at_call 67; (with_reducible refine (HN.out _).mono ?_); rintro e w1 ⟨rfl, b1⟩
       have BX1 := box_new ⟨27, 0, 0, [], [], []⟩ _ _ rfl b1
       have B1 := Lib.hid BX1.1
       have L1 := Lib.hid BX1.2
       obtain ⟨q0, q1, q2, q3, q4, q5, q6⟩ := BX1.1
       clear BX1 b1)
    | (go_at_call 68; (with_reducible refine (HW.out _ _).mono ?_); rintro e w' ⟨rfl, rfl⟩)
    | (go_at_call 50; (with_reducible refine (HJ.out _).mono ?_); rintro e w' ⟨rfl, rfl⟩)
    | (go_at_call 69; (with_reducible refine (HM.out _).mono ?_); rintro e w2 ⟨rfl, b2⟩
       have L2 := Lib.hid (bnext (bnext L1.out (al0 _ _)) b2)
       have C2 := ten_cells _ _ _ _ _ _ _ b2
       have B2 := (B1.out.below (al0 _ _)).below b2
       obtain ⟨q0, q1, q2, q3, q4, q5, q6⟩ := B2
       obtain ⟨r3, r4⟩ := C2
       clear b2))
  all_goals
    go_ret
    refine ⟨ret_i ?_, ?_⟩
    · rw [E.out]
      clear E HN HW HJ HM 
      simp_all [rangeB, targetB, bs_list, ByteArray.toList_eq] <;> (repeat' split) <;> omega
    · first | with_reducible exact L2.out | with_reducible exact bnext L1.out (al0 _ _)
set_option maxHeartbeats 2000000 in
theorem fault_28 (w : World) :
    Calls Tryz.prog 49 #[insV ⟨28, 0, 0, [], [], []⟩] w fun e w' => e = .returned (.int .i64 (insF ⟨28, 0, 0, [], [], []⟩ : Int)) ∧ Below w.heap.size w w' := by
  have E := Lib.hid (insF_at 28 0 0 [] [] [] false false false false false (by decide) (by decide) (by decide))
  have HN := Lib.hid needs_28
  have HW := Lib.hid (fun a w => word32_any a w)
  have HJ := Lib.hid (show ∀ w, Calls Tryz.prog 50 #[.int .i64 28] w fun e w' => e = .returned (.bool false) ∧ w = w' from fun w => by simpa using jumps_any 28 w)
  have HM := fun w => typeMay_any ⟨28, 0, 0, [], [], []⟩ w (by first | exact Nat.zero_le _ | exact ht)
  have z0 : (bs []).toList.isEmpty = true := by rw [ByteArray.toList_eq]; rfl
  unfold insV at *
  generalize typedB ⟨28, 0, 0, [], [], []⟩ = tb at *
  replace HM := Lib.hid HM
  go_enter Tryz.func49, Tryz.ntmps49
  go_wp2_with (first
    | (go_at_call 67; (with_reducible refine (HN.out _).mono ?_); rintro e w1 ⟨rfl, b1⟩
       have BX1 := box_new ⟨28, 0, 0, [], [], []⟩ _ _ rfl b1
       have B1 := Lib.hid BX1.1
       have L1 := Lib.hid BX1.2
       obtain ⟨q0, q1, q2, q3, q4, q5, q6⟩ := BX1.1
       clear BX1 b1)
    | (go_at_call 68; (with_reducible refine (HW.out _ _).mono ?_); rintro e w' ⟨rfl, rfl⟩)
    | (go_at_call 50; (with_reducible refine (HJ.out _).mono ?_); rintro e w' ⟨rfl, rfl⟩)
    | (go_at_call 69; (with_reducible refine (HM.out _).mono ?_); rintro e w2 ⟨rfl, b2⟩
       have L2 := Lib.hid (bnext (bnext L1.out (al0 _ _)) b2)
       have C2 := ten_cells _ _ _ _ _ _ _ b2
       have B2 := (B1.out.below (al0 _ _)).below b2
       obtain ⟨q0, q1, q2, q3, q4, q5, q6⟩ := B2
       obtain ⟨r3, r4⟩ := C2
       clear b2))
  all_goals
    go_ret
    refine ⟨ret_i ?_, ?_⟩
    · rw [E.out]
      clear E HN HW HJ HM 
      simp_all [rangeB, targetB, bs_list, ByteArray.toList_eq] <;> (repeat' split) <;> omega
    · first | with_reducible exact L2.out | with_reducible exact bnext L1.out (al0 _ _)
theorem fault_low (k : Int) (h : k ≤ 0 ∨ 28 < k) (a b : Int) (ty cl nm : List UInt8) : insF ⟨k, a, b, ty, cl, nm⟩ = 1 := by
  unfold insF
  rw [if_pos (by simp only; omega)]
end Go.Proofs.YthcjdkjjjlpjaaaGreatDoor
