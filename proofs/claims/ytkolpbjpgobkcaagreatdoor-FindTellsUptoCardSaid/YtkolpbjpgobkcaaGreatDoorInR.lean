/- The reference's small functions on instructions: Word32, Jumps, Deep, IsRef, typeMay, Needs. -/
import Derived.Test.YtkolpbjpgobkcaaGreatDoorIn1
import Derived.Test.YtkolpbjpgobkcaaGreatDoorGB
namespace Go.Proofs.YtkolpbjpgobkcaaGreatDoor
open Go.ChangeShapes Go.WideShapes Go.ChangeAt Go.RowKit
set_option linter.unusedVariables false
attribute [local go_sem] eqGuard_errV_nil eqGuard_errV_iface eql_errV_nil neq_errV_nil eql_errV_form

theorem word32_any (n : Int) (w : World) : Calls Tryz.prog 68 #[.int .i64 n] w fun e w' => e = .returned (.bool (decide (-2147483648 ≤ n ∧ n ≤ 2147483647))) ∧ w = w' := by
  go_enter Tryz.func68, Tryz.ntmps68
  go_wp2
  all_goals
    go_ret
    exact ⟨ret_bool (by simp; try omega), rfl⟩
theorem jumps_any (n : Int) (w : World) : Calls Tryz.prog 60 #[.int .i64 n] w fun e w' => e = .returned (.bool (decide (n = 12 ∨ n = 13 ∨ n = 14))) ∧ w = w' := by
  go_enter Tryz.func60, Tryz.ntmps60
  go_wp2
  all_goals
    go_ret
    exact ⟨ret_bool (by simp_all <;> (rw [Bool.eq_iff_iff]; simp)), rfl⟩
theorem deep_any (s : ByteArray) (w : World) (hs : s.size ≤ maxLen) : Calls Tryz.prog 86 #[.string s] w fun e w' => e = .returned (.int .i64 (brk s.data.toList : Int)) ∧ w = w' := by
  unfold maxLen at hs
  have hb : brk s.data.toList ≤ s.size := by simpa using brk_le s.data.toList
  have HL := Lib.hid (fun k h => brk_lt s (k := k) h)
  have HA := Lib.hid (brk_at s)
  generalize hB : brk s.data.toList = b at hb HL HA
  clear hB
  go_enter Tryz.func86, Tryz.ntmps86
  go_wp2
  go_loop [3] (fun i => ∃ k : Nat, k ≤ b ∧ i = .int .i64 k) (fun i => b - (intOf i).toNat)
  case atStart => exact ⟨0, Nat.zero_le _, rfl⟩
  case round =>
    obtain ⟨k, hk, rfl⟩ := hrel
    by_cases hlt : k < b
    · obtain ⟨h1, h2⟩ := HL.out k hlt
      go_wp2
      go_round
      case rel => exact ⟨k + 1, by omega, by go_num⟩
      case measure => first | (simp [intOf]; omega) | simp [intOf]
    · obtain rfl : k = b := by omega
      by_cases hz : k < s.size
      · have h2 := HA.out hz
        go_wp2
        go_ret
        exact ⟨rfl, rfl⟩
      · obtain rfl : k = s.size := by omega
        go_wp2
        go_ret
        exact ⟨rfl, rfl⟩
theorem isRef_any (s : ByteArray) (w : World) (hs : s.size ≤ maxLen) : Calls Tryz.prog 87 #[.string s] w fun e w' => e = .returned (.bool (isTypeB s.data.toList && !refWordB s.data.toList)) ∧ w = w' := by
  have HT := Lib.hid (fun w => isType_any s w hs)
  have HW := Lib.hid (fun w => refIsWord_any s w)
  clear hs
  go_enter Tryz.func87, Tryz.ntmps87
  go_wp2_with (first
    | (go_at_call 39; (with_reducible refine (HT.out _).mono ?_); rintro e w1 ⟨rfl, rfl⟩)
    | (go_at_call 85; (with_reducible refine (HW.out _).mono ?_); rintro e w1 ⟨rfl, rfl⟩))
  all_goals
    go_ret
    exact ⟨ret_bool (by simp_all), rfl⟩
/-- The reference's reading of a method type, its truth alone. -/
theorem refMeth_any (s : ByteArray) (w : World) (hs : s.size ≤ 1048576) : Calls Tryz.prog 50 #[.string s] w fun e w' => Below w.heap.size w w' ∧ ∃ v t, e = .returned (.tuple #[v, .string t, .bool (methS s.data.toList)]) :=
  (methodOf_any s w hs).mono fun _ _ ⟨hb, v, he, _⟩ => ⟨hb, v, _, he⟩
set_option maxHeartbeats 2000000 in
theorem typeMay_any (x : InsD) (w : World) (hs : x.ty.length ≤ 1048576) : Calls Tryz.prog 69 #[insV x] w fun e w' => e = .returned (.bool (typedB x)) ∧ Below w.heap.size w w' := by
  obtain ⟨op, a, b, ty, cl, nm⟩ := x
  have hs' : ty.length ≤ 1048576 := hs
  have hm : (bs ty).size ≤ maxLen := by rw [bs_size]; unfold maxLen; omega
  have HW := Lib.hid (fun w => refIsWord_any (bs ty) w)
  have HT := Lib.hid (fun w => isType_any (bs ty) w hm)
  have HD := Lib.hid (fun w => deep_any (bs ty) w hm)
  have HR := Lib.hid (fun w => isRef_any (bs ty) w hm)
  have HM := Lib.hid (fun w => refMeth_any (bs ty) w (by rw [bs_size]; omega))
  have HA := Lib.hid (isTypeB_array ty)
  clear hs hs' hm
  unfold insV
  go_enter Tryz.func69, Tryz.ntmps69
  go_wp2_with (first
    | (go_at_call 85; with_reducible refine (HW.out _).mono ?_; rintro e w' ⟨rfl, rfl⟩)
    | (go_at_call 39; with_reducible refine (HT.out _).mono ?_; rintro e w' ⟨rfl, rfl⟩)
    | (go_at_call 86; with_reducible refine (HD.out _).mono ?_; rintro e w' ⟨rfl, rfl⟩)
    | (go_at_call 87; with_reducible refine (HR.out _).mono ?_; rintro e w' ⟨rfl, rfl⟩)
    | (go_at_call 50; with_reducible refine (HM.out _).mono ?_; rintro e w' ⟨hb, v, t, rfl⟩))
  all_goals
    go_ret
    refine ⟨ret_bool ?_, ?_⟩
    · replace HA := HA.out
      clear HW HT HD HR HM
      simp_all [typedB, bs_list, methS] <;> exact decide_eq_decide.2 (by omega)
    · first
      | exact (Below.refl _ _).alloc (Nat.le_refl _) _
      | exact ((Below.refl _ _).alloc (Nat.le_refl _) _).trans (hb.mono (by simp))
theorem al0 (w : World) (o : Obj) : Below w.heap.size w (w.alloc o) := (Below.refl _ _).alloc (Nat.le_refl _) _
theorem bset0 {B b j : Nat} {a w : World} {v : Value} (h : Below B a w) (hb : B ≤ b) : Below B a (w.setCell ⟨b, j, none⟩ v) := h.setCell (p := ⟨b, j, none⟩) hb v
theorem needs_cases {k : Nat} {C : Nat → Prop} (h0 : 0 < k) (hk : k < 29) (c1 : C 1) (c2 : C 2) (c3 : C 3) (c4 : C 4) (c5 : C 5) (c6 : C 6) (c7 : C 7) (c8 : C 8) (c9 : C 9) (c10 : C 10) (c11 : C 11) (c12 : C 12) (c13 : C 13) (c14 : C 14) (c15 : C 15) (c16 : C 16) (c17 : C 17) (c18 : C 18) (c19 : C 19) (c20 : C 20) (c21 : C 21) (c22 : C 22) (c23 : C 23) (c24 : C 24) (c25 : C 25) (c26 : C 26) (c27 : C 27) (c28 : C 28) : C k := by
  have : k = 1 ∨ k = 2 ∨ k = 3 ∨ k = 4 ∨ k = 5 ∨ k = 6 ∨ k = 7 ∨ k = 8 ∨ k = 9 ∨ k = 10 ∨ k = 11 ∨ k = 12 ∨ k = 13 ∨ k = 14 ∨ k = 15 ∨ k = 16 ∨ k = 17 ∨ k = 18 ∨ k = 19 ∨ k = 20 ∨ k = 21 ∨ k = 22 ∨ k = 23 ∨ k = 24 ∨ k = 25 ∨ k = 26 ∨ k = 27 ∨ k = 28 := by omega
  rcases this with rfl | rfl | rfl | rfl | rfl | rfl | rfl | rfl | rfl | rfl | rfl | rfl | rfl | rfl | rfl | rfl | rfl | rfl | rfl | rfl | rfl | rfl | rfl | rfl | rfl | rfl | rfl | rfl
  all_goals assumption
theorem needs_1 (w : World) : Calls Tryz.prog 67 #[.int .i64 1] w fun e w' => e = .returned (.agg #[.bool false, .bool false, .bool false, .bool false, .bool false]) ∧ Below w.heap.size w w' := by
  have HJ := Lib.hid (fun w => jumps_any 1 w)
  go_enter Tryz.func67, Tryz.ntmps67
  go_wp2_with (first
    | (go_at_call 60; with_reducible refine (HJ.out _).mono ?_; rintro e w' ⟨rfl, rfl⟩))
  refine bodyPost_ret (v := .agg #[.bool false, .bool false, .bool false, .bool false, .bool false]) (by simp [results, Tryz.results67, go_sem]) rfl ⟨rfl, ?_⟩
  clear HJ
  repeat (first | with_reducible exact al0 _ _ | with_reducible refine bset0 ?_ (Nat.le_refl _))
theorem needs_2 (w : World) : Calls Tryz.prog 67 #[.int .i64 2] w fun e w' => e = .returned (.agg #[.bool true, .bool false, .bool true, .bool false, .bool false]) ∧ Below w.heap.size w w' := by
  have HJ := Lib.hid (fun w => jumps_any 2 w)
  go_enter Tryz.func67, Tryz.ntmps67
  go_wp2_with (first
    | (go_at_call 60; with_reducible refine (HJ.out _).mono ?_; rintro e w' ⟨rfl, rfl⟩))
  refine bodyPost_ret (v := .agg #[.bool true, .bool false, .bool true, .bool false, .bool false]) (by simp [results, Tryz.results67, go_sem]) rfl ⟨rfl, ?_⟩
  clear HJ
  repeat (first | with_reducible exact al0 _ _ | with_reducible refine bset0 ?_ (Nat.le_refl _))
theorem needs_3 (w : World) : Calls Tryz.prog 67 #[.int .i64 3] w fun e w' => e = .returned (.agg #[.bool false, .bool false, .bool false, .bool false, .bool false]) ∧ Below w.heap.size w w' := by
  have HJ := Lib.hid (fun w => jumps_any 3 w)
  go_enter Tryz.func67, Tryz.ntmps67
  go_wp2_with (first
    | (go_at_call 60; with_reducible refine (HJ.out _).mono ?_; rintro e w' ⟨rfl, rfl⟩))
  refine bodyPost_ret (v := .agg #[.bool false, .bool false, .bool false, .bool false, .bool false]) (by simp [results, Tryz.results67, go_sem]) rfl ⟨rfl, ?_⟩
  clear HJ
  repeat (first | with_reducible exact al0 _ _ | with_reducible refine bset0 ?_ (Nat.le_refl _))
theorem needs_4 (w : World) : Calls Tryz.prog 67 #[.int .i64 4] w fun e w' => e = .returned (.agg #[.bool true, .bool false, .bool false, .bool false, .bool false]) ∧ Below w.heap.size w w' := by
  have HJ := Lib.hid (fun w => jumps_any 4 w)
  go_enter Tryz.func67, Tryz.ntmps67
  go_wp2_with (first
    | (go_at_call 60; with_reducible refine (HJ.out _).mono ?_; rintro e w' ⟨rfl, rfl⟩))
  refine bodyPost_ret (v := .agg #[.bool true, .bool false, .bool false, .bool false, .bool false]) (by simp [results, Tryz.results67, go_sem]) rfl ⟨rfl, ?_⟩
  clear HJ
  repeat (first | with_reducible exact al0 _ _ | with_reducible refine bset0 ?_ (Nat.le_refl _))
theorem needs_5 (w : World) : Calls Tryz.prog 67 #[.int .i64 5] w fun e w' => e = .returned (.agg #[.bool true, .bool false, .bool false, .bool false, .bool false]) ∧ Below w.heap.size w w' := by
  have HJ := Lib.hid (fun w => jumps_any 5 w)
  go_enter Tryz.func67, Tryz.ntmps67
  go_wp2_with (first
    | (go_at_call 60; with_reducible refine (HJ.out _).mono ?_; rintro e w' ⟨rfl, rfl⟩))
  refine bodyPost_ret (v := .agg #[.bool true, .bool false, .bool false, .bool false, .bool false]) (by simp [results, Tryz.results67, go_sem]) rfl ⟨rfl, ?_⟩
  clear HJ
  repeat (first | with_reducible exact al0 _ _ | with_reducible refine bset0 ?_ (Nat.le_refl _))
theorem needs_6 (w : World) : Calls Tryz.prog 67 #[.int .i64 6] w fun e w' => e = .returned (.agg #[.bool false, .bool false, .bool false, .bool false, .bool false]) ∧ Below w.heap.size w w' := by
  have HJ := Lib.hid (fun w => jumps_any 6 w)
  go_enter Tryz.func67, Tryz.ntmps67
  go_wp2_with (first
    | (go_at_call 60; with_reducible refine (HJ.out _).mono ?_; rintro e w' ⟨rfl, rfl⟩))
  refine bodyPost_ret (v := .agg #[.bool false, .bool false, .bool false, .bool false, .bool false]) (by simp [results, Tryz.results67, go_sem]) rfl ⟨rfl, ?_⟩
  clear HJ
  repeat (first | with_reducible exact al0 _ _ | with_reducible refine bset0 ?_ (Nat.le_refl _))
theorem needs_7 (w : World) : Calls Tryz.prog 67 #[.int .i64 7] w fun e w' => e = .returned (.agg #[.bool false, .bool false, .bool false, .bool false, .bool false]) ∧ Below w.heap.size w w' := by
  have HJ := Lib.hid (fun w => jumps_any 7 w)
  go_enter Tryz.func67, Tryz.ntmps67
  go_wp2_with (first
    | (go_at_call 60; with_reducible refine (HJ.out _).mono ?_; rintro e w' ⟨rfl, rfl⟩))
  refine bodyPost_ret (v := .agg #[.bool false, .bool false, .bool false, .bool false, .bool false]) (by simp [results, Tryz.results67, go_sem]) rfl ⟨rfl, ?_⟩
  clear HJ
  repeat (first | with_reducible exact al0 _ _ | with_reducible refine bset0 ?_ (Nat.le_refl _))
theorem needs_8 (w : World) : Calls Tryz.prog 67 #[.int .i64 8] w fun e w' => e = .returned (.agg #[.bool false, .bool false, .bool false, .bool false, .bool false]) ∧ Below w.heap.size w w' := by
  have HJ := Lib.hid (fun w => jumps_any 8 w)
  go_enter Tryz.func67, Tryz.ntmps67
  go_wp2_with (first
    | (go_at_call 60; with_reducible refine (HJ.out _).mono ?_; rintro e w' ⟨rfl, rfl⟩))
  refine bodyPost_ret (v := .agg #[.bool false, .bool false, .bool false, .bool false, .bool false]) (by simp [results, Tryz.results67, go_sem]) rfl ⟨rfl, ?_⟩
  clear HJ
  repeat (first | with_reducible exact al0 _ _ | with_reducible refine bset0 ?_ (Nat.le_refl _))
theorem needs_9 (w : World) : Calls Tryz.prog 67 #[.int .i64 9] w fun e w' => e = .returned (.agg #[.bool true, .bool false, .bool true, .bool false, .bool false]) ∧ Below w.heap.size w w' := by
  have HJ := Lib.hid (fun w => jumps_any 9 w)
  go_enter Tryz.func67, Tryz.ntmps67
  go_wp2_with (first
    | (go_at_call 60; with_reducible refine (HJ.out _).mono ?_; rintro e w' ⟨rfl, rfl⟩))
  refine bodyPost_ret (v := .agg #[.bool true, .bool false, .bool true, .bool false, .bool false]) (by simp [results, Tryz.results67, go_sem]) rfl ⟨rfl, ?_⟩
  clear HJ
  repeat (first | with_reducible exact al0 _ _ | with_reducible refine bset0 ?_ (Nat.le_refl _))
theorem needs_10 (w : World) : Calls Tryz.prog 67 #[.int .i64 10] w fun e w' => e = .returned (.agg #[.bool false, .bool false, .bool true, .bool false, .bool false]) ∧ Below w.heap.size w w' := by
  have HJ := Lib.hid (fun w => jumps_any 10 w)
  go_enter Tryz.func67, Tryz.ntmps67
  go_wp2_with (first
    | (go_at_call 60; with_reducible refine (HJ.out _).mono ?_; rintro e w' ⟨rfl, rfl⟩))
  refine bodyPost_ret (v := .agg #[.bool false, .bool false, .bool true, .bool false, .bool false]) (by simp [results, Tryz.results67, go_sem]) rfl ⟨rfl, ?_⟩
  clear HJ
  repeat (first | with_reducible exact al0 _ _ | with_reducible refine bset0 ?_ (Nat.le_refl _))
theorem needs_11 (w : World) : Calls Tryz.prog 67 #[.int .i64 11] w fun e w' => e = .returned (.agg #[.bool false, .bool false, .bool false, .bool false, .bool false]) ∧ Below w.heap.size w w' := by
  have HJ := Lib.hid (fun w => jumps_any 11 w)
  go_enter Tryz.func67, Tryz.ntmps67
  go_wp2_with (first
    | (go_at_call 60; with_reducible refine (HJ.out _).mono ?_; rintro e w' ⟨rfl, rfl⟩))
  refine bodyPost_ret (v := .agg #[.bool false, .bool false, .bool false, .bool false, .bool false]) (by simp [results, Tryz.results67, go_sem]) rfl ⟨rfl, ?_⟩
  clear HJ
  repeat (first | with_reducible exact al0 _ _ | with_reducible refine bset0 ?_ (Nat.le_refl _))
theorem needs_12 (w : World) : Calls Tryz.prog 67 #[.int .i64 12] w fun e w' => e = .returned (.agg #[.bool true, .bool true, .bool false, .bool false, .bool false]) ∧ Below w.heap.size w w' := by
  have HJ := Lib.hid (fun w => jumps_any 12 w)
  go_enter Tryz.func67, Tryz.ntmps67
  go_wp2_with (first
    | (go_at_call 60; with_reducible refine (HJ.out _).mono ?_; rintro e w' ⟨rfl, rfl⟩))
  refine bodyPost_ret (v := .agg #[.bool true, .bool true, .bool false, .bool false, .bool false]) (by simp [results, Tryz.results67, go_sem]) rfl ⟨rfl, ?_⟩
  clear HJ
  repeat (first | with_reducible exact al0 _ _ | with_reducible refine bset0 ?_ (Nat.le_refl _))
theorem needs_13 (w : World) : Calls Tryz.prog 67 #[.int .i64 13] w fun e w' => e = .returned (.agg #[.bool true, .bool false, .bool false, .bool false, .bool false]) ∧ Below w.heap.size w w' := by
  have HJ := Lib.hid (fun w => jumps_any 13 w)
  go_enter Tryz.func67, Tryz.ntmps67
  go_wp2_with (first
    | (go_at_call 60; with_reducible refine (HJ.out _).mono ?_; rintro e w' ⟨rfl, rfl⟩))
  refine bodyPost_ret (v := .agg #[.bool true, .bool false, .bool false, .bool false, .bool false]) (by simp [results, Tryz.results67, go_sem]) rfl ⟨rfl, ?_⟩
  clear HJ
  repeat (first | with_reducible exact al0 _ _ | with_reducible refine bset0 ?_ (Nat.le_refl _))
theorem needs_14 (w : World) : Calls Tryz.prog 67 #[.int .i64 14] w fun e w' => e = .returned (.agg #[.bool true, .bool false, .bool false, .bool false, .bool false]) ∧ Below w.heap.size w w' := by
  have HJ := Lib.hid (fun w => jumps_any 14 w)
  go_enter Tryz.func67, Tryz.ntmps67
  go_wp2_with (first
    | (go_at_call 60; with_reducible refine (HJ.out _).mono ?_; rintro e w' ⟨rfl, rfl⟩))
  refine bodyPost_ret (v := .agg #[.bool true, .bool false, .bool false, .bool false, .bool false]) (by simp [results, Tryz.results67, go_sem]) rfl ⟨rfl, ?_⟩
  clear HJ
  repeat (first | with_reducible exact al0 _ _ | with_reducible refine bset0 ?_ (Nat.le_refl _))
theorem needs_15 (w : World) : Calls Tryz.prog 67 #[.int .i64 15] w fun e w' => e = .returned (.agg #[.bool false, .bool false, .bool false, .bool true, .bool false]) ∧ Below w.heap.size w w' := by
  have HJ := Lib.hid (fun w => jumps_any 15 w)
  go_enter Tryz.func67, Tryz.ntmps67
  go_wp2_with (first
    | (go_at_call 60; with_reducible refine (HJ.out _).mono ?_; rintro e w' ⟨rfl, rfl⟩))
  refine bodyPost_ret (v := .agg #[.bool false, .bool false, .bool false, .bool true, .bool false]) (by simp [results, Tryz.results67, go_sem]) rfl ⟨rfl, ?_⟩
  clear HJ
  repeat (first | with_reducible exact al0 _ _ | with_reducible refine bset0 ?_ (Nat.le_refl _))
theorem needs_16 (w : World) : Calls Tryz.prog 67 #[.int .i64 16] w fun e w' => e = .returned (.agg #[.bool false, .bool false, .bool false, .bool true, .bool true]) ∧ Below w.heap.size w w' := by
  have HJ := Lib.hid (fun w => jumps_any 16 w)
  go_enter Tryz.func67, Tryz.ntmps67
  go_wp2_with (first
    | (go_at_call 60; with_reducible refine (HJ.out _).mono ?_; rintro e w' ⟨rfl, rfl⟩))
  refine bodyPost_ret (v := .agg #[.bool false, .bool false, .bool false, .bool true, .bool true]) (by simp [results, Tryz.results67, go_sem]) rfl ⟨rfl, ?_⟩
  clear HJ
  repeat (first | with_reducible exact al0 _ _ | with_reducible refine bset0 ?_ (Nat.le_refl _))
theorem needs_17 (w : World) : Calls Tryz.prog 67 #[.int .i64 17] w fun e w' => e = .returned (.agg #[.bool false, .bool false, .bool false, .bool true, .bool true]) ∧ Below w.heap.size w w' := by
  have HJ := Lib.hid (fun w => jumps_any 17 w)
  go_enter Tryz.func67, Tryz.ntmps67
  go_wp2_with (first
    | (go_at_call 60; with_reducible refine (HJ.out _).mono ?_; rintro e w' ⟨rfl, rfl⟩))
  refine bodyPost_ret (v := .agg #[.bool false, .bool false, .bool false, .bool true, .bool true]) (by simp [results, Tryz.results67, go_sem]) rfl ⟨rfl, ?_⟩
  clear HJ
  repeat (first | with_reducible exact al0 _ _ | with_reducible refine bset0 ?_ (Nat.le_refl _))
theorem needs_18 (w : World) : Calls Tryz.prog 67 #[.int .i64 18] w fun e w' => e = .returned (.agg #[.bool false, .bool false, .bool true, .bool false, .bool false]) ∧ Below w.heap.size w w' := by
  have HJ := Lib.hid (fun w => jumps_any 18 w)
  go_enter Tryz.func67, Tryz.ntmps67
  go_wp2_with (first
    | (go_at_call 60; with_reducible refine (HJ.out _).mono ?_; rintro e w' ⟨rfl, rfl⟩))
  refine bodyPost_ret (v := .agg #[.bool false, .bool false, .bool true, .bool false, .bool false]) (by simp [results, Tryz.results67, go_sem]) rfl ⟨rfl, ?_⟩
  clear HJ
  repeat (first | with_reducible exact al0 _ _ | with_reducible refine bset0 ?_ (Nat.le_refl _))
theorem needs_19 (w : World) : Calls Tryz.prog 67 #[.int .i64 19] w fun e w' => e = .returned (.agg #[.bool false, .bool false, .bool false, .bool false, .bool false]) ∧ Below w.heap.size w w' := by
  have HJ := Lib.hid (fun w => jumps_any 19 w)
  go_enter Tryz.func67, Tryz.ntmps67
  go_wp2_with (first
    | (go_at_call 60; with_reducible refine (HJ.out _).mono ?_; rintro e w' ⟨rfl, rfl⟩))
  refine bodyPost_ret (v := .agg #[.bool false, .bool false, .bool false, .bool false, .bool false]) (by simp [results, Tryz.results67, go_sem]) rfl ⟨rfl, ?_⟩
  clear HJ
  repeat (first | with_reducible exact al0 _ _ | with_reducible refine bset0 ?_ (Nat.le_refl _))
theorem needs_20 (w : World) : Calls Tryz.prog 67 #[.int .i64 20] w fun e w' => e = .returned (.agg #[.bool false, .bool false, .bool true, .bool false, .bool false]) ∧ Below w.heap.size w w' := by
  have HJ := Lib.hid (fun w => jumps_any 20 w)
  go_enter Tryz.func67, Tryz.ntmps67
  go_wp2_with (first
    | (go_at_call 60; with_reducible refine (HJ.out _).mono ?_; rintro e w' ⟨rfl, rfl⟩))
  refine bodyPost_ret (v := .agg #[.bool false, .bool false, .bool true, .bool false, .bool false]) (by simp [results, Tryz.results67, go_sem]) rfl ⟨rfl, ?_⟩
  clear HJ
  repeat (first | with_reducible exact al0 _ _ | with_reducible refine bset0 ?_ (Nat.le_refl _))
theorem needs_21 (w : World) : Calls Tryz.prog 67 #[.int .i64 21] w fun e w' => e = .returned (.agg #[.bool false, .bool false, .bool true, .bool false, .bool false]) ∧ Below w.heap.size w w' := by
  have HJ := Lib.hid (fun w => jumps_any 21 w)
  go_enter Tryz.func67, Tryz.ntmps67
  go_wp2_with (first
    | (go_at_call 60; with_reducible refine (HJ.out _).mono ?_; rintro e w' ⟨rfl, rfl⟩))
  refine bodyPost_ret (v := .agg #[.bool false, .bool false, .bool true, .bool false, .bool false]) (by simp [results, Tryz.results67, go_sem]) rfl ⟨rfl, ?_⟩
  clear HJ
  repeat (first | with_reducible exact al0 _ _ | with_reducible refine bset0 ?_ (Nat.le_refl _))
theorem needs_22 (w : World) : Calls Tryz.prog 67 #[.int .i64 22] w fun e w' => e = .returned (.agg #[.bool false, .bool false, .bool true, .bool false, .bool false]) ∧ Below w.heap.size w w' := by
  have HJ := Lib.hid (fun w => jumps_any 22 w)
  go_enter Tryz.func67, Tryz.ntmps67
  go_wp2_with (first
    | (go_at_call 60; with_reducible refine (HJ.out _).mono ?_; rintro e w' ⟨rfl, rfl⟩))
  refine bodyPost_ret (v := .agg #[.bool false, .bool false, .bool true, .bool false, .bool false]) (by simp [results, Tryz.results67, go_sem]) rfl ⟨rfl, ?_⟩
  clear HJ
  repeat (first | with_reducible exact al0 _ _ | with_reducible refine bset0 ?_ (Nat.le_refl _))
theorem needs_23 (w : World) : Calls Tryz.prog 67 #[.int .i64 23] w fun e w' => e = .returned (.agg #[.bool false, .bool false, .bool true, .bool false, .bool false]) ∧ Below w.heap.size w w' := by
  have HJ := Lib.hid (fun w => jumps_any 23 w)
  go_enter Tryz.func67, Tryz.ntmps67
  go_wp2_with (first
    | (go_at_call 60; with_reducible refine (HJ.out _).mono ?_; rintro e w' ⟨rfl, rfl⟩))
  refine bodyPost_ret (v := .agg #[.bool false, .bool false, .bool true, .bool false, .bool false]) (by simp [results, Tryz.results67, go_sem]) rfl ⟨rfl, ?_⟩
  clear HJ
  repeat (first | with_reducible exact al0 _ _ | with_reducible refine bset0 ?_ (Nat.le_refl _))
theorem needs_24 (w : World) : Calls Tryz.prog 67 #[.int .i64 24] w fun e w' => e = .returned (.agg #[.bool false, .bool false, .bool true, .bool true, .bool true]) ∧ Below w.heap.size w w' := by
  have HJ := Lib.hid (fun w => jumps_any 24 w)
  go_enter Tryz.func67, Tryz.ntmps67
  go_wp2_with (first
    | (go_at_call 60; with_reducible refine (HJ.out _).mono ?_; rintro e w' ⟨rfl, rfl⟩))
  refine bodyPost_ret (v := .agg #[.bool false, .bool false, .bool true, .bool true, .bool true]) (by simp [results, Tryz.results67, go_sem]) rfl ⟨rfl, ?_⟩
  clear HJ
  repeat (first | with_reducible exact al0 _ _ | with_reducible refine bset0 ?_ (Nat.le_refl _))
theorem needs_25 (w : World) : Calls Tryz.prog 67 #[.int .i64 25] w fun e w' => e = .returned (.agg #[.bool false, .bool false, .bool true, .bool true, .bool true]) ∧ Below w.heap.size w w' := by
  have HJ := Lib.hid (fun w => jumps_any 25 w)
  go_enter Tryz.func67, Tryz.ntmps67
  go_wp2_with (first
    | (go_at_call 60; with_reducible refine (HJ.out _).mono ?_; rintro e w' ⟨rfl, rfl⟩))
  refine bodyPost_ret (v := .agg #[.bool false, .bool false, .bool true, .bool true, .bool true]) (by simp [results, Tryz.results67, go_sem]) rfl ⟨rfl, ?_⟩
  clear HJ
  repeat (first | with_reducible exact al0 _ _ | with_reducible refine bset0 ?_ (Nat.le_refl _))
theorem needs_26 (w : World) : Calls Tryz.prog 67 #[.int .i64 26] w fun e w' => e = .returned (.agg #[.bool false, .bool false, .bool false, .bool false, .bool false]) ∧ Below w.heap.size w w' := by
  have HJ := Lib.hid (fun w => jumps_any 26 w)
  go_enter Tryz.func67, Tryz.ntmps67
  go_wp2_with (first
    | (go_at_call 60; with_reducible refine (HJ.out _).mono ?_; rintro e w' ⟨rfl, rfl⟩))
  refine bodyPost_ret (v := .agg #[.bool false, .bool false, .bool false, .bool false, .bool false]) (by simp [results, Tryz.results67, go_sem]) rfl ⟨rfl, ?_⟩
  clear HJ
  repeat (first | with_reducible exact al0 _ _ | with_reducible refine bset0 ?_ (Nat.le_refl _))
theorem needs_27 (w : World) : Calls Tryz.prog 67 #[.int .i64 27] w fun e w' => e = .returned (.agg #[.bool false, .bool false, .bool false, .bool false, .bool false]) ∧ Below w.heap.size w w' := by
  have HJ := Lib.hid (fun w => jumps_any 27 w)
  go_enter Tryz.func67, Tryz.ntmps67
  go_wp2_with (first
    | (go_at_call 60; with_reducible refine (HJ.out _).mono ?_; rintro e w' ⟨rfl, rfl⟩))
  refine bodyPost_ret (v := .agg #[.bool false, .bool false, .bool false, .bool false, .bool false]) (by simp [results, Tryz.results67, go_sem]) rfl ⟨rfl, ?_⟩
  clear HJ
  repeat (first | with_reducible exact al0 _ _ | with_reducible refine bset0 ?_ (Nat.le_refl _))
theorem needs_28 (w : World) : Calls Tryz.prog 67 #[.int .i64 28] w fun e w' => e = .returned (.agg #[.bool false, .bool false, .bool false, .bool false, .bool false]) ∧ Below w.heap.size w w' := by
  have HJ := Lib.hid (fun w => jumps_any 28 w)
  go_enter Tryz.func67, Tryz.ntmps67
  go_wp2_with (first
    | (go_at_call 60; with_reducible refine (HJ.out _).mono ?_; rintro e w' ⟨rfl, rfl⟩))
  refine bodyPost_ret (v := .agg #[.bool false, .bool false, .bool false, .bool false, .bool false]) (by simp [results, Tryz.results67, go_sem]) rfl ⟨rfl, ?_⟩
  clear HJ
  repeat (first | with_reducible exact al0 _ _ | with_reducible refine bset0 ?_ (Nat.le_refl _))
end Go.Proofs.YtkolpbjpgobkcaaGreatDoor
