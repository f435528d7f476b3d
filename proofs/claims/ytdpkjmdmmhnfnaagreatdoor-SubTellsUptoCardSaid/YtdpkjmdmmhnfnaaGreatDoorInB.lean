/- The reference's answer on an instruction with a field too many: its form is wrong. -/
import Derived.Test.YtdpkjmdmmhnfnaaGreatDoorInR
import Derived.Test.YtdpkjmdmmhnfnaaGreatDoorIn2
namespace Go.Proofs.YtdpkjmdmmhnfnaaGreatDoor
open Go.ChangeShapes Go.WideShapes Go.ChangeAt Go.RowKit
set_option linter.unusedVariables false
set_option linter.unusedSimpArgs false

theorem emptyB_ne {l : List UInt8} (h : l ≠ []) : (bs l).toList.isEmpty = false := by
  rw [ByteArray.toList_eq, bs_list]
  simpa using h

set_option maxHeartbeats 1000000 in
theorem bad_0 {k : Int} {b1 b2 b3 b4 : Bool} {a b : Int} {ty cl nm : List UInt8} (hk0 : 0 < k) (hk : k < 29) (HN : ∀ w, Calls Tryz.prog 110 #[.int .i64 k] w fun e w' => e = .returned (.agg #[.bool false, .bool b1, .bool b2, .bool b3, .bool b4]) ∧ Below w.heap.size w w') (hx : a ≠ 0) (w : World) :
    Calls Tryz.prog 95 #[insV ⟨k, a, b, ty, cl, nm⟩] w fun e w' => e = .returned (.int .i64 1) ∧ Below w.heap.size w w' := by
  have hk1 : ¬ k < 1 := by omega
  have hk2 : ¬ 28 < k := by omega
  replace HN := Lib.hid HN
  clear hk0 hk
  unfold insV
  go_enter Tryz.func95, Tryz.ntmps95
  go_wp2_with (first
    | (go_at_call 110; (with_reducible refine (HN.out _).mono ?_); rintro e w1 ⟨rfl, b1⟩
       have BX1 := box_new ⟨k, a, b, ty, cl, nm⟩ _ _ rfl b1
       have L1 := Lib.hid BX1.2
       obtain ⟨q0, q1, q2, q3, q4, q5, q6⟩ := BX1.1
       clear BX1 b1))
  all_goals
    go_ret
    exact ⟨rfl, bnext L1.out (al0 _ _)⟩
set_option maxHeartbeats 1000000 in
theorem bad_1f {k : Int} {b2 b3 b4 : Bool} {b : Int} {ty cl nm : List UInt8} (hk0 : 0 < k) (hk : k < 29) (HN : ∀ w, Calls Tryz.prog 110 #[.int .i64 k] w fun e w' => e = .returned (.agg #[.bool false, .bool false, .bool b2, .bool b3, .bool b4]) ∧ Below w.heap.size w w') (hx : b ≠ 0) (w : World) :
    Calls Tryz.prog 95 #[insV ⟨k, 0, b, ty, cl, nm⟩] w fun e w' => e = .returned (.int .i64 1) ∧ Below w.heap.size w w' := by
  have hk1 : ¬ k < 1 := by omega
  have hk2 : ¬ 28 < k := by omega
  replace HN := Lib.hid HN
  clear hk0 hk
  unfold insV
  go_enter Tryz.func95, Tryz.ntmps95
  go_wp2_with (first
    | (go_at_call 110; (with_reducible refine (HN.out _).mono ?_); rintro e w1 ⟨rfl, b1⟩
       have BX1 := box_new ⟨k, 0, b, ty, cl, nm⟩ _ _ rfl b1
       have L1 := Lib.hid BX1.2
       obtain ⟨q0, q1, q2, q3, q4, q5, q6⟩ := BX1.1
       clear BX1 b1))
  all_goals
    go_ret
    exact ⟨rfl, bnext L1.out (al0 _ _)⟩
set_option maxHeartbeats 1000000 in
theorem bad_1t {k : Int} {b2 b3 b4 : Bool} {a b : Int} {ty cl nm : List UInt8} (hk0 : 0 < k) (hk : k < 29) (HN : ∀ w, Calls Tryz.prog 110 #[.int .i64 k] w fun e w' => e = .returned (.agg #[.bool true, .bool false, .bool b2, .bool b3, .bool b4]) ∧ Below w.heap.size w w') (hx : b ≠ 0) (w : World) :
    Calls Tryz.prog 95 #[insV ⟨k, a, b, ty, cl, nm⟩] w fun e w' => e = .returned (.int .i64 1) ∧ Below w.heap.size w w' := by
  have hk1 : ¬ k < 1 := by omega
  have hk2 : ¬ 28 < k := by omega
  replace HN := Lib.hid HN
  clear hk0 hk
  unfold insV
  go_enter Tryz.func95, Tryz.ntmps95
  go_wp2_with (first
    | (go_at_call 110; (with_reducible refine (HN.out _).mono ?_); rintro e w1 ⟨rfl, b1⟩
       have BX1 := box_new ⟨k, a, b, ty, cl, nm⟩ _ _ rfl b1
       have L1 := Lib.hid BX1.2
       obtain ⟨q0, q1, q2, q3, q4, q5, q6⟩ := BX1.1
       clear BX1 b1))
  all_goals
    go_ret
    exact ⟨rfl, bnext L1.out (al0 _ _)⟩
set_option maxHeartbeats 1000000 in
theorem bad_2ff {k : Int} {b3 b4 : Bool} {ty cl nm : List UInt8} (hk0 : 0 < k) (hk : k < 29) (HN : ∀ w, Calls Tryz.prog 110 #[.int .i64 k] w fun e w' => e = .returned (.agg #[.bool false, .bool false, .bool false, .bool b3, .bool b4]) ∧ Below w.heap.size w w') (hx : (bs ty).toList.isEmpty = false) (w : World) :
    Calls Tryz.prog 95 #[insV ⟨k, 0, 0, ty, cl, nm⟩] w fun e w' => e = .returned (.int .i64 1) ∧ Below w.heap.size w w' := by
  have hk1 : ¬ k < 1 := by omega
  have hk2 : ¬ 28 < k := by omega
  replace HN := Lib.hid HN
  clear hk0 hk
  unfold insV
  go_enter Tryz.func95, Tryz.ntmps95
  go_wp2_with (first
    | (go_at_call 110; (with_reducible refine (HN.out _).mono ?_); rintro e w1 ⟨rfl, b1⟩
       have BX1 := box_new ⟨k, 0, 0, ty, cl, nm⟩ _ _ rfl b1
       have L1 := Lib.hid BX1.2
       obtain ⟨q0, q1, q2, q3, q4, q5, q6⟩ := BX1.1
       clear BX1 b1))
  all_goals
    go_ret
    exact ⟨rfl, bnext L1.out (al0 _ _)⟩
set_option maxHeartbeats 1000000 in
theorem bad_2ft {k : Int} {b3 b4 : Bool} {b : Int} {ty cl nm : List UInt8} (hk0 : 0 < k) (hk : k < 29) (HN : ∀ w, Calls Tryz.prog 110 #[.int .i64 k] w fun e w' => e = .returned (.agg #[.bool false, .bool true, .bool false, .bool b3, .bool b4]) ∧ Below w.heap.size w w') (hx : (bs ty).toList.isEmpty = false) (w : World) :
    Calls Tryz.prog 95 #[insV ⟨k, 0, b, ty, cl, nm⟩] w fun e w' => e = .returned (.int .i64 1) ∧ Below w.heap.size w w' := by
  have hk1 : ¬ k < 1 := by omega
  have hk2 : ¬ 28 < k := by omega
  replace HN := Lib.hid HN
  clear hk0 hk
  unfold insV
  go_enter Tryz.func95, Tryz.ntmps95
  go_wp2_with (first
    | (go_at_call 110; (with_reducible refine (HN.out _).mono ?_); rintro e w1 ⟨rfl, b1⟩
       have BX1 := box_new ⟨k, 0, b, ty, cl, nm⟩ _ _ rfl b1
       have L1 := Lib.hid BX1.2
       obtain ⟨q0, q1, q2, q3, q4, q5, q6⟩ := BX1.1
       clear BX1 b1))
  all_goals
    go_ret
    exact ⟨rfl, bnext L1.out (al0 _ _)⟩
set_option maxHeartbeats 1000000 in
theorem bad_2tf {k : Int} {b3 b4 : Bool} {a : Int} {ty cl nm : List UInt8} (hk0 : 0 < k) (hk : k < 29) (HN : ∀ w, Calls Tryz.prog 110 #[.int .i64 k] w fun e w' => e = .returned (.agg #[.bool true, .bool false, .bool false, .bool b3, .bool b4]) ∧ Below w.heap.size w w') (hx : (bs ty).toList.isEmpty = false) (w : World) :
    Calls Tryz.prog 95 #[insV ⟨k, a, 0, ty, cl, nm⟩] w fun e w' => e = .returned (.int .i64 1) ∧ Below w.heap.size w w' := by
  have hk1 : ¬ k < 1 := by omega
  have hk2 : ¬ 28 < k := by omega
  replace HN := Lib.hid HN
  clear hk0 hk
  unfold insV
  go_enter Tryz.func95, Tryz.ntmps95
  go_wp2_with (first
    | (go_at_call 110; (with_reducible refine (HN.out _).mono ?_); rintro e w1 ⟨rfl, b1⟩
       have BX1 := box_new ⟨k, a, 0, ty, cl, nm⟩ _ _ rfl b1
       have L1 := Lib.hid BX1.2
       obtain ⟨q0, q1, q2, q3, q4, q5, q6⟩ := BX1.1
       clear BX1 b1))
  all_goals
    go_ret
    exact ⟨rfl, bnext L1.out (al0 _ _)⟩
set_option maxHeartbeats 1000000 in
theorem bad_2tt {k : Int} {b3 b4 : Bool} {a b : Int} {ty cl nm : List UInt8} (hk0 : 0 < k) (hk : k < 29) (HN : ∀ w, Calls Tryz.prog 110 #[.int .i64 k] w fun e w' => e = .returned (.agg #[.bool true, .bool true, .bool false, .bool b3, .bool b4]) ∧ Below w.heap.size w w') (hx : (bs ty).toList.isEmpty = false) (w : World) :
    Calls Tryz.prog 95 #[insV ⟨k, a, b, ty, cl, nm⟩] w fun e w' => e = .returned (.int .i64 1) ∧ Below w.heap.size w w' := by
  have hk1 : ¬ k < 1 := by omega
  have hk2 : ¬ 28 < k := by omega
  replace HN := Lib.hid HN
  clear hk0 hk
  unfold insV
  go_enter Tryz.func95, Tryz.ntmps95
  go_wp2_with (first
    | (go_at_call 110; (with_reducible refine (HN.out _).mono ?_); rintro e w1 ⟨rfl, b1⟩
       have BX1 := box_new ⟨k, a, b, ty, cl, nm⟩ _ _ rfl b1
       have L1 := Lib.hid BX1.2
       obtain ⟨q0, q1, q2, q3, q4, q5, q6⟩ := BX1.1
       clear BX1 b1))
  all_goals
    go_ret
    exact ⟨rfl, bnext L1.out (al0 _ _)⟩
set_option maxHeartbeats 1000000 in
theorem bad_3fff {k : Int} {b4 : Bool} {cl nm : List UInt8} (hk0 : 0 < k) (hk : k < 29) (HN : ∀ w, Calls Tryz.prog 110 #[.int .i64 k] w fun e w' => e = .returned (.agg #[.bool false, .bool false, .bool false, .bool false, .bool b4]) ∧ Below w.heap.size w w') (hx : (bs cl).toList.isEmpty = false) (w : World) :
    Calls Tryz.prog 95 #[insV ⟨k, 0, 0, [], cl, nm⟩] w fun e w' => e = .returned (.int .i64 1) ∧ Below w.heap.size w w' := by
  have hk1 : ¬ k < 1 := by omega
  have hk2 : ¬ 28 < k := by omega
  have z2 : (bs []).toList.isEmpty = true := by rw [ByteArray.toList_eq]; rfl
  replace HN := Lib.hid HN
  clear hk0 hk
  unfold insV
  go_enter Tryz.func95, Tryz.ntmps95
  go_wp2_with (first
    | (go_at_call 110; (with_reducible refine (HN.out _).mono ?_); rintro e w1 ⟨rfl, b1⟩
       have BX1 := box_new ⟨k, 0, 0, [], cl, nm⟩ _ _ rfl b1
       have L1 := Lib.hid BX1.2
       obtain ⟨q0, q1, q2, q3, q4, q5, q6⟩ := BX1.1
       clear BX1 b1))
  all_goals
    go_ret
    exact ⟨rfl, bnext L1.out (al0 _ _)⟩
set_option maxHeartbeats 1000000 in
theorem bad_3fft {k : Int} {b4 : Bool} {ty cl nm : List UInt8} (hk0 : 0 < k) (hk : k < 29) (HN : ∀ w, Calls Tryz.prog 110 #[.int .i64 k] w fun e w' => e = .returned (.agg #[.bool false, .bool false, .bool true, .bool false, .bool b4]) ∧ Below w.heap.size w w') (hx : (bs cl).toList.isEmpty = false) (w : World) :
    Calls Tryz.prog 95 #[insV ⟨k, 0, 0, ty, cl, nm⟩] w fun e w' => e = .returned (.int .i64 1) ∧ Below w.heap.size w w' := by
  have hk1 : ¬ k < 1 := by omega
  have hk2 : ¬ 28 < k := by omega
  replace HN := Lib.hid HN
  clear hk0 hk
  unfold insV
  go_enter Tryz.func95, Tryz.ntmps95
  go_wp2_with (first
    | (go_at_call 110; (with_reducible refine (HN.out _).mono ?_); rintro e w1 ⟨rfl, b1⟩
       have BX1 := box_new ⟨k, 0, 0, ty, cl, nm⟩ _ _ rfl b1
       have L1 := Lib.hid BX1.2
       obtain ⟨q0, q1, q2, q3, q4, q5, q6⟩ := BX1.1
       clear BX1 b1))
  all_goals
    go_ret
    exact ⟨rfl, bnext L1.out (al0 _ _)⟩
set_option maxHeartbeats 1000000 in
theorem bad_3ftf {k : Int} {b4 : Bool} {b : Int} {cl nm : List UInt8} (hk0 : 0 < k) (hk : k < 29) (HN : ∀ w, Calls Tryz.prog 110 #[.int .i64 k] w fun e w' => e = .returned (.agg #[.bool false, .bool true, .bool false, .bool false, .bool b4]) ∧ Below w.heap.size w w') (hx : (bs cl).toList.isEmpty = false) (w : World) :
    Calls Tryz.prog 95 #[insV ⟨k, 0, b, [], cl, nm⟩] w fun e w' => e = .returned (.int .i64 1) ∧ Below w.heap.size w w' := by
  have hk1 : ¬ k < 1 := by omega
  have hk2 : ¬ 28 < k := by omega
  have z2 : (bs []).toList.isEmpty = true := by rw [ByteArray.toList_eq]; rfl
  replace HN := Lib.hid HN
  clear hk0 hk
  unfold insV
  go_enter Tryz.func95, Tryz.ntmps95
  go_wp2_with (first
    | (go_at_call 110; (with_reducible refine (HN.out _).mono ?_); rintro e w1 ⟨rfl, b1⟩
       have BX1 := box_new ⟨k, 0, b, [], cl, nm⟩ _ _ rfl b1
       have L1 := Lib.hid BX1.2
       obtain ⟨q0, q1, q2, q3, q4, q5, q6⟩ := BX1.1
       clear BX1 b1))
  all_goals
    go_ret
    exact ⟨rfl, bnext L1.out (al0 _ _)⟩
set_option maxHeartbeats 1000000 in
theorem bad_3ftt {k : Int} {b4 : Bool} {b : Int} {ty cl nm : List UInt8} (hk0 : 0 < k) (hk : k < 29) (HN : ∀ w, Calls Tryz.prog 110 #[.int .i64 k] w fun e w' => e = .returned (.agg #[.bool false, .bool true, .bool true, .bool false, .bool b4]) ∧ Below w.heap.size w w') (hx : (bs cl).toList.isEmpty = false) (w : World) :
    Calls Tryz.prog 95 #[insV ⟨k, 0, b, ty, cl, nm⟩] w fun e w' => e = .returned (.int .i64 1) ∧ Below w.heap.size w w' := by
  have hk1 : ¬ k < 1 := by omega
  have hk2 : ¬ 28 < k := by omega
  replace HN := Lib.hid HN
  clear hk0 hk
  unfold insV
  go_enter Tryz.func95, Tryz.ntmps95
  go_wp2_with (first
    | (go_at_call 110; (with_reducible refine (HN.out _).mono ?_); rintro e w1 ⟨rfl, b1⟩
       have BX1 := box_new ⟨k, 0, b, ty, cl, nm⟩ _ _ rfl b1
       have L1 := Lib.hid BX1.2
       obtain ⟨q0, q1, q2, q3, q4, q5, q6⟩ := BX1.1
       clear BX1 b1))
  all_goals
    go_ret
    exact ⟨rfl, bnext L1.out (al0 _ _)⟩
set_option maxHeartbeats 1000000 in
theorem bad_3tff {k : Int} {b4 : Bool} {a : Int} {cl nm : List UInt8} (hk0 : 0 < k) (hk : k < 29) (HN : ∀ w, Calls Tryz.prog 110 #[.int .i64 k] w fun e w' => e = .returned (.agg #[.bool true, .bool false, .bool false, .bool false, .bool b4]) ∧ Below w.heap.size w w') (hx : (bs cl).toList.isEmpty = false) (w : World) :
    Calls Tryz.prog 95 #[insV ⟨k, a, 0, [], cl, nm⟩] w fun e w' => e = .returned (.int .i64 1) ∧ Below w.heap.size w w' := by
  have hk1 : ¬ k < 1 := by omega
  have hk2 : ¬ 28 < k := by omega
  have z2 : (bs []).toList.isEmpty = true := by rw [ByteArray.toList_eq]; rfl
  replace HN := Lib.hid HN
  clear hk0 hk
  unfold insV
  go_enter Tryz.func95, Tryz.ntmps95
  go_wp2_with (first
    | (go_at_call 110; (with_reducible refine (HN.out _).mono ?_); rintro e w1 ⟨rfl, b1⟩
       have BX1 := box_new ⟨k, a, 0, [], cl, nm⟩ _ _ rfl b1
       have L1 := Lib.hid BX1.2
       obtain ⟨q0, q1, q2, q3, q4, q5, q6⟩ := BX1.1
       clear BX1 b1))
  all_goals
    go_ret
    exact ⟨rfl, bnext L1.out (al0 _ _)⟩
set_option maxHeartbeats 1000000 in
theorem bad_3tft {k : Int} {b4 : Bool} {a : Int} {ty cl nm : List UInt8} (hk0 : 0 < k) (hk : k < 29) (HN : ∀ w, Calls Tryz.prog 110 #[.int .i64 k] w fun e w' => e = .returned (.agg #[.bool true, .bool false, .bool true, .bool false, .bool b4]) ∧ Below w.heap.size w w') (hx : (bs cl).toList.isEmpty = false) (w : World) :
    Calls Tryz.prog 95 #[insV ⟨k, a, 0, ty, cl, nm⟩] w fun e w' => e = .returned (.int .i64 1) ∧ Below w.heap.size w w' := by
  have hk1 : ¬ k < 1 := by omega
  have hk2 : ¬ 28 < k := by omega
  replace HN := Lib.hid HN
  clear hk0 hk
  unfold insV
  go_enter Tryz.func95, Tryz.ntmps95
  go_wp2_with (first
    | (go_at_call 110; (with_reducible refine (HN.out _).mono ?_); rintro e w1 ⟨rfl, b1⟩
       have BX1 := box_new ⟨k, a, 0, ty, cl, nm⟩ _ _ rfl b1
       have L1 := Lib.hid BX1.2
       obtain ⟨q0, q1, q2, q3, q4, q5, q6⟩ := BX1.1
       clear BX1 b1))
  all_goals
    go_ret
    exact ⟨rfl, bnext L1.out (al0 _ _)⟩
set_option maxHeartbeats 1000000 in
theorem bad_3ttf {k : Int} {b4 : Bool} {a b : Int} {cl nm : List UInt8} (hk0 : 0 < k) (hk : k < 29) (HN : ∀ w, Calls Tryz.prog 110 #[.int .i64 k] w fun e w' => e = .returned (.agg #[.bool true, .bool true, .bool false, .bool false, .bool b4]) ∧ Below w.heap.size w w') (hx : (bs cl).toList.isEmpty = false) (w : World) :
    Calls Tryz.prog 95 #[insV ⟨k, a, b, [], cl, nm⟩] w fun e w' => e = .returned (.int .i64 1) ∧ Below w.heap.size w w' := by
  have hk1 : ¬ k < 1 := by omega
  have hk2 : ¬ 28 < k := by omega
  have z2 : (bs []).toList.isEmpty = true := by rw [ByteArray.toList_eq]; rfl
  replace HN := Lib.hid HN
  clear hk0 hk
  unfold insV
  go_enter Tryz.func95, Tryz.ntmps95
  go_wp2_with (first
    | (go_at_call 110; (with_reducible refine (HN.out _).mono ?_); rintro e w1 ⟨rfl, b1⟩
       have BX1 := box_new ⟨k, a, b, [], cl, nm⟩ _ _ rfl b1
       have L1 := Lib.hid BX1.2
       obtain ⟨q0, q1, q2, q3, q4, q5, q6⟩ := BX1.1
       clear BX1 b1))
  all_goals
    go_ret
    exact ⟨rfl, bnext L1.out (al0 _ _)⟩
set_option maxHeartbeats 1000000 in
theorem bad_3ttt {k : Int} {b4 : Bool} {a b : Int} {ty cl nm : List UInt8} (hk0 : 0 < k) (hk : k < 29) (HN : ∀ w, Calls Tryz.prog 110 #[.int .i64 k] w fun e w' => e = .returned (.agg #[.bool true, .bool true, .bool true, .bool false, .bool b4]) ∧ Below w.heap.size w w') (hx : (bs cl).toList.isEmpty = false) (w : World) :
    Calls Tryz.prog 95 #[insV ⟨k, a, b, ty, cl, nm⟩] w fun e w' => e = .returned (.int .i64 1) ∧ Below w.heap.size w w' := by
  have hk1 : ¬ k < 1 := by omega
  have hk2 : ¬ 28 < k := by omega
  replace HN := Lib.hid HN
  clear hk0 hk
  unfold insV
  go_enter Tryz.func95, Tryz.ntmps95
  go_wp2_with (first
    | (go_at_call 110; (with_reducible refine (HN.out _).mono ?_); rintro e w1 ⟨rfl, b1⟩
       have BX1 := box_new ⟨k, a, b, ty, cl, nm⟩ _ _ rfl b1
       have L1 := Lib.hid BX1.2
       obtain ⟨q0, q1, q2, q3, q4, q5, q6⟩ := BX1.1
       clear BX1 b1))
  all_goals
    go_ret
    exact ⟨rfl, bnext L1.out (al0 _ _)⟩
set_option maxHeartbeats 1000000 in
theorem bad_4ffff {k : Int} {nm : List UInt8} (hk0 : 0 < k) (hk : k < 29) (HN : ∀ w, Calls Tryz.prog 110 #[.int .i64 k] w fun e w' => e = .returned (.agg #[.bool false, .bool false, .bool false, .bool false, .bool false]) ∧ Below w.heap.size w w') (hx : (bs nm).toList.isEmpty = false) (w : World) :
    Calls Tryz.prog 95 #[insV ⟨k, 0, 0, [], [], nm⟩] w fun e w' => e = .returned (.int .i64 1) ∧ Below w.heap.size w w' := by
  have hk1 : ¬ k < 1 := by omega
  have hk2 : ¬ 28 < k := by omega
  have z2 : (bs []).toList.isEmpty = true := by rw [ByteArray.toList_eq]; rfl
  have z3 : (bs []).toList.isEmpty = true := by rw [ByteArray.toList_eq]; rfl
  replace HN := Lib.hid HN
  clear hk0 hk
  unfold insV
  go_enter Tryz.func95, Tryz.ntmps95
  go_wp2_with (first
    | (go_at_call 110; (with_reducible refine (HN.out _).mono ?_); rintro e w1 ⟨rfl, b1⟩
       have BX1 := box_new ⟨k, 0, 0, [], [], nm⟩ _ _ rfl b1
       have L1 := Lib.hid BX1.2
       obtain ⟨q0, q1, q2, q3, q4, q5, q6⟩ := BX1.1
       clear BX1 b1))
  all_goals
    go_ret
    exact ⟨rfl, bnext L1.out (al0 _ _)⟩
set_option maxHeartbeats 1000000 in
theorem bad_4ffft {k : Int} {cl nm : List UInt8} (hk0 : 0 < k) (hk : k < 29) (HN : ∀ w, Calls Tryz.prog 110 #[.int .i64 k] w fun e w' => e = .returned (.agg #[.bool false, .bool false, .bool false, .bool true, .bool false]) ∧ Below w.heap.size w w') (hx : (bs nm).toList.isEmpty = false) (w : World) :
    Calls Tryz.prog 95 #[insV ⟨k, 0, 0, [], cl, nm⟩] w fun e w' => e = .returned (.int .i64 1) ∧ Below w.heap.size w w' := by
  have hk1 : ¬ k < 1 := by omega
  have hk2 : ¬ 28 < k := by omega
  have z2 : (bs []).toList.isEmpty = true := by rw [ByteArray.toList_eq]; rfl
  replace HN := Lib.hid HN
  clear hk0 hk
  unfold insV
  go_enter Tryz.func95, Tryz.ntmps95
  go_wp2_with (first
    | (go_at_call 110; (with_reducible refine (HN.out _).mono ?_); rintro e w1 ⟨rfl, b1⟩
       have BX1 := box_new ⟨k, 0, 0, [], cl, nm⟩ _ _ rfl b1
       have L1 := Lib.hid BX1.2
       obtain ⟨q0, q1, q2, q3, q4, q5, q6⟩ := BX1.1
       clear BX1 b1))
  all_goals
    go_ret
    exact ⟨rfl, bnext L1.out (al0 _ _)⟩
set_option maxHeartbeats 1000000 in
theorem bad_4fftf {k : Int} {ty nm : List UInt8} (hk0 : 0 < k) (hk : k < 29) (HN : ∀ w, Calls Tryz.prog 110 #[.int .i64 k] w fun e w' => e = .returned (.agg #[.bool false, .bool false, .bool true, .bool false, .bool false]) ∧ Below w.heap.size w w') (hx : (bs nm).toList.isEmpty = false) (w : World) :
    Calls Tryz.prog 95 #[insV ⟨k, 0, 0, ty, [], nm⟩] w fun e w' => e = .returned (.int .i64 1) ∧ Below w.heap.size w w' := by
  have hk1 : ¬ k < 1 := by omega
  have hk2 : ¬ 28 < k := by omega
  have z3 : (bs []).toList.isEmpty = true := by rw [ByteArray.toList_eq]; rfl
  replace HN := Lib.hid HN
  clear hk0 hk
  unfold insV
  go_enter Tryz.func95, Tryz.ntmps95
  go_wp2_with (first
    | (go_at_call 110; (with_reducible refine (HN.out _).mono ?_); rintro e w1 ⟨rfl, b1⟩
       have BX1 := box_new ⟨k, 0, 0, ty, [], nm⟩ _ _ rfl b1
       have L1 := Lib.hid BX1.2
       obtain ⟨q0, q1, q2, q3, q4, q5, q6⟩ := BX1.1
       clear BX1 b1))
  all_goals
    go_ret
    exact ⟨rfl, bnext L1.out (al0 _ _)⟩
set_option maxHeartbeats 1000000 in
theorem bad_4fftt {k : Int} {ty cl nm : List UInt8} (hk0 : 0 < k) (hk : k < 29) (HN : ∀ w, Calls Tryz.prog 110 #[.int .i64 k] w fun e w' => e = .returned (.agg #[.bool false, .bool false, .bool true, .bool true, .bool false]) ∧ Below w.heap.size w w') (hx : (bs nm).toList.isEmpty = false) (w : World) :
    Calls Tryz.prog 95 #[insV ⟨k, 0, 0, ty, cl, nm⟩] w fun e w' => e = .returned (.int .i64 1) ∧ Below w.heap.size w w' := by
  have hk1 : ¬ k < 1 := by omega
  have hk2 : ¬ 28 < k := by omega
  replace HN := Lib.hid HN
  clear hk0 hk
  unfold insV
  go_enter Tryz.func95, Tryz.ntmps95
  go_wp2_with (first
    | (go_at_call 110; (with_reducible refine (HN.out _).mono ?_); rintro e w1 ⟨rfl, b1⟩
       have BX1 := box_new ⟨k, 0, 0, ty, cl, nm⟩ _ _ rfl b1
       have L1 := Lib.hid BX1.2
       obtain ⟨q0, q1, q2, q3, q4, q5, q6⟩ := BX1.1
       clear BX1 b1))
  all_goals
    go_ret
    exact ⟨rfl, bnext L1.out (al0 _ _)⟩
set_option maxHeartbeats 1000000 in
theorem bad_4ftff {k : Int} {b : Int} {nm : List UInt8} (hk0 : 0 < k) (hk : k < 29) (HN : ∀ w, Calls Tryz.prog 110 #[.int .i64 k] w fun e w' => e = .returned (.agg #[.bool false, .bool true, .bool false, .bool false, .bool false]) ∧ Below w.heap.size w w') (hx : (bs nm).toList.isEmpty = false) (w : World) :
    Calls Tryz.prog 95 #[insV ⟨k, 0, b, [], [], nm⟩] w fun e w' => e = .returned (.int .i64 1) ∧ Below w.heap.size w w' := by
  have hk1 : ¬ k < 1 := by omega
  have hk2 : ¬ 28 < k := by omega
  have z2 : (bs []).toList.isEmpty = true := by rw [ByteArray.toList_eq]; rfl
  have z3 : (bs []).toList.isEmpty = true := by rw [ByteArray.toList_eq]; rfl
  replace HN := Lib.hid HN
  clear hk0 hk
  unfold insV
  go_enter Tryz.func95, Tryz.ntmps95
  go_wp2_with (first
    | (go_at_call 110; (with_reducible refine (HN.out _).mono ?_); rintro e w1 ⟨rfl, b1⟩
       have BX1 := box_new ⟨k, 0, b, [], [], nm⟩ _ _ rfl b1
       have L1 := Lib.hid BX1.2
       obtain ⟨q0, q1, q2, q3, q4, q5, q6⟩ := BX1.1
       clear BX1 b1))
  all_goals
    go_ret
    exact ⟨rfl, bnext L1.out (al0 _ _)⟩
set_option maxHeartbeats 1000000 in
theorem bad_4ftft {k : Int} {b : Int} {cl nm : List UInt8} (hk0 : 0 < k) (hk : k < 29) (HN : ∀ w, Calls Tryz.prog 110 #[.int .i64 k] w fun e w' => e = .returned (.agg #[.bool false, .bool true, .bool false, .bool true, .bool false]) ∧ Below w.heap.size w w') (hx : (bs nm).toList.isEmpty = false) (w : World) :
    Calls Tryz.prog 95 #[insV ⟨k, 0, b, [], cl, nm⟩] w fun e w' => e = .returned (.int .i64 1) ∧ Below w.heap.size w w' := by
  have hk1 : ¬ k < 1 := by omega
  have hk2 : ¬ 28 < k := by omega
  have z2 : (bs []).toList.isEmpty = true := by rw [ByteArray.toList_eq]; rfl
  replace HN := Lib.hid HN
  clear hk0 hk
  unfold insV
  go_enter Tryz.func95, Tryz.ntmps95
  go_wp2_with (first
    | (go_at_call 110; (with_reducible refine (HN.out _).mono ?_); rintro e w1 ⟨rfl, b1⟩
       have BX1 := box_new ⟨k, 0, b, [], cl, nm⟩ _ _ rfl b1
       have L1 := Lib.hid BX1.2
       obtain ⟨q0, q1, q2, q3, q4, q5, q6⟩ := BX1.1
       clear BX1 b1))
  all_goals
    go_ret
    exact ⟨rfl, bnext L1.out (al0 _ _)⟩
set_option maxHeartbeats 1000000 in
theorem bad_4fttf {k : Int} {b : Int} {ty nm : List UInt8} (hk0 : 0 < k) (hk : k < 29) (HN : ∀ w, Calls Tryz.prog 110 #[.int .i64 k] w fun e w' => e = .returned (.agg #[.bool false, .bool true, .bool true, .bool false, .bool false]) ∧ Below w.heap.size w w') (hx : (bs nm).toList.isEmpty = false) (w : World) :
    Calls Tryz.prog 95 #[insV ⟨k, 0, b, ty, [], nm⟩] w fun e w' => e = .returned (.int .i64 1) ∧ Below w.heap.size w w' := by
  have hk1 : ¬ k < 1 := by omega
  have hk2 : ¬ 28 < k := by omega
  have z3 : (bs []).toList.isEmpty = true := by rw [ByteArray.toList_eq]; rfl
  replace HN := Lib.hid HN
  clear hk0 hk
  unfold insV
  go_enter Tryz.func95, Tryz.ntmps95
  go_wp2_with (first
    | (go_at_call 110; (with_reducible refine (HN.out _).mono ?_); rintro e w1 ⟨rfl, b1⟩
       have BX1 := box_new ⟨k, 0, b, ty, [], nm⟩ _ _ rfl b1
       have L1 := Lib.hid BX1.2
       obtain ⟨q0, q1, q2, q3, q4, q5, q6⟩ := BX1.1
       clear BX1 b1))
  all_goals
    go_ret
    exact ⟨rfl, bnext L1.out (al0 _ _)⟩
set_option maxHeartbeats 1000000 in
theorem bad_4fttt {k : Int} {b : Int} {ty cl nm : List UInt8} (hk0 : 0 < k) (hk : k < 29) (HN : ∀ w, Calls Tryz.prog 110 #[.int .i64 k] w fun e w' => e = .returned (.agg #[.bool false, .bool true, .bool true, .bool true, .bool false]) ∧ Below w.heap.size w w') (hx : (bs nm).toList.isEmpty = false) (w : World) :
    Calls Tryz.prog 95 #[insV ⟨k, 0, b, ty, cl, nm⟩] w fun e w' => e = .returned (.int .i64 1) ∧ Below w.heap.size w w' := by
  have hk1 : ¬ k < 1 := by omega
  have hk2 : ¬ 28 < k := by omega
  replace HN := Lib.hid HN
  clear hk0 hk
  unfold insV
  go_enter Tryz.func95, Tryz.ntmps95
  go_wp2_with (first
    | (go_at_call 110; (with_reducible refine (HN.out _).mono ?_); rintro e w1 ⟨rfl, b1⟩
       have BX1 := box_new ⟨k, 0, b, ty, cl, nm⟩ _ _ rfl b1
       have L1 := Lib.hid BX1.2
       obtain ⟨q0, q1, q2, q3, q4, q5, q6⟩ := BX1.1
       clear BX1 b1))
  all_goals
    go_ret
    exact ⟨rfl, bnext L1.out (al0 _ _)⟩
set_option maxHeartbeats 1000000 in
theorem bad_4tfff {k : Int} {a : Int} {nm : List UInt8} (hk0 : 0 < k) (hk : k < 29) (HN : ∀ w, Calls Tryz.prog 110 #[.int .i64 k] w fun e w' => e = .returned (.agg #[.bool true, .bool false, .bool false, .bool false, .bool false]) ∧ Below w.heap.size w w') (hx : (bs nm).toList.isEmpty = false) (w : World) :
    Calls Tryz.prog 95 #[insV ⟨k, a, 0, [], [], nm⟩] w fun e w' => e = .returned (.int .i64 1) ∧ Below w.heap.size w w' := by
  have hk1 : ¬ k < 1 := by omega
  have hk2 : ¬ 28 < k := by omega
  have z2 : (bs []).toList.isEmpty = true := by rw [ByteArray.toList_eq]; rfl
  have z3 : (bs []).toList.isEmpty = true := by rw [ByteArray.toList_eq]; rfl
  replace HN := Lib.hid HN
  clear hk0 hk
  unfold insV
  go_enter Tryz.func95, Tryz.ntmps95
  go_wp2_with (first
    | (go_at_call 110; (with_reducible refine (HN.out _).mono ?_); rintro e w1 ⟨rfl, b1⟩
       have BX1 := box_new ⟨k, a, 0, [], [], nm⟩ _ _ rfl b1
       have L1 := Lib.hid BX1.2
       obtain ⟨q0, q1, q2, q3, q4, q5, q6⟩ := BX1.1
       clear BX1 b1))
  all_goals
    go_ret
    exact ⟨rfl, bnext L1.out (al0 _ _)⟩
set_option maxHeartbeats 1000000 in
theorem bad_4tfft {k : Int} {a : Int} {cl nm : List UInt8} (hk0 : 0 < k) (hk : k < 29) (HN : ∀ w, Calls Tryz.prog 110 #[.int .i64 k] w fun e w' => e = .returned (.agg #[.bool true, .bool false, .bool false, .bool true, .bool false]) ∧ Below w.heap.size w w') (hx : (bs nm).toList.isEmpty = false) (w : World) :
    Calls Tryz.prog 95 #[insV ⟨k, a, 0, [], cl, nm⟩] w fun e w' => e = .returned (.int .i64 1) ∧ Below w.heap.size w w' := by
  have hk1 : ¬ k < 1 := by omega
  have hk2 : ¬ 28 < k := by omega
  have z2 : (bs []).toList.isEmpty = true := by rw [ByteArray.toList_eq]; rfl
  replace HN := Lib.hid HN
  clear hk0 hk
  unfold insV
  go_enter Tryz.func95, Tryz.ntmps95
  go_wp2_with (first
    | (go_at_call 110; (with_reducible refine (HN.out _).mono ?_); rintro e w1 ⟨rfl, b1⟩
       have BX1 := box_new ⟨k, a, 0, [], cl, nm⟩ _ _ rfl b1
       have L1 := Lib.hid BX1.2
       obtain ⟨q0, q1, q2, q3, q4, q5, q6⟩ := BX1.1
       clear BX1 b1))
  all_goals
    go_ret
    exact ⟨rfl, bnext L1.out (al0 _ _)⟩
set_option maxHeartbeats 1000000 in
theorem bad_4tftf {k : Int} {a : Int} {ty nm : List UInt8} (hk0 : 0 < k) (hk : k < 29) (HN : ∀ w, Calls Tryz.prog 110 #[.int .i64 k] w fun e w' => e = .returned (.agg #[.bool true, .bool false, .bool true, .bool false, .bool false]) ∧ Below w.heap.size w w') (hx : (bs nm).toList.isEmpty = false) (w : World) :
    Calls Tryz.prog 95 #[insV ⟨k, a, 0, ty, [], nm⟩] w fun e w' => e = .returned (.int .i64 1) ∧ Below w.heap.size w w' := by
  have hk1 : ¬ k < 1 := by omega
  have hk2 : ¬ 28 < k := by omega
  have z3 : (bs []).toList.isEmpty = true := by rw [ByteArray.toList_eq]; rfl
  replace HN := Lib.hid HN
  clear hk0 hk
  unfold insV
  go_enter Tryz.func95, Tryz.ntmps95
  go_wp2_with (first
    | (go_at_call 110; (with_reducible refine (HN.out _).mono ?_); rintro e w1 ⟨rfl, b1⟩
       have BX1 := box_new ⟨k, a, 0, ty, [], nm⟩ _ _ rfl b1
       have L1 := Lib.hid BX1.2
       obtain ⟨q0, q1, q2, q3, q4, q5, q6⟩ := BX1.1
       clear BX1 b1))
  all_goals
    go_ret
    exact ⟨rfl, bnext L1.out (al0 _ _)⟩
set_option maxHeartbeats 1000000 in
theorem bad_4tftt {k : Int} {a : Int} {ty cl nm : List UInt8} (hk0 : 0 < k) (hk : k < 29) (HN : ∀ w, Calls Tryz.prog 110 #[.int .i64 k] w fun e w' => e = .returned (.agg #[.bool true, .bool false, .bool true, .bool true, .bool false]) ∧ Below w.heap.size w w') (hx : (bs nm).toList.isEmpty = false) (w : World) :
    Calls Tryz.prog 95 #[insV ⟨k, a, 0, ty, cl, nm⟩] w fun e w' => e = .returned (.int .i64 1) ∧ Below w.heap.size w w' := by
  have hk1 : ¬ k < 1 := by omega
  have hk2 : ¬ 28 < k := by omega
  replace HN := Lib.hid HN
  clear hk0 hk
  unfold insV
  go_enter Tryz.func95, Tryz.ntmps95
  go_wp2_with (first
    | (go_at_call 110; (with_reducible refine (HN.out _).mono ?_); rintro e w1 ⟨rfl, b1⟩
       have BX1 := box_new ⟨k, a, 0, ty, cl, nm⟩ _ _ rfl b1
       have L1 := Lib.hid BX1.2
       obtain ⟨q0, q1, q2, q3, q4, q5, q6⟩ := BX1.1
       clear BX1 b1))
  all_goals
    go_ret
    exact ⟨rfl, bnext L1.out (al0 _ _)⟩
set_option maxHeartbeats 1000000 in
theorem bad_4ttff {k : Int} {a b : Int} {nm : List UInt8} (hk0 : 0 < k) (hk : k < 29) (HN : ∀ w, Calls Tryz.prog 110 #[.int .i64 k] w fun e w' => e = .returned (.agg #[.bool true, .bool true, .bool false, .bool false, .bool false]) ∧ Below w.heap.size w w') (hx : (bs nm).toList.isEmpty = false) (w : World) :
    Calls Tryz.prog 95 #[insV ⟨k, a, b, [], [], nm⟩] w fun e w' => e = .returned (.int .i64 1) ∧ Below w.heap.size w w' := by
  have hk1 : ¬ k < 1 := by omega
  have hk2 : ¬ 28 < k := by omega
  have z2 : (bs []).toList.isEmpty = true := by rw [ByteArray.toList_eq]; rfl
  have z3 : (bs []).toList.isEmpty = true := by rw [ByteArray.toList_eq]; rfl
  replace HN := Lib.hid HN
  clear hk0 hk
  unfold insV
  go_enter Tryz.func95, Tryz.ntmps95
  go_wp2_with (first
    | (go_at_call 110; (with_reducible refine (HN.out _).mono ?_); rintro e w1 ⟨rfl, b1⟩
       have BX1 := box_new ⟨k, a, b, [], [], nm⟩ _ _ rfl b1
       have L1 := Lib.hid BX1.2
       obtain ⟨q0, q1, q2, q3, q4, q5, q6⟩ := BX1.1
       clear BX1 b1))
  all_goals
    go_ret
    exact ⟨rfl, bnext L1.out (al0 _ _)⟩
set_option maxHeartbeats 1000000 in
theorem bad_4ttft {k : Int} {a b : Int} {cl nm : List UInt8} (hk0 : 0 < k) (hk : k < 29) (HN : ∀ w, Calls Tryz.prog 110 #[.int .i64 k] w fun e w' => e = .returned (.agg #[.bool true, .bool true, .bool false, .bool true, .bool false]) ∧ Below w.heap.size w w') (hx : (bs nm).toList.isEmpty = false) (w : World) :
    Calls Tryz.prog 95 #[insV ⟨k, a, b, [], cl, nm⟩] w fun e w' => e = .returned (.int .i64 1) ∧ Below w.heap.size w w' := by
  have hk1 : ¬ k < 1 := by omega
  have hk2 : ¬ 28 < k := by omega
  have z2 : (bs []).toList.isEmpty = true := by rw [ByteArray.toList_eq]; rfl
  replace HN := Lib.hid HN
  clear hk0 hk
  unfold insV
  go_enter Tryz.func95, Tryz.ntmps95
  go_wp2_with (first
    | (go_at_call 110; (with_reducible refine (HN.out _).mono ?_); rintro e w1 ⟨rfl, b1⟩
       have BX1 := box_new ⟨k, a, b, [], cl, nm⟩ _ _ rfl b1
       have L1 := Lib.hid BX1.2
       obtain ⟨q0, q1, q2, q3, q4, q5, q6⟩ := BX1.1
       clear BX1 b1))
  all_goals
    go_ret
    exact ⟨rfl, bnext L1.out (al0 _ _)⟩
set_option maxHeartbeats 1000000 in
theorem bad_4tttf {k : Int} {a b : Int} {ty nm : List UInt8} (hk0 : 0 < k) (hk : k < 29) (HN : ∀ w, Calls Tryz.prog 110 #[.int .i64 k] w fun e w' => e = .returned (.agg #[.bool true, .bool true, .bool true, .bool false, .bool false]) ∧ Below w.heap.size w w') (hx : (bs nm).toList.isEmpty = false) (w : World) :
    Calls Tryz.prog 95 #[insV ⟨k, a, b, ty, [], nm⟩] w fun e w' => e = .returned (.int .i64 1) ∧ Below w.heap.size w w' := by
  have hk1 : ¬ k < 1 := by omega
  have hk2 : ¬ 28 < k := by omega
  have z3 : (bs []).toList.isEmpty = true := by rw [ByteArray.toList_eq]; rfl
  replace HN := Lib.hid HN
  clear hk0 hk
  unfold insV
  go_enter Tryz.func95, Tryz.ntmps95
  go_wp2_with (first
    | (go_at_call 110; (with_reducible refine (HN.out _).mono ?_); rintro e w1 ⟨rfl, b1⟩
       have BX1 := box_new ⟨k, a, b, ty, [], nm⟩ _ _ rfl b1
       have L1 := Lib.hid BX1.2
       obtain ⟨q0, q1, q2, q3, q4, q5, q6⟩ := BX1.1
       clear BX1 b1))
  all_goals
    go_ret
    exact ⟨rfl, bnext L1.out (al0 _ _)⟩
set_option maxHeartbeats 1000000 in
theorem bad_4tttt {k : Int} {a b : Int} {ty cl nm : List UInt8} (hk0 : 0 < k) (hk : k < 29) (HN : ∀ w, Calls Tryz.prog 110 #[.int .i64 k] w fun e w' => e = .returned (.agg #[.bool true, .bool true, .bool true, .bool true, .bool false]) ∧ Below w.heap.size w w') (hx : (bs nm).toList.isEmpty = false) (w : World) :
    Calls Tryz.prog 95 #[insV ⟨k, a, b, ty, cl, nm⟩] w fun e w' => e = .returned (.int .i64 1) ∧ Below w.heap.size w w' := by
  have hk1 : ¬ k < 1 := by omega
  have hk2 : ¬ 28 < k := by omega
  replace HN := Lib.hid HN
  clear hk0 hk
  unfold insV
  go_enter Tryz.func95, Tryz.ntmps95
  go_wp2_with (first
    | (go_at_call 110; (with_reducible refine (HN.out _).mono ?_); rintro e w1 ⟨rfl, b1⟩
       have BX1 := box_new ⟨k, a, b, ty, cl, nm⟩ _ _ rfl b1
       have L1 := Lib.hid BX1.2
       obtain ⟨q0, q1, q2, q3, q4, q5, q6⟩ := BX1.1
       clear BX1 b1))
  all_goals
    go_ret
    exact ⟨rfl, bnext L1.out (al0 _ _)⟩
theorem bad_any {k : Int} {b0 b1 b2 b3 b4 : Bool} {a b : Int} {ty cl nm : List UInt8} (hk0 : 0 < k) (hk : k < 29) (HN : ∀ w, Calls Tryz.prog 110 #[.int .i64 k] w fun e w' => e = .returned (.agg #[.bool b0, .bool b1, .bool b2, .bool b3, .bool b4]) ∧ Below w.heap.size w w')
    (ho : ((a == 0 || b0) && (b == 0 || b1) && (ty == [] || b2) && (cl == [] || b3) && (nm == [] || b4)) = false) (w : World) :
    Calls Tryz.prog 95 #[insV ⟨k, a, b, ty, cl, nm⟩] w fun e w' => e = .returned (.int .i64 1) ∧ Below w.heap.size w w' := by
  cases b0
  · by_cases hz : a = 0
    · subst hz
      cases b1
      · by_cases hz : b = 0
        · subst hz
          cases b2
          · by_cases hz : ty = []
            · subst hz
              cases b3
              · by_cases hz : cl = []
                · subst hz
                  cases b4
                  · by_cases hz : nm = []
                    · subst hz
                      simp at ho
                    · exact bad_4ffff hk0 hk HN (emptyB_ne hz) w
                  · simp at ho
                · exact bad_3fff hk0 hk HN (emptyB_ne hz) w
              · cases b4
                · by_cases hz : nm = []
                  · subst hz
                    simp at ho
                  · exact bad_4ffft hk0 hk HN (emptyB_ne hz) w
                · simp at ho
            · exact bad_2ff hk0 hk HN (emptyB_ne hz) w
          · cases b3
            · by_cases hz : cl = []
              · subst hz
                cases b4
                · by_cases hz : nm = []
                  · subst hz
                    simp at ho
                  · exact bad_4fftf hk0 hk HN (emptyB_ne hz) w
                · simp at ho
              · exact bad_3fft hk0 hk HN (emptyB_ne hz) w
            · cases b4
              · by_cases hz : nm = []
                · subst hz
                  simp at ho
                · exact bad_4fftt hk0 hk HN (emptyB_ne hz) w
              · simp at ho
        · exact bad_1f hk0 hk HN hz w
      · cases b2
        · by_cases hz : ty = []
          · subst hz
            cases b3
            · by_cases hz : cl = []
              · subst hz
                cases b4
                · by_cases hz : nm = []
                  · subst hz
                    simp at ho
                  · exact bad_4ftff hk0 hk HN (emptyB_ne hz) w
                · simp at ho
              · exact bad_3ftf hk0 hk HN (emptyB_ne hz) w
            · cases b4
              · by_cases hz : nm = []
                · subst hz
                  simp at ho
                · exact bad_4ftft hk0 hk HN (emptyB_ne hz) w
              · simp at ho
          · exact bad_2ft hk0 hk HN (emptyB_ne hz) w
        · cases b3
          · by_cases hz : cl = []
            · subst hz
              cases b4
              · by_cases hz : nm = []
                · subst hz
                  simp at ho
                · exact bad_4fttf hk0 hk HN (emptyB_ne hz) w
              · simp at ho
            · exact bad_3ftt hk0 hk HN (emptyB_ne hz) w
          · cases b4
            · by_cases hz : nm = []
              · subst hz
                simp at ho
              · exact bad_4fttt hk0 hk HN (emptyB_ne hz) w
            · simp at ho
    · exact bad_0 hk0 hk HN hz w
  · cases b1
    · by_cases hz : b = 0
      · subst hz
        cases b2
        · by_cases hz : ty = []
          · subst hz
            cases b3
            · by_cases hz : cl = []
              · subst hz
                cases b4
                · by_cases hz : nm = []
                  · subst hz
                    simp at ho
                  · exact bad_4tfff hk0 hk HN (emptyB_ne hz) w
                · simp at ho
              · exact bad_3tff hk0 hk HN (emptyB_ne hz) w
            · cases b4
              · by_cases hz : nm = []
                · subst hz
                  simp at ho
                · exact bad_4tfft hk0 hk HN (emptyB_ne hz) w
              · simp at ho
          · exact bad_2tf hk0 hk HN (emptyB_ne hz) w
        · cases b3
          · by_cases hz : cl = []
            · subst hz
              cases b4
              · by_cases hz : nm = []
                · subst hz
                  simp at ho
                · exact bad_4tftf hk0 hk HN (emptyB_ne hz) w
              · simp at ho
            · exact bad_3tft hk0 hk HN (emptyB_ne hz) w
          · cases b4
            · by_cases hz : nm = []
              · subst hz
                simp at ho
              · exact bad_4tftt hk0 hk HN (emptyB_ne hz) w
            · simp at ho
      · exact bad_1t hk0 hk HN hz w
    · cases b2
      · by_cases hz : ty = []
        · subst hz
          cases b3
          · by_cases hz : cl = []
            · subst hz
              cases b4
              · by_cases hz : nm = []
                · subst hz
                  simp at ho
                · exact bad_4ttff hk0 hk HN (emptyB_ne hz) w
              · simp at ho
            · exact bad_3ttf hk0 hk HN (emptyB_ne hz) w
          · cases b4
            · by_cases hz : nm = []
              · subst hz
                simp at ho
              · exact bad_4ttft hk0 hk HN (emptyB_ne hz) w
            · simp at ho
        · exact bad_2tt hk0 hk HN (emptyB_ne hz) w
      · cases b3
        · by_cases hz : cl = []
          · subst hz
            cases b4
            · by_cases hz : nm = []
              · subst hz
                simp at ho
              · exact bad_4tttf hk0 hk HN (emptyB_ne hz) w
            · simp at ho
          · exact bad_3ttt hk0 hk HN (emptyB_ne hz) w
        · cases b4
          · by_cases hz : nm = []
            · subst hz
              simp at ho
            · exact bad_4tttt hk0 hk HN (emptyB_ne hz) w
          · simp at ho
end Go.Proofs.YtdpkjmdmmhnfnaaGreatDoor
