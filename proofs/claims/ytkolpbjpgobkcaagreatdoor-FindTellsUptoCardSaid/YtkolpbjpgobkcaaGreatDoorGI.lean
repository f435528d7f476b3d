/- The reference's answer on an instruction with a field too many: its form is wrong. The reference's answer on an instruction: what is wrong with it. The reference's answer on any instruction. -/
import Derived.Test.YtkolpbjpgobkcaaGreatDoorInR
import Derived.Test.YtkolpbjpgobkcaaGreatDoorIn2
namespace Go.Proofs.YtkolpbjpgobkcaaGreatDoor
open Go.ChangeShapes Go.WideShapes Go.ChangeAt Go.RowKit
set_option linter.unusedVariables false
set_option linter.unusedSimpArgs false

theorem emptyB_ne {l : List UInt8} (h : l ≠ []) : (bs l).toList.isEmpty = false := by
  rw [ByteArray.toList_eq, bs_list]
  simpa using h

set_option maxHeartbeats 1000000 in
theorem bad_0 {k : Int} {b1 b2 b3 b4 : Bool} {a b : Int} {ty cl nm : List UInt8} (hk0 : 0 < k) (hk : k < 29) (HN : ∀ w, Calls Tryz.prog 67 #[.int .i64 k] w fun e w' => e = .returned (.agg #[.bool false, .bool b1, .bool b2, .bool b3, .bool b4]) ∧ Below w.heap.size w w') (hx : a ≠ 0) (w : World) :
    Calls Tryz.prog 59 #[insV ⟨k, a, b, ty, cl, nm⟩] w fun e w' => e = .returned (.int .i64 1) ∧ Below w.heap.size w w' := by
  have hk1 : ¬ k < 1 := by omega
  have hk2 : ¬ 28 < k := by omega
  replace HN := Lib.hid HN
  clear hk0 hk
  unfold insV
  go_enter Tryz.func59, Tryz.ntmps59
  go_wp2_with (first
    | (go_at_call 67; (with_reducible refine (HN.out _).mono ?_); rintro e w1 ⟨rfl, b1⟩
       have BX1 := box_new ⟨k, a, b, ty, cl, nm⟩ _ _ rfl b1
       have L1 := Lib.hid BX1.2
       obtain ⟨q0, q1, q2, q3, q4, q5, q6⟩ := BX1.1
       clear BX1 b1))
  all_goals
    go_ret
    exact ⟨rfl, bnext L1.out (al0 _ _)⟩
set_option maxHeartbeats 1000000 in
theorem bad_1f {k : Int} {b2 b3 b4 : Bool} {b : Int} {ty cl nm : List UInt8} (hk0 : 0 < k) (hk : k < 29) (HN : ∀ w, Calls Tryz.prog 67 #[.int .i64 k] w fun e w' => e = .returned (.agg #[.bool false, .bool false, .bool b2, .bool b3, .bool b4]) ∧ Below w.heap.size w w') (hx : b ≠ 0) (w : World) :
    Calls Tryz.prog 59 #[insV ⟨k, 0, b, ty, cl, nm⟩] w fun e w' => e = .returned (.int .i64 1) ∧ Below w.heap.size w w' := by
  have hk1 : ¬ k < 1 := by omega
  have hk2 : ¬ 28 < k := by omega
  replace HN := Lib.hid HN
  clear hk0 hk
  unfold insV
  go_enter Tryz.func59, Tryz.ntmps59
  go_wp2_with (first
    | (go_at_call 67; (with_reducible refine (HN.out _).mono ?_); rintro e w1 ⟨rfl, b1⟩
       have BX1 := box_new ⟨k, 0, b, ty, cl, nm⟩ _ _ rfl b1
       have L1 := Lib.hid BX1.2
       obtain ⟨q0, q1, q2, q3, q4, q5, q6⟩ := BX1.1
       clear BX1 b1))
  all_goals
    go_ret
    exact ⟨rfl, bnext L1.out (al0 _ _)⟩
set_option maxHeartbeats 1000000 in
theorem bad_1t {k : Int} {b2 b3 b4 : Bool} {a b : Int} {ty cl nm : List UInt8} (hk0 : 0 < k) (hk : k < 29) (HN : ∀ w, Calls Tryz.prog 67 #[.int .i64 k] w fun e w' => e = .returned (.agg #[.bool true, .bool false, .bool b2, .bool b3, .bool b4]) ∧ Below w.heap.size w w') (hx : b ≠ 0) (w : World) :
    Calls Tryz.prog 59 #[insV ⟨k, a, b, ty, cl, nm⟩] w fun e w' => e = .returned (.int .i64 1) ∧ Below w.heap.size w w' := by
  have hk1 : ¬ k < 1 := by omega
  have hk2 : ¬ 28 < k := by omega
  replace HN := Lib.hid HN
  clear hk0 hk
  unfold insV
  go_enter Tryz.func59, Tryz.ntmps59
  go_wp2_with (first
    | (go_at_call 67; (with_reducible refine (HN.out _).mono ?_); rintro e w1 ⟨rfl, b1⟩
       have BX1 := box_new ⟨k, a, b, ty, cl, nm⟩ _ _ rfl b1
       have L1 := Lib.hid BX1.2
       obtain ⟨q0, q1, q2, q3, q4, q5, q6⟩ := BX1.1
       clear BX1 b1))
  all_goals
    go_ret
    exact ⟨rfl, bnext L1.out (al0 _ _)⟩
set_option maxHeartbeats 1000000 in
theorem bad_2ff {k : Int} {b3 b4 : Bool} {ty cl nm : List UInt8} (hk0 : 0 < k) (hk : k < 29) (HN : ∀ w, Calls Tryz.prog 67 #[.int .i64 k] w fun e w' => e = .returned (.agg #[.bool false, .bool false, .bool false, .bool b3, .bool b4]) ∧ Below w.heap.size w w') (hx : (bs ty).toList.isEmpty = false) (w : World) :
    Calls Tryz.prog 59 #[insV ⟨k, 0, 0, ty, cl, nm⟩] w fun e w' => e = .returned (.int .i64 1) ∧ Below w.heap.size w w' := by
  have hk1 : ¬ k < 1 := by omega
  have hk2 : ¬ 28 < k := by omega
  replace HN := Lib.hid HN
  clear hk0 hk
  unfold insV
  go_enter Tryz.func59, Tryz.ntmps59
  go_wp2_with (first
    | (go_at_call 67; (with_reducible refine (HN.out _).mono ?_); rintro e w1 ⟨rfl, b1⟩
       have BX1 := box_new ⟨k, 0, 0, ty, cl, nm⟩ _ _ rfl b1
       have L1 := Lib.hid BX1.2
       obtain ⟨q0, q1, q2, q3, q4, q5, q6⟩ := BX1.1
       clear BX1 b1))
  all_goals
    go_ret
    exact ⟨rfl, bnext L1.out (al0 _ _)⟩
set_option maxHeartbeats 1000000 in
theorem bad_2ft {k : Int} {b3 b4 : Bool} {b : Int} {ty cl nm : List UInt8} (hk0 : 0 < k) (hk : k < 29) (HN : ∀ w, Calls Tryz.prog 67 #[.int .i64 k] w fun e w' => e = .returned (.agg #[.bool false, .bool true, .bool false, .bool b3, .bool b4]) ∧ Below w.heap.size w w') (hx : (bs ty).toList.isEmpty = false) (w : World) :
    Calls Tryz.prog 59 #[insV ⟨k, 0, b, ty, cl, nm⟩] w fun e w' => e = .returned (.int .i64 1) ∧ Below w.heap.size w w' := by
  have hk1 : ¬ k < 1 := by omega
  have hk2 : ¬ 28 < k := by omega
  replace HN := Lib.hid HN
  clear hk0 hk
  unfold insV
  go_enter Tryz.func59, Tryz.ntmps59
  go_wp2_with (first
    | (go_at_call 67; (with_reducible refine (HN.out _).mono ?_); rintro e w1 ⟨rfl, b1⟩
       have BX1 := box_new ⟨k, 0, b, ty, cl, nm⟩ _ _ rfl b1
       have L1 := Lib.hid BX1.2
       obtain ⟨q0, q1, q2, q3, q4, q5, q6⟩ := BX1.1
       clear BX1 b1))
  all_goals
    go_ret
    exact ⟨rfl, bnext L1.out (al0 _ _)⟩
set_option maxHeartbeats 1000000 in
theorem bad_2tf {k : Int} {b3 b4 : Bool} {a : Int} {ty cl nm : List UInt8} (hk0 : 0 < k) (hk : k < 29) (HN : ∀ w, Calls Tryz.prog 67 #[.int .i64 k] w fun e w' => e = .returned (.agg #[.bool true, .bool false, .bool false, .bool b3, .bool b4]) ∧ Below w.heap.size w w') (hx : (bs ty).toList.isEmpty = false) (w : World) :
    Calls Tryz.prog 59 #[insV ⟨k, a, 0, ty, cl, nm⟩] w fun e w' => e = .returned (.int .i64 1) ∧ Below w.heap.size w w' := by
  have hk1 : ¬ k < 1 := by omega
  have hk2 : ¬ 28 < k := by omega
  replace HN := Lib.hid HN
  clear hk0 hk
  unfold insV
  go_enter Tryz.func59, Tryz.ntmps59
  go_wp2_with (first
    | (go_at_call 67; (with_reducible refine (HN.out _).mono ?_); rintro e w1 ⟨rfl, b1⟩
       have BX1 := box_new ⟨k, a, 0, ty, cl, nm⟩ _ _ rfl b1
       have L1 := Lib.hid BX1.2
       obtain ⟨q0, q1, q2, q3, q4, q5, q6⟩ := BX1.1
       clear BX1 b1))
  all_goals
    go_ret
    exact ⟨rfl, bnext L1.out (al0 _ _)⟩
set_option maxHeartbeats 1000000 in
theorem bad_2tt {k : Int} {b3 b4 : Bool} {a b : Int} {ty cl nm : List UInt8} (hk0 : 0 < k) (hk : k < 29) (HN : ∀ w, Calls Tryz.prog 67 #[.int .i64 k] w fun e w' => e = .returned (.agg #[.bool true, .bool true, .bool false, .bool b3, .bool b4]) ∧ Below w.heap.size w w') (hx : (bs ty).toList.isEmpty = false) (w : World) :
    Calls Tryz.prog 59 #[insV ⟨k, a, b, ty, cl, nm⟩] w fun e w' => e = .returned (.int .i64 1) ∧ Below w.heap.size w w' := by
  have hk1 : ¬ k < 1 := by omega
  have hk2 : ¬ 28 < k := by omega
  replace HN := Lib.hid HN
  clear hk0 hk
  unfold insV
  go_enter Tryz.func59, Tryz.ntmps59
  go_wp2_with (first
    | (go_at_call 67; (with_reducible refine (HN.out _).mono ?_); rintro e w1 ⟨rfl, b1⟩
       have BX1 := box_new ⟨k, a, b, ty, cl, nm⟩ _ _ rfl b1
       have L1 := Lib.hid BX1.2
       obtain ⟨q0, q1, q2, q3, q4, q5, q6⟩ := BX1.1
       clear BX1 b1))
  all_goals
    go_ret
    exact ⟨rfl, bnext L1.out (al0 _ _)⟩
set_option maxHeartbeats 1000000 in
theorem bad_3fff {k : Int} {b4 : Bool} {cl nm : List UInt8} (hk0 : 0 < k) (hk : k < 29) (HN : ∀ w, Calls Tryz.prog 67 #[.int .i64 k] w fun e w' => e = .returned (.agg #[.bool false, .bool false, .bool false, .bool false, .bool b4]) ∧ Below w.heap.size w w') (hx : (bs cl).toList.isEmpty = false) (w : World) :
    Calls Tryz.prog 59 #[insV ⟨k, 0, 0, [], cl, nm⟩] w fun e w' => e = .returned (.int .i64 1) ∧ Below w.heap.size w w' := by
  have hk1 : ¬ k < 1 := by omega
  have hk2 : ¬ 28 < k := by omega
  have z2 : (bs []).toList.isEmpty = true := by rw [ByteArray.toList_eq]; rfl
  replace HN := Lib.hid HN
  clear hk0 hk
  unfold insV
  go_enter Tryz.func59, Tryz.ntmps59
  go_wp2_with (first
    | (go_at_call 67; (with_reducible refine (HN.out _).mono ?_); rintro e w1 ⟨rfl, b1⟩
       have BX1 := box_new ⟨k, 0, 0, [], cl, nm⟩ _ _ rfl b1
       have L1 := Lib.hid BX1.2
       obtain ⟨q0, q1, q2, q3, q4, q5, q6⟩ := BX1.1
       clear BX1 b1))
  all_goals
    go_ret
    exact ⟨rfl, bnext L1.out (al0 _ _)⟩
set_option maxHeartbeats 1000000 in
theorem bad_3fft {k : Int} {b4 : Bool} {ty cl nm : List UInt8} (hk0 : 0 < k) (hk : k < 29) (HN : ∀ w, Calls Tryz.prog 67 #[.int .i64 k] w fun e w' => e = .returned (.agg #[.bool false, .bool false, .bool true, .bool false, .bool b4]) ∧ Below w.heap.size w w') (hx : (bs cl).toList.isEmpty = false) (w : World) :
    Calls Tryz.prog 59 #[insV ⟨k, 0, 0, ty, cl, nm⟩] w fun e w' => e = .returned (.int .i64 1) ∧ Below w.heap.size w w' := by
  have hk1 : ¬ k < 1 := by omega
  have hk2 : ¬ 28 < k := by omega
  replace HN := Lib.hid HN
  clear hk0 hk
  unfold insV
  go_enter Tryz.func59, Tryz.ntmps59
  go_wp2_with (first
    | (go_at_call 67; (with_reducible refine (HN.out _).mono ?_); rintro e w1 ⟨rfl, b1⟩
       have BX1 := box_new ⟨k, 0, 0, ty, cl, nm⟩ _ _ rfl b1
       have L1 := Lib.hid BX1.2
       obtain ⟨q0, q1, q2, q3, q4, q5, q6⟩ := BX1.1
       clear BX1 b1))
  all_goals
    go_ret
    exact ⟨rfl, bnext L1.out (al0 _ _)⟩
set_option maxHeartbeats 1000000 in
theorem bad_3ftf {k : Int} {b4 : Bool} {b : Int} {cl nm : List UInt8} (hk0 : 0 < k) (hk : k < 29) (HN : ∀ w, Calls Tryz.prog 67 #[.int .i64 k] w fun e w' => e = .returned (.agg #[.bool false, .bool true, .bool false, .bool false, .bool b4]) ∧ Below w.heap.size w w') (hx : (bs cl).toList.isEmpty = false) (w : World) :
    Calls Tryz.prog 59 #[insV ⟨k, 0, b, [], cl, nm⟩] w fun e w' => e = .returned (.int .i64 1) ∧ Below w.heap.size w w' := by
  have hk1 : ¬ k < 1 := by omega
  have hk2 : ¬ 28 < k := by omega
  have z2 : (bs []).toList.isEmpty = true := by rw [ByteArray.toList_eq]; rfl
  replace HN := Lib.hid HN
  clear hk0 hk
  unfold insV
  go_enter Tryz.func59, Tryz.ntmps59
  go_wp2_with (first
    | (go_at_call 67; (with_reducible refine (HN.out _).mono ?_); rintro e w1 ⟨rfl, b1⟩
       have BX1 := box_new ⟨k, 0, b, [], cl, nm⟩ _ _ rfl b1
       have L1 := Lib.hid BX1.2
       obtain ⟨q0, q1, q2, q3, q4, q5, q6⟩ := BX1.1
       clear BX1 b1))
  all_goals
    go_ret
    exact ⟨rfl, bnext L1.out (al0 _ _)⟩
set_option maxHeartbeats 1000000 in
theorem bad_3ftt {k : Int} {b4 : Bool} {b : Int} {ty cl nm : List UInt8} (hk0 : 0 < k) (hk : k < 29) (HN : ∀ w, Calls Tryz.prog 67 #[.int .i64 k] w fun e w' => e = .returned (.agg #[.bool false, .bool true, .bool true, .bool false, .bool b4]) ∧ Below w.heap.size w w') (hx : (bs cl).toList.isEmpty = false) (w : World) :
    Calls Tryz.prog 59 #[insV ⟨k, 0, b, ty, cl, nm⟩] w fun e w' => e = .returned (.int .i64 1) ∧ Below w.heap.size w w' := by
  have hk1 : ¬ k < 1 := by omega
  have hk2 : ¬ 28 < k := by omega
  replace HN := Lib.hid HN
  clear hk0 hk
  unfold insV
  go_enter Tryz.func59, Tryz.ntmps59
  go_wp2_with (first
    | (go_at_call 67; (with_reducible refine (HN.out _).mono ?_); rintro e w1 ⟨rfl, b1⟩
       have BX1 := box_new ⟨k, 0, b, ty, cl, nm⟩ _ _ rfl b1
       have L1 := Lib.hid BX1.2
       obtain ⟨q0, q1, q2, q3, q4, q5, q6⟩ := BX1.1
       clear BX1 b1))
  all_goals
    go_ret
    exact ⟨rfl, bnext L1.out (al0 _ _)⟩
set_option maxHeartbeats 1000000 in
theorem bad_3tff {k : Int} {b4 : Bool} {a : Int} {cl nm : List UInt8} (hk0 : 0 < k) (hk : k < 29) (HN : ∀ w, Calls Tryz.prog 67 #[.int .i64 k] w fun e w' => e = .returned (.agg #[.bool true, .bool false, .bool false, .bool false, .bool b4]) ∧ Below w.heap.size w w') (hx : (bs cl).toList.isEmpty = false) (w : World) :
    Calls Tryz.prog 59 #[insV ⟨k, a, 0, [], cl, nm⟩] w fun e w' => e = .returned (.int .i64 1) ∧ Below w.heap.size w w' := by
  have hk1 : ¬ k < 1 := by omega
  have hk2 : ¬ 28 < k := by omega
  have z2 : (bs []).toList.isEmpty = true := by rw [ByteArray.toList_eq]; rfl
  replace HN := Lib.hid HN
  clear hk0 hk
  unfold insV
  go_enter Tryz.func59, Tryz.ntmps59
  go_wp2_with (first
    | (go_at_call 67; (with_reducible refine (HN.out _).mono ?_); rintro e w1 ⟨rfl, b1⟩
       have BX1 := box_new ⟨k, a, 0, [], cl, nm⟩ _ _ rfl b1
       have L1 := Lib.hid BX1.2
       obtain ⟨q0, q1, q2, q3, q4, q5, q6⟩ := BX1.1
       clear BX1 b1))
  all_goals
    go_ret
    exact ⟨rfl, bnext L1.out (al0 _ _)⟩
set_option maxHeartbeats 1000000 in
theorem bad_3tft {k : Int} {b4 : Bool} {a : Int} {ty cl nm : List UInt8} (hk0 : 0 < k) (hk : k < 29) (HN : ∀ w, Calls Tryz.prog 67 #[.int .i64 k] w fun e w' => e = .returned (.agg #[.bool true, .bool false, .bool true, .bool false, .bool b4]) ∧ Below w.heap.size w w') (hx : (bs cl).toList.isEmpty = false) (w : World) :
    Calls Tryz.prog 59 #[insV ⟨k, a, 0, ty, cl, nm⟩] w fun e w' => e = .returned (.int .i64 1) ∧ Below w.heap.size w w' := by
  have hk1 : ¬ k < 1 := by omega
  have hk2 : ¬ 28 < k := by omega
  replace HN := Lib.hid HN
  clear hk0 hk
  unfold insV
  go_enter Tryz.func59, Tryz.ntmps59
  go_wp2_with (first
    | (go_at_call 67; (with_reducible refine (HN.out _).mono ?_); rintro e w1 ⟨rfl, b1⟩
       have BX1 := box_new ⟨k, a, 0, ty, cl, nm⟩ _ _ rfl b1
       have L1 := Lib.hid BX1.2
       obtain ⟨q0, q1, q2, q3, q4, q5, q6⟩ := BX1.1
       clear BX1 b1))
  all_goals
    go_ret
    exact ⟨rfl, bnext L1.out (al0 _ _)⟩
set_option maxHeartbeats 1000000 in
theorem bad_3ttf {k : Int} {b4 : Bool} {a b : Int} {cl nm : List UInt8} (hk0 : 0 < k) (hk : k < 29) (HN : ∀ w, Calls Tryz.prog 67 #[.int .i64 k] w fun e w' => e = .returned (.agg #[.bool true, .bool true, .bool false, .bool false, .bool b4]) ∧ Below w.heap.size w w') (hx : (bs cl).toList.isEmpty = false) (w : World) :
    Calls Tryz.prog 59 #[insV ⟨k, a, b, [], cl, nm⟩] w fun e w' => e = .returned (.int .i64 1) ∧ Below w.heap.size w w' := by
  have hk1 : ¬ k < 1 := by omega
  have hk2 : ¬ 28 < k := by omega
  have z2 : (bs []).toList.isEmpty = true := by rw [ByteArray.toList_eq]; rfl
  replace HN := Lib.hid HN
  clear hk0 hk
  unfold insV
  go_enter Tryz.func59, Tryz.ntmps59
  go_wp2_with (first
    | (go_at_call 67; (with_reducible refine (HN.out _).mono ?_); rintro e w1 ⟨rfl, b1⟩
       have BX1 := box_new ⟨k, a, b, [], cl, nm⟩ _ _ rfl b1
       have L1 := Lib.hid BX1.2
       obtain ⟨q0, q1, q2, q3, q4, q5, q6⟩ := BX1.1
       clear BX1 b1))
  all_goals
    go_ret
    exact ⟨rfl, bnext L1.out (al0 _ _)⟩
set_option maxHeartbeats 1000000 in
theorem bad_3ttt {k : Int} {b4 : Bool} {a b : Int} {ty cl nm : List UInt8} (hk0 : 0 < k) (hk : k < 29) (HN : ∀ w, Calls Tryz.prog 67 #[.int .i64 k] w fun e w' => e = .returned (.agg #[.bool true, .bool true, .bool true, .bool false, .bool b4]) ∧ Below w.heap.size w w') (hx : (bs cl).toList.isEmpty = false) (w : World) :
    Calls Tryz.prog 59 #[insV ⟨k, a, b, ty, cl, nm⟩] w fun e w' => e = .returned (.int .i64 1) ∧ Below w.heap.size w w' := by
  have hk1 : ¬ k < 1 := by omega
  have hk2 : ¬ 28 < k := by omega
  replace HN := Lib.hid HN
  clear hk0 hk
  unfold insV
  go_enter Tryz.func59, Tryz.ntmps59
  go_wp2_with (first
    | (go_at_call 67; (with_reducible refine (HN.out _).mono ?_); rintro e w1 ⟨rfl, b1⟩
       have BX1 := box_new ⟨k, a, b, ty, cl, nm⟩ _ _ rfl b1
       have L1 := Lib.hid BX1.2
       obtain ⟨q0, q1, q2, q3, q4, q5, q6⟩ := BX1.1
       clear BX1 b1))
  all_goals
    go_ret
    exact ⟨rfl, bnext L1.out (al0 _ _)⟩
set_option maxHeartbeats 1000000 in
theorem bad_4ffff {k : Int} {nm : List UInt8} (hk0 : 0 < k) (hk : k < 29) (HN : ∀ w, Calls Tryz.prog 67 #[.int .i64 k] w fun e w' => e = .returned (.agg #[.bool false, .bool false, .bool false, .bool false, .bool false]) ∧ Below w.heap.size w w') (hx : (bs nm).toList.isEmpty = false) (w : World) :
    Calls Tryz.prog 59 #[insV ⟨k, 0, 0, [], [], nm⟩] w fun e w' => e = .returned (.int .i64 1) ∧ Below w.heap.size w w' := by
  have hk1 : ¬ k < 1 := by omega
  have hk2 : ¬ 28 < k := by omega
  have z2 : (bs []).toList.isEmpty = true := by rw [ByteArray.toList_eq]; rfl
  have z3 : (bs []).toList.isEmpty = true := by rw [ByteArray.toList_eq]; rfl
  replace HN := Lib.hid HN
  clear hk0 hk
  unfold insV
  go_enter Tryz.func59, Tryz.ntmps59
  go_wp2_with (first
    | (go_at_call 67; (with_reducible refine (HN.out _).mono ?_); rintro e w1 ⟨rfl, b1⟩
       have BX1 := box_new ⟨k, 0, 0, [], [], nm⟩ _ _ rfl b1
       have L1 := Lib.hid BX1.2
       obtain ⟨q0, q1, q2, q3, q4, q5, q6⟩ := BX1.1
       clear BX1 b1))
  all_goals
    go_ret
    exact ⟨rfl, bnext L1.out (al0 _ _)⟩
set_option maxHeartbeats 1000000 in
theorem bad_4ffft {k : Int} {cl nm : List UInt8} (hk0 : 0 < k) (hk : k < 29) (HN : ∀ w, Calls Tryz.prog 67 #[.int .i64 k] w fun e w' => e = .returned (.agg #[.bool false, .bool false, .bool false, .bool true, .bool false]) ∧ Below w.heap.size w w') (hx : (bs nm).toList.isEmpty = false) (w : World) :
    Calls Tryz.prog 59 #[insV ⟨k, 0, 0, [], cl, nm⟩] w fun e w' => e = .returned (.int .i64 1) ∧ Below w.heap.size w w' := by
  have hk1 : ¬ k < 1 := by omega
  have hk2 : ¬ 28 < k := by omega
  have z2 : (bs []).toList.isEmpty = true := by rw [ByteArray.toList_eq]; rfl
  replace HN := Lib.hid HN
  clear hk0 hk
  unfold insV
  go_enter Tryz.func59, Tryz.ntmps59
  go_wp2_with (first
    | (go_at_call 67; (with_reducible refine (HN.out _).mono ?_); rintro e w1 ⟨rfl, b1⟩
       have BX1 := box_new ⟨k, 0, 0, [], cl, nm⟩ _ _ rfl b1
       have L1 := Lib.hid BX1.2
       obtain ⟨q0, q1, q2, q3, q4, q5, q6⟩ := BX1.1
       clear BX1 b1))
  all_goals
    go_ret
    exact ⟨rfl, bnext L1.out (al0 _ _)⟩
set_option maxHeartbeats 1000000 in
theorem bad_4fftf {k : Int} {ty nm : List UInt8} (hk0 : 0 < k) (hk : k < 29) (HN : ∀ w, Calls Tryz.prog 67 #[.int .i64 k] w fun e w' => e = .returned (.agg #[.bool false, .bool false, .bool true, .bool false, .bool false]) ∧ Below w.heap.size w w') (hx : (bs nm).toList.isEmpty = false) (w : World) :
    Calls Tryz.prog 59 #[insV ⟨k, 0, 0, ty, [], nm⟩] w fun e w' => e = .returned (.int .i64 1) ∧ Below w.heap.size w w' := by
  have hk1 : ¬ k < 1 := by omega
  have hk2 : ¬ 28 < k := by omega
  have z3 : (bs []).toList.isEmpty = true := by rw [ByteArray.toList_eq]; rfl
  replace HN := Lib.hid HN
  clear hk0 hk
  unfold insV
  go_enter Tryz.func59, Tryz.ntmps59
  go_wp2_with (first
    | (go_at_call 67; (with_reducible refine (HN.out _).mono ?_); rintro e w1 ⟨rfl, b1⟩
       have BX1 := box_new ⟨k, 0, 0, ty, [], nm⟩ _ _ rfl b1
       have L1 := Lib.hid BX1.2
       obtain ⟨q0, q1, q2, q3, q4, q5, q6⟩ := BX1.1
       clear BX1 b1))
  all_goals
    go_ret
    exact ⟨rfl, bnext L1.out (al0 _ _)⟩
set_option maxHeartbeats 1000000 in
theorem bad_4fftt {k : Int} {ty cl nm : List UInt8} (hk0 : 0 < k) (hk : k < 29) (HN : ∀ w, Calls Tryz.prog 67 #[.int .i64 k] w fun e w' => e = .returned (.agg #[.bool false, .bool false, .bool true, .bool true, .bool false]) ∧ Below w.heap.size w w') (hx : (bs nm).toList.isEmpty = false) (w : World) :
    Calls Tryz.prog 59 #[insV ⟨k, 0, 0, ty, cl, nm⟩] w fun e w' => e = .returned (.int .i64 1) ∧ Below w.heap.size w w' := by
  have hk1 : ¬ k < 1 := by omega
  have hk2 : ¬ 28 < k := by omega
  replace HN := Lib.hid HN
  clear hk0 hk
  unfold insV
  go_enter Tryz.func59, Tryz.ntmps59
  go_wp2_with (first
    | (go_at_call 67; (with_reducible refine (HN.out _).mono ?_); rintro e w1 ⟨rfl, b1⟩
       have BX1 := box_new ⟨k, 0, 0, ty, cl, nm⟩ _ _ rfl b1
       have L1 := Lib.hid BX1.2
       obtain ⟨q0, q1, q2, q3, q4, q5, q6⟩ := BX1.1
       clear BX1 b1))
  all_goals
    go_ret
    exact ⟨rfl, bnext L1.out (al0 _ _)⟩
set_option maxHeartbeats 1000000 in
theorem bad_4ftff {k : Int} {b : Int} {nm : List UInt8} (hk0 : 0 < k) (hk : k < 29) (HN : ∀ w, Calls Tryz.prog 67 #[.int .i64 k] w fun e w' => e = .returned (.agg #[.bool false, .bool true, .bool false, .bool false, .bool false]) ∧ Below w.heap.size w w') (hx : (bs nm).toList.isEmpty = false) (w : World) :
    Calls Tryz.prog 59 #[insV ⟨k, 0, b, [], [], nm⟩] w fun e w' => e = .returned (.int .i64 1) ∧ Below w.heap.size w w' := by
  have hk1 : ¬ k < 1 := by omega
  have hk2 : ¬ 28 < k := by omega
  have z2 : (bs []).toList.isEmpty = true := by rw [ByteArray.toList_eq]; rfl
  have z3 : (bs []).toList.isEmpty = true := by rw [ByteArray.toList_eq]; rfl
  replace HN := Lib.hid HN
  clear hk0 hk
  unfold insV
  go_enter Tryz.func59, Tryz.ntmps59
  go_wp2_with (first
    | (go_at_call 67; (with_reducible refine (HN.out _).mono ?_); rintro e w1 ⟨rfl, b1⟩
       have BX1 := box_new ⟨k, 0, b, [], [], nm⟩ _ _ rfl b1
       have L1 := Lib.hid BX1.2
       obtain ⟨q0, q1, q2, q3, q4, q5, q6⟩ := BX1.1
       clear BX1 b1))
  all_goals
    go_ret
    exact ⟨rfl, bnext L1.out (al0 _ _)⟩
set_option maxHeartbeats 1000000 in
theorem bad_4ftft {k : Int} {b : Int} {cl nm : List UInt8} (hk0 : 0 < k) (hk : k < 29) (HN : ∀ w, Calls Tryz.prog 67 #[.int .i64 k] w fun e w' => e = .returned (.agg #[.bool false, .bool true, .bool false, .bool true, .bool false]) ∧ Below w.heap.size w w') (hx : (bs nm).toList.isEmpty = false) (w : World) :
    Calls Tryz.prog 59 #[insV ⟨k, 0, b, [], cl, nm⟩] w fun e w' => e = .returned (.int .i64 1) ∧ Below w.heap.size w w' := by
  have hk1 : ¬ k < 1 := by omega
  have hk2 : ¬ 28 < k := by omega
  have z2 : (bs []).toList.isEmpty = true := by rw [ByteArray.toList_eq]; rfl
  replace HN := Lib.hid HN
  clear hk0 hk
  unfold insV
  go_enter Tryz.func59, Tryz.ntmps59
  go_wp2_with (first
    | (go_at_call 67; (with_reducible refine (HN.out _).mono ?_); rintro e w1 ⟨rfl, b1⟩
       have BX1 := box_new ⟨k, 0, b, [], cl, nm⟩ _ _ rfl b1
       have L1 := Lib.hid BX1.2
       obtain ⟨q0, q1, q2, q3, q4, q5, q6⟩ := BX1.1
       clear BX1 b1))
  all_goals
    go_ret
    exact ⟨rfl, bnext L1.out (al0 _ _)⟩
set_option maxHeartbeats 1000000 in
theorem bad_4fttf {k : Int} {b : Int} {ty nm : List UInt8} (hk0 : 0 < k) (hk : k < 29) (HN : ∀ w, Calls Tryz.prog 67 #[.int .i64 k] w fun e w' => e = .returned (.agg #[.bool false, .bool true, .bool true, .bool false, .bool false]) ∧ Below w.heap.size w w') (hx : (bs nm).toList.isEmpty = false) (w : World) :
    Calls Tryz.prog 59 #[insV ⟨k, 0, b, ty, [], nm⟩] w fun e w' => e = .returned (.int .i64 1) ∧ Below w.heap.size w w' := by
  have hk1 : ¬ k < 1 := by omega
  have hk2 : ¬ 28 < k := by omega
  have z3 : (bs []).toList.isEmpty = true := by rw [ByteArray.toList_eq]; rfl
  replace HN := Lib.hid HN
  clear hk0 hk
  unfold insV
  go_enter Tryz.func59, Tryz.ntmps59
  go_wp2_with (first
    | (go_at_call 67; (with_reducible refine (HN.out _).mono ?_); rintro e w1 ⟨rfl, b1⟩
       have BX1 := box_new ⟨k, 0, b, ty, [], nm⟩ _ _ rfl b1
       have L1 := Lib.hid BX1.2
       obtain ⟨q0, q1, q2, q3, q4, q5, q6⟩ := BX1.1
       clear BX1 b1))
  all_goals
    go_ret
    exact ⟨rfl, bnext L1.out (al0 _ _)⟩
set_option maxHeartbeats 1000000 in
theorem bad_4fttt {k : Int} {b : Int} {ty cl nm : List UInt8} (hk0 : 0 < k) (hk : k < 29) (HN : ∀ w, Calls Tryz.prog 67 #[.int .i64 k] w fun e w' => e = .returned (.agg #[.bool false, .bool true, .bool true, .bool true, .bool false]) ∧ Below w.heap.size w w') (hx : (bs nm).toList.isEmpty = false) (w : World) :
    Calls Tryz.prog 59 #[insV ⟨k, 0, b, ty, cl, nm⟩] w fun e w' => e = .returned (.int .i64 1) ∧ Below w.heap.size w w' := by
  have hk1 : ¬ k < 1 := by omega
  have hk2 : ¬ 28 < k := by omega
  replace HN := Lib.hid HN
  clear hk0 hk
  unfold insV
  go_enter Tryz.func59, Tryz.ntmps59
  go_wp2_with (first
    | (go_at_call 67; (with_reducible refine (HN.out _).mono ?_); rintro e w1 ⟨rfl, b1⟩
       have BX1 := box_new ⟨k, 0, b, ty, cl, nm⟩ _ _ rfl b1
       have L1 := Lib.hid BX1.2
       obtain ⟨q0, q1, q2, q3, q4, q5, q6⟩ := BX1.1
       clear BX1 b1))
  all_goals
    go_ret
    exact ⟨rfl, bnext L1.out (al0 _ _)⟩
set_option maxHeartbeats 1000000 in
theorem bad_4tfff {k : Int} {a : Int} {nm : List UInt8} (hk0 : 0 < k) (hk : k < 29) (HN : ∀ w, Calls Tryz.prog 67 #[.int .i64 k] w fun e w' => e = .returned (.agg #[.bool true, .bool false, .bool false, .bool false, .bool false]) ∧ Below w.heap.size w w') (hx : (bs nm).toList.isEmpty = false) (w : World) :
    Calls Tryz.prog 59 #[insV ⟨k, a, 0, [], [], nm⟩] w fun e w' => e = .returned (.int .i64 1) ∧ Below w.heap.size w w' := by
  have hk1 : ¬ k < 1 := by omega
  have hk2 : ¬ 28 < k := by omega
  have z2 : (bs []).toList.isEmpty = true := by rw [ByteArray.toList_eq]; rfl
  have z3 : (bs []).toList.isEmpty = true := by rw [ByteArray.toList_eq]; rfl
  replace HN := Lib.hid HN
  clear hk0 hk
  unfold insV
  go_enter Tryz.func59, Tryz.ntmps59
  go_wp2_with (first
    | (go_at_call 67; (with_reducible refine (HN.out _).mono ?_); rintro e w1 ⟨rfl, b1⟩
       have BX1 := box_new ⟨k, a, 0, [], [], nm⟩ _ _ rfl b1
       have L1 := Lib.hid BX1.2
       obtain ⟨q0, q1, q2, q3, q4, q5, q6⟩ := BX1.1
       clear BX1 b1))
  all_goals
    go_ret
    exact ⟨rfl, bnext L1.out (al0 _ _)⟩
set_option maxHeartbeats 1000000 in
theorem bad_4tfft {k : Int} {a : Int} {cl nm : List UInt8} (hk0 : 0 < k) (hk : k < 29) (HN : ∀ w, Calls Tryz.prog 67 #[.int .i64 k] w fun e w' => e = .returned (.agg #[.bool true, .bool false, .bool false, .bool true, .bool false]) ∧ Below w.heap.size w w') (hx : (bs nm).toList.isEmpty = false) (w : World) :
    Calls Tryz.prog 59 #[insV ⟨k, a, 0, [], cl, nm⟩] w fun e w' => e = .returned (.int .i64 1) ∧ Below w.heap.size w w' := by
  have hk1 : ¬ k < 1 := by omega
  have hk2 : ¬ 28 < k := by omega
  have z2 : (bs []).toList.isEmpty = true := by rw [ByteArray.toList_eq]; rfl
  replace HN := Lib.hid HN
  clear hk0 hk
  unfold insV
  go_enter Tryz.func59, Tryz.ntmps59
  go_wp2_with (first
    | (go_at_call 67; (with_reducible refine (HN.out _).mono ?_); rintro e w1 ⟨rfl, b1⟩
       have BX1 := box_new ⟨k, a, 0, [], cl, nm⟩ _ _ rfl b1
       have L1 := Lib.hid BX1.2
       obtain ⟨q0, q1, q2, q3, q4, q5, q6⟩ := BX1.1
       clear BX1 b1))
  all_goals
    go_ret
    exact ⟨rfl, bnext L1.out (al0 _ _)⟩
set_option maxHeartbeats 1000000 in
theorem bad_4tftf {k : Int} {a : Int} {ty nm : List UInt8} (hk0 : 0 < k) (hk : k < 29) (HN : ∀ w, Calls Tryz.prog 67 #[.int .i64 k] w fun e w' => e = .returned (.agg #[.bool true, .bool false, .bool true, .bool false, .bool false]) ∧ Below w.heap.size w w') (hx : (bs nm).toList.isEmpty = false) (w : World) :
    Calls Tryz.prog 59 #[insV ⟨k, a, 0, ty, [], nm⟩] w fun e w' => e = .returned (.int .i64 1) ∧ Below w.heap.size w w' := by
  have hk1 : ¬ k < 1 := by omega
  have hk2 : ¬ 28 < k := by omega
  have z3 : (bs []).toList.isEmpty = true := by rw [ByteArray.toList_eq]; rfl
  replace HN := Lib.hid HN
  clear hk0 hk
  unfold insV
  go_enter Tryz.func59, Tryz.ntmps59
  go_wp2_with (first
    | (go_at_call 67; (with_reducible refine (HN.out _).mono ?_); rintro e w1 ⟨rfl, b1⟩
       have BX1 := box_new ⟨k, a, 0, ty, [], nm⟩ _ _ rfl b1
       have L1 := Lib.hid BX1.2
       obtain ⟨q0, q1, q2, q3, q4, q5, q6⟩ := BX1.1
       clear BX1 b1))
  all_goals
    go_ret
    exact ⟨rfl, bnext L1.out (al0 _ _)⟩
set_option maxHeartbeats 1000000 in
theorem bad_4tftt {k : Int} {a : Int} {ty cl nm : List UInt8} (hk0 : 0 < k) (hk : k < 29) (HN : ∀ w, Calls Tryz.prog 67 #[.int .i64 k] w fun e w' => e = .returned (.agg #[.bool true, .bool false, .bool true, .bool true, .bool false]) ∧ Below w.heap.size w w') (hx : (bs nm).toList.isEmpty = false) (w : World) :
    Calls Tryz.prog 59 #[insV ⟨k, a, 0, ty, cl, nm⟩] w fun e w' => e = .returned (.int .i64 1) ∧ Below w.heap.size w w' := by
  have hk1 : ¬ k < 1 := by omega
  have hk2 : ¬ 28 < k := by omega
  replace HN := Lib.hid HN
  clear hk0 hk
  unfold insV
  go_enter Tryz.func59, Tryz.ntmps59
  go_wp2_with (first
    | (go_at_call 67; (with_reducible refine (HN.out _).mono ?_); rintro e w1 ⟨rfl, b1⟩
       have BX1 := box_new ⟨k, a, 0, ty, cl, nm⟩ _ _ rfl b1
       have L1 := Lib.hid BX1.2
       obtain ⟨q0, q1, q2, q3, q4, q5, q6⟩ := BX1.1
       clear BX1 b1))
  all_goals
    go_ret
    exact ⟨rfl, bnext L1.out (al0 _ _)⟩
set_option maxHeartbeats 1000000 in
theorem bad_4ttff {k : Int} {a b : Int} {nm : List UInt8} (hk0 : 0 < k) (hk : k < 29) (HN : ∀ w, Calls Tryz.prog 67 #[.int .i64 k] w fun e w' => e = .returned (.agg #[.bool true, .bool true, .bool false, .bool false, .bool false]) ∧ Below w.heap.size w w') (hx : (bs nm).toList.isEmpty = false) (w : World) :
    Calls Tryz.prog 59 #[insV ⟨k, a, b, [], [], nm⟩] w fun e w' => e = .returned (.int .i64 1) ∧ Below w.heap.size w w' := by
  have hk1 : ¬ k < 1 := by omega
  have hk2 : ¬ 28 < k := by omega
  have z2 : (bs []).toList.isEmpty = true := by rw [ByteArray.toList_eq]; rfl
  have z3 : (bs []).toList.isEmpty = true := by rw [ByteArray.toList_eq]; rfl
  replace HN := Lib.hid HN
  clear hk0 hk
  unfold insV
  go_enter Tryz.func59, Tryz.ntmps59
  go_wp2_with (first
    | (go_at_call 67; (with_reducible refine (HN.out _).mono ?_); rintro e w1 ⟨rfl, b1⟩
       have BX1 := box_new ⟨k, a, b, [], [], nm⟩ _ _ rfl b1
       have L1 := Lib.hid BX1.2
       obtain ⟨q0, q1, q2, q3, q4, q5, q6⟩ := BX1.1
       clear BX1 b1))
  all_goals
    go_ret
    exact ⟨rfl, bnext L1.out (al0 _ _)⟩
set_option maxHeartbeats 1000000 in
theorem bad_4ttft {k : Int} {a b : Int} {cl nm : List UInt8} (hk0 : 0 < k) (hk : k < 29) (HN : ∀ w, Calls Tryz.prog 67 #[.int .i64 k] w fun e w' => e = .returned (.agg #[.bool true, .bool true, .bool false, .bool true, .bool false]) ∧ Below w.heap.size w w') (hx : (bs nm).toList.isEmpty = false) (w : World) :
    Calls Tryz.prog 59 #[insV ⟨k, a, b, [], cl, nm⟩] w fun e w' => e = .returned (.int .i64 1) ∧ Below w.heap.size w w' := by
  have hk1 : ¬ k < 1 := by omega
  have hk2 : ¬ 28 < k := by omega
  have z2 : (bs []).toList.isEmpty = true := by rw [ByteArray.toList_eq]; rfl
  replace HN := Lib.hid HN
  clear hk0 hk
  unfold insV
  go_enter Tryz.func59, Tryz.ntmps59
  go_wp2_with (first
    | (go_at_call 67; (with_reducible refine (HN.out _).mono ?_); rintro e w1 ⟨rfl, b1⟩
       have BX1 := box_new ⟨k, a, b, [], cl, nm⟩ _ _ rfl b1
       have L1 := Lib.hid BX1.2
       obtain ⟨q0, q1, q2, q3, q4, q5, q6⟩ := BX1.1
       clear BX1 b1))
  all_goals
    go_ret
    exact ⟨rfl, bnext L1.out (al0 _ _)⟩
set_option maxHeartbeats 1000000 in
theorem bad_4tttf {k : Int} {a b : Int} {ty nm : List UInt8} (hk0 : 0 < k) (hk : k < 29) (HN : ∀ w, Calls Tryz.prog 67 #[.int .i64 k] w fun e w' => e = .returned (.agg #[.bool true, .bool true, .bool true, .bool false, .bool false]) ∧ Below w.heap.size w w') (hx : (bs nm).toList.isEmpty = false) (w : World) :
    Calls Tryz.prog 59 #[insV ⟨k, a, b, ty, [], nm⟩] w fun e w' => e = .returned (.int .i64 1) ∧ Below w.heap.size w w' := by
  have hk1 : ¬ k < 1 := by omega
  have hk2 : ¬ 28 < k := by omega
  have z3 : (bs []).toList.isEmpty = true := by rw [ByteArray.toList_eq]; rfl
  replace HN := Lib.hid HN
  clear hk0 hk
  unfold insV
  go_enter Tryz.func59, Tryz.ntmps59
  go_wp2_with (first
    | (go_at_call 67; (with_reducible refine (HN.out _).mono ?_); rintro e w1 ⟨rfl, b1⟩
       have BX1 := box_new ⟨k, a, b, ty, [], nm⟩ _ _ rfl b1
       have L1 := Lib.hid BX1.2
       obtain ⟨q0, q1, q2, q3, q4, q5, q6⟩ := BX1.1
       clear BX1 b1))
  all_goals
    go_ret
    exact ⟨rfl, bnext L1.out (al0 _ _)⟩
set_option maxHeartbeats 1000000 in
theorem bad_4tttt {k : Int} {a b : Int} {ty cl nm : List UInt8} (hk0 : 0 < k) (hk : k < 29) (HN : ∀ w, Calls Tryz.prog 67 #[.int .i64 k] w fun e w' => e = .returned (.agg #[.bool true, .bool true, .bool true, .bool true, .bool false]) ∧ Below w.heap.size w w') (hx : (bs nm).toList.isEmpty = false) (w : World) :
    Calls Tryz.prog 59 #[insV ⟨k, a, b, ty, cl, nm⟩] w fun e w' => e = .returned (.int .i64 1) ∧ Below w.heap.size w w' := by
  have hk1 : ¬ k < 1 := by omega
  have hk2 : ¬ 28 < k := by omega
  replace HN := Lib.hid HN
  clear hk0 hk
  unfold insV
  go_enter Tryz.func59, Tryz.ntmps59
  go_wp2_with (first
    | (go_at_call 67; (with_reducible refine (HN.out _).mono ?_); rintro e w1 ⟨rfl, b1⟩
       have BX1 := box_new ⟨k, a, b, ty, cl, nm⟩ _ _ rfl b1
       have L1 := Lib.hid BX1.2
       obtain ⟨q0, q1, q2, q3, q4, q5, q6⟩ := BX1.1
       clear BX1 b1))
  all_goals
    go_ret
    exact ⟨rfl, bnext L1.out (al0 _ _)⟩
theorem bad_any {k : Int} {b0 b1 b2 b3 b4 : Bool} {a b : Int} {ty cl nm : List UInt8} (hk0 : 0 < k) (hk : k < 29) (HN : ∀ w, Calls Tryz.prog 67 #[.int .i64 k] w fun e w' => e = .returned (.agg #[.bool b0, .bool b1, .bool b2, .bool b3, .bool b4]) ∧ Below w.heap.size w w')
    (ho : ((a == 0 || b0) && (b == 0 || b1) && (ty == [] || b2) && (cl == [] || b3) && (nm == [] || b4)) = false) (w : World) :
    Calls Tryz.prog 59 #[insV ⟨k, a, b, ty, cl, nm⟩] w fun e w' => e = .returned (.int .i64 1) ∧ Below w.heap.size w w' := by
  cases b0
  · by_cases hz : a = 0
    · subst hz
      cases b1
      · by_cases hz : b = 0
        · subst hz
          cases b2
          · by_cases hz : ty = []
            · subst hz
              cases b3
              · by_cases hz : cl = []
                · subst hz
                  cases b4
                  · by_cases hz : nm = []
                    · subst hz
                      simp at ho
                    · exact bad_4ffff hk0 hk HN (emptyB_ne hz) w
                  · simp at ho
                · exact bad_3fff hk0 hk HN (emptyB_ne hz) w
              · cases b4
                · by_cases hz : nm = []
                  · subst hz
                    simp at ho
                  · exact bad_4ffft hk0 hk HN (emptyB_ne hz) w
                · simp at ho
            · exact bad_2ff hk0 hk HN (emptyB_ne hz) w
          · cases b3
            · by_cases hz : cl = []
              · subst hz
                cases b4
                · by_cases hz : nm = []
                  · subst hz
                    simp at ho
                  · exact bad_4fftf hk0 hk HN (emptyB_ne hz) w
                · simp at ho
              · exact bad_3fft hk0 hk HN (emptyB_ne hz) w
            · cases b4
              · by_cases hz : nm = []
                · subst hz
                  simp at ho
                · exact bad_4fftt hk0 hk HN (emptyB_ne hz) w
              · simp at ho
        · exact bad_1f hk0 hk HN hz w
      · cases b2
        · by_cases hz : ty = []
          · subst hz
            cases b3
            · by_cases hz : cl = []
              · subst hz
                cases b4
                · by_cases hz : nm = []
                  · subst hz
                    simp at ho
                  · exact bad_4ftff hk0 hk HN (emptyB_ne hz) w
                · simp at ho
              · exact bad_3ftf hk0 hk HN (emptyB_ne hz) w
            · cases b4
              · by_cases hz : nm = []
                · subst hz
                  simp at ho
                · exact bad_4ftft hk0 hk HN (emptyB_ne hz) w
              · simp at ho
          · exact bad_2ft hk0 hk HN (emptyB_ne hz) w
        · cases b3
          · by_cases hz : cl = []
            · subst hz
              cases b4
              · by_cases hz : nm = []
                · subst hz
                  simp at ho
                · exact bad_4fttf hk0 hk HN (emptyB_ne hz) w
              · simp at ho
            · exact bad_3ftt hk0 hk HN (emptyB_ne hz) w
          · cases b4
            · by_cases hz : nm = []
              · subst hz
                simp at ho
              · exact bad_4fttt hk0 hk HN (emptyB_ne hz) w
            · simp at ho
    · exact bad_0 hk0 hk HN hz w
  · cases b1
    · by_cases hz : b = 0
      · subst hz
        cases b2
        · by_cases hz : ty = []
          · subst hz
            cases b3
            · by_cases hz : cl = []
              · subst hz
                cases b4
                · by_cases hz : nm = []
                  · subst hz
                    simp at ho
                  · exact bad_4tfff hk0 hk HN (emptyB_ne hz) w
                · simp at ho
              · exact bad_3tff hk0 hk HN (emptyB_ne hz) w
            · cases b4
              · by_cases hz : nm = []
                · subst hz
                  simp at ho
                · exact bad_4tfft hk0 hk HN (emptyB_ne hz) w
              · simp at ho
          · exact bad_2tf hk0 hk HN (emptyB_ne hz) w
        · cases b3
          · by_cases hz : cl = []
            · subst hz
              cases b4
              · by_cases hz : nm = []
                · subst hz
                  simp at ho
                · exact bad_4tftf hk0 hk HN (emptyB_ne hz) w
              · simp at ho
            · exact bad_3tft hk0 hk HN (emptyB_ne hz) w
          · cases b4
            · by_cases hz : nm = []
              · subst hz
                simp at ho
              · exact bad_4tftt hk0 hk HN (emptyB_ne hz) w
            · simp at ho
      · exact bad_1t hk0 hk HN hz w
    · cases b2
      · by_cases hz : ty = []
        · subst hz
          cases b3
          · by_cases hz : cl = []
            · subst hz
              cases b4
              · by_cases hz : nm = []
                · subst hz
                  simp at ho
                · exact bad_4ttff hk0 hk HN (emptyB_ne hz) w
              · simp at ho
            · exact bad_3ttf hk0 hk HN (emptyB_ne hz) w
          · cases b4
            · by_cases hz : nm = []
              · subst hz
                simp at ho
              · exact bad_4ttft hk0 hk HN (emptyB_ne hz) w
            · simp at ho
        · exact bad_2tt hk0 hk HN (emptyB_ne hz) w
      · cases b3
        · by_cases hz : cl = []
          · subst hz
            cases b4
            · by_cases hz : nm = []
              · subst hz
                simp at ho
              · exact bad_4tttf hk0 hk HN (emptyB_ne hz) w
            · simp at ho
          · exact bad_3ttt hk0 hk HN (emptyB_ne hz) w
        · cases b4
          · by_cases hz : nm = []
            · subst hz
              simp at ho
            · exact bad_4tttt hk0 hk HN (emptyB_ne hz) w
          · simp at ho
end Go.Proofs.YtkolpbjpgobkcaaGreatDoor
namespace Go.Proofs.YtkolpbjpgobkcaaGreatDoor
open Go.ChangeShapes Go.WideShapes Go.ChangeAt Go.RowKit
set_option linter.unusedVariables false
set_option linter.unusedSimpArgs false

theorem insF_at (k : Int) (a b : Int) (ty cl nm : List UInt8) (b0 b1 b2 b3 b4 : Bool) (hk0 : 0 < k) (hk : k < 29) (h : ((opF k.toNat).testBit 0, (opF k.toNat).testBit 1, (opF k.toNat).testBit 2, (opF k.toNat).testBit 3, (opF k.toNat).testBit 4) = (b0, b1, b2, b3, b4)) :
    insF ⟨k, a, b, ty, cl, nm⟩ = (if ((a == 0 || b0) && (b == 0 || b1) && (ty == [] || b2) && (cl == [] || b3) && (nm == [] || b4)) = false then 1 else if rangeB ⟨k, a, b, ty, cl, nm⟩ = false then 2
      else if (typedB ⟨k, a, b, ty, cl, nm⟩ && ((!b3 || nameB cl) && (!b4 || nameB nm))) = false then 1 else 0) := by
  simp only [Prod.mk.injEq] at h
  obtain ⟨rfl, rfl, rfl, rfl, rfl⟩ := h
  unfold insF
  rw [if_neg (by simp only; omega)]
  rfl
theorem ten_cells (w : World) (b0 b1 b2 b3 b4 : Bool) (t : TypeId) {wn : World} (hb : Below (w.alloc (.cells #[.bool b0, .bool b1, .bool b2, .bool b3, .bool b4] t)).heap.size (w.alloc (.cells #[.bool b0, .bool b1, .bool b2, .bool b3, .bool b4] t)) wn) :
    wn.cell? ⟨w.heap.size, 3, none⟩ = some (.bool b3) ∧ wn.cell? ⟨w.heap.size, 4, none⟩ = some (.bool b4) := by
  have hlt : w.heap.size < (w.alloc (.cells #[.bool b0, .bool b1, .bool b2, .bool b3, .bool b4] t)).heap.size := by simp
  refine ⟨?_, ?_⟩
  · rw [hb.cell (p := ⟨w.heap.size, 3, none⟩) hlt]; exact World.cell?_alloc_mark ..
  · rw [hb.cell (p := ⟨w.heap.size, 4, none⟩) hlt]; exact World.cell?_alloc_mark ..
theorem ret_i {a b : Int} (h : a = b) : Ending.returned (.int .i64 a) = .returned (.int .i64 b) := by rw [h]
set_option maxHeartbeats 2000000 in
theorem fault_1 (w : World) :
    Calls Tryz.prog 59 #[insV ⟨1, 0, 0, [], [], []⟩] w fun e w' => e = .returned (.int .i64 (insF ⟨1, 0, 0, [], [], []⟩ : Int)) ∧ Below w.heap.size w w' := by
  have E := Lib.hid (insF_at 1 0 0 [] [] [] false false false false false (by decide) (by decide) (by decide))
  have HN := Lib.hid needs_1
  have HW := Lib.hid (fun a w => word32_any a w)
  have HJ := Lib.hid (show ∀ w, Calls Tryz.prog 60 #[.int .i64 1] w fun e w' => e = .returned (.bool false) ∧ w = w' from fun w => by simpa using jumps_any 1 w)
  have HM := fun w => typeMay_any ⟨1, 0, 0, [], [], []⟩ w (by first | exact Nat.zero_le _ | exact ht)
  have z0 : (bs []).toList.isEmpty = true := by rw [ByteArray.toList_eq]; rfl
  unfold insV at *
  generalize typedB ⟨1, 0, 0, [], [], []⟩ = tb at *
  replace HM := Lib.hid HM
  go_enter Tryz.func59, Tryz.ntmps59
  go_wp2_with (first
    | (go_at_call 67; (with_reducible refine (HN.out _).mono ?_); rintro e w1 ⟨rfl, b1⟩
       have BX1 := box_new ⟨1, 0, 0, [], [], []⟩ _ _ rfl b1
       have B1 := Lib.hid BX1.1
       have L1 := Lib.hid BX1.2
       obtain ⟨q0, q1, q2, q3, q4, q5, q6⟩ := BX1.1
       clear BX1 b1)
    | (go_at_call 68; (with_reducible refine (HW.out _ _).mono ?_); rintro e w' ⟨rfl, rfl⟩)
    | (go_at_call 60; (with_reducible refine (HJ.out _).mono ?_); rintro e w' ⟨rfl, rfl⟩)
    | (go_at_call 69; (with_reducible refine (HM.out _).mono ?_); rintro e w2 ⟨rfl, b2⟩
       have L2 := Lib.hid (bnext (bnext L1.out (al0 _ _)) b2)
       have C2 := ten_cells _ _ _ _ _ _ _ b2
       have B2 := (B1.out.below (al0 _ _)).below b2
       obtain ⟨q0, q1, q2, q3, q4, q5, q6⟩ := B2
       obtain ⟨r3, r4⟩ := C2
       clear b2))
  all_goals
    go_ret
    refine ⟨ret_i ?_, ?_⟩
    · rw [E.out]
      clear E HN HW HJ HM 
      simp_all [rangeB, targetB, bs_list, ByteArray.toList_eq] <;> (repeat' split) <;> omega
    · first | with_reducible exact L2.out | with_reducible exact bnext L1.out (al0 _ _)
set_option maxHeartbeats 2000000 in
theorem fault_2 (a : Int) (ty : List UInt8) (w : World) (ht : ty.length ≤ 1048576) :
    Calls Tryz.prog 59 #[insV ⟨2, a, 0, ty, [], []⟩] w fun e w' => e = .returned (.int .i64 (insF ⟨2, a, 0, ty, [], []⟩ : Int)) ∧ Below w.heap.size w w' := by
  have E := Lib.hid (insF_at 2 a 0 ty [] [] true false true false false (by decide) (by decide) (by decide))
  have HN := Lib.hid needs_2
  have HW := Lib.hid (fun a w => word32_any a w)
  have HJ := Lib.hid (show ∀ w, Calls Tryz.prog 60 #[.int .i64 2] w fun e w' => e = .returned (.bool false) ∧ w = w' from fun w => by simpa using jumps_any 2 w)
  have HM := fun w => typeMay_any ⟨2, a, 0, ty, [], []⟩ w (by first | exact Nat.zero_le _ | exact ht)
  have z0 : (bs []).toList.isEmpty = true := by rw [ByteArray.toList_eq]; rfl
  unfold insV at *
  generalize typedB ⟨2, a, 0, ty, [], []⟩ = tb at *
  replace HM := Lib.hid HM
  clear ht
  go_enter Tryz.func59, Tryz.ntmps59
  go_wp2_with (first
    | (go_at_call 67; (with_reducible refine (HN.out _).mono ?_); rintro e w1 ⟨rfl, b1⟩
       have BX1 := box_new ⟨2, a, 0, ty, [], []⟩ _ _ rfl b1
       have B1 := Lib.hid BX1.1
       have L1 := Lib.hid BX1.2
       obtain ⟨q0, q1, q2, q3, q4, q5, q6⟩ := BX1.1
       clear BX1 b1)
    | (go_at_call 68; (with_reducible refine (HW.out _ _).mono ?_); rintro e w' ⟨rfl, rfl⟩)
    | (go_at_call 60; (with_reducible refine (HJ.out _).mono ?_); rintro e w' ⟨rfl, rfl⟩)
    | (go_at_call 69; (with_reducible refine (HM.out _).mono ?_); rintro e w2 ⟨rfl, b2⟩
       have L2 := Lib.hid (bnext (bnext L1.out (al0 _ _)) b2)
       have C2 := ten_cells _ _ _ _ _ _ _ b2
       have B2 := (B1.out.below (al0 _ _)).below b2
       obtain ⟨q0, q1, q2, q3, q4, q5, q6⟩ := B2
       obtain ⟨r3, r4⟩ := C2
       clear b2))
  all_goals
    go_ret
    refine ⟨ret_i ?_, ?_⟩
    · rw [E.out]
      clear E HN HW HJ HM 
      simp_all [rangeB, targetB, bs_list, ByteArray.toList_eq] <;> (repeat' split) <;> omega
    · first | with_reducible exact L2.out | with_reducible exact bnext L1.out (al0 _ _)
set_option maxHeartbeats 2000000 in
theorem fault_3 (w : World) :
    Calls Tryz.prog 59 #[insV ⟨3, 0, 0, [], [], []⟩] w fun e w' => e = .returned (.int .i64 (insF ⟨3, 0, 0, [], [], []⟩ : Int)) ∧ Below w.heap.size w w' := by
  have E := Lib.hid (insF_at 3 0 0 [] [] [] false false false false false (by decide) (by decide) (by decide))
  have HN := Lib.hid needs_3
  have HW := Lib.hid (fun a w => word32_any a w)
  have HJ := Lib.hid (show ∀ w, Calls Tryz.prog 60 #[.int .i64 3] w fun e w' => e = .returned (.bool false) ∧ w = w' from fun w => by simpa using jumps_any 3 w)
  have HM := fun w => typeMay_any ⟨3, 0, 0, [], [], []⟩ w (by first | exact Nat.zero_le _ | exact ht)
  have z0 : (bs []).toList.isEmpty = true := by rw [ByteArray.toList_eq]; rfl
  unfold insV at *
  generalize typedB ⟨3, 0, 0, [], [], []⟩ = tb at *
  replace HM := Lib.hid HM
  go_enter Tryz.func59, Tryz.ntmps59
  go_wp2_with (first
    | (go_at_call 67; (with_reducible refine (HN.out _).mono ?_); rintro e w1 ⟨rfl, b1⟩
       have BX1 := box_new ⟨3, 0, 0, [], [], []⟩ _ _ rfl b1
       have B1 := Lib.hid BX1.1
       have L1 := Lib.hid BX1.2
       obtain ⟨q0, q1, q2, q3, q4, q5, q6⟩ := BX1.1
       clear BX1 b1)
    | (go_at_call 68; (with_reducible refine (HW.out _ _).mono ?_); rintro e w' ⟨rfl, rfl⟩)
    | (go_at_call 60; (with_reducible refine (HJ.out _).mono ?_); rintro e w' ⟨rfl, rfl⟩)
    | (go_at_call 69; (with_reducible refine (HM.out _).mono ?_); rintro e w2 ⟨rfl, b2⟩
       have L2 := Lib.hid (bnext (bnext L1.out (al0 _ _)) b2)
       have C2 := ten_cells _ _ _ _ _ _ _ b2
       have B2 := (B1.out.below (al0 _ _)).below b2
       obtain ⟨q0, q1, q2, q3, q4, q5, q6⟩ := B2
       obtain ⟨r3, r4⟩ := C2
       clear b2))
  all_goals
    go_ret
    refine ⟨ret_i ?_, ?_⟩
    · rw [E.out]
      clear E HN HW HJ HM 
      simp_all [rangeB, targetB, bs_list, ByteArray.toList_eq] <;> (repeat' split) <;> omega
    · first | with_reducible exact L2.out | with_reducible exact bnext L1.out (al0 _ _)
set_option maxHeartbeats 2000000 in
theorem fault_4 (a : Int) (w : World) :
    Calls Tryz.prog 59 #[insV ⟨4, a, 0, [], [], []⟩] w fun e w' => e = .returned (.int .i64 (insF ⟨4, a, 0, [], [], []⟩ : Int)) ∧ Below w.heap.size w w' := by
  have E := Lib.hid (insF_at 4 a 0 [] [] [] true false false false false (by decide) (by decide) (by decide))
  have HN := Lib.hid needs_4
  have HW := Lib.hid (fun a w => word32_any a w)
  have HJ := Lib.hid (show ∀ w, Calls Tryz.prog 60 #[.int .i64 4] w fun e w' => e = .returned (.bool false) ∧ w = w' from fun w => by simpa using jumps_any 4 w)
  have HM := fun w => typeMay_any ⟨4, a, 0, [], [], []⟩ w (by first | exact Nat.zero_le _ | exact ht)
  have z0 : (bs []).toList.isEmpty = true := by rw [ByteArray.toList_eq]; rfl
  unfold insV at *
  generalize typedB ⟨4, a, 0, [], [], []⟩ = tb at *
  replace HM := Lib.hid HM
  go_enter Tryz.func59, Tryz.ntmps59
  go_wp2_with (first
    | (go_at_call 67; (with_reducible refine (HN.out _).mono ?_); rintro e w1 ⟨rfl, b1⟩
       have BX1 := box_new ⟨4, a, 0, [], [], []⟩ _ _ rfl b1
       have B1 := Lib.hid BX1.1
       have L1 := Lib.hid BX1.2
       obtain ⟨q0, q1, q2, q3, q4, q5, q6⟩ := BX1.1
       clear BX1 b1)
    | (go_at_call 68; (with_reducible refine (HW.out _ _).mono ?_); rintro e w' ⟨rfl, rfl⟩)
    | (go_at_call 60; (with_reducible refine (HJ.out _).mono ?_); rintro e w' ⟨rfl, rfl⟩)
    | (go_at_call 69; (with_reducible refine (HM.out _).mono ?_); rintro e w2 ⟨rfl, b2⟩
       have L2 := Lib.hid (bnext (bnext L1.out (al0 _ _)) b2)
       have C2 := ten_cells _ _ _ _ _ _ _ b2
       have B2 := (B1.out.below (al0 _ _)).below b2
       obtain ⟨q0, q1, q2, q3, q4, q5, q6⟩ := B2
       obtain ⟨r3, r4⟩ := C2
       clear b2))
  all_goals
    go_ret
    refine ⟨ret_i ?_, ?_⟩
    · rw [E.out]
      clear E HN HW HJ HM 
      simp_all [rangeB, targetB, bs_list, ByteArray.toList_eq] <;> (repeat' split) <;> omega
    · first | with_reducible exact L2.out | with_reducible exact bnext L1.out (al0 _ _)
set_option maxHeartbeats 2000000 in
theorem fault_5 (a : Int) (w : World) :
    Calls Tryz.prog 59 #[insV ⟨5, a, 0, [], [], []⟩] w fun e w' => e = .returned (.int .i64 (insF ⟨5, a, 0, [], [], []⟩ : Int)) ∧ Below w.heap.size w w' := by
  have E := Lib.hid (insF_at 5 a 0 [] [] [] true false false false false (by decide) (by decide) (by decide))
  have HN := Lib.hid needs_5
  have HW := Lib.hid (fun a w => word32_any a w)
  have HJ := Lib.hid (show ∀ w, Calls Tryz.prog 60 #[.int .i64 5] w fun e w' => e = .returned (.bool false) ∧ w = w' from fun w => by simpa using jumps_any 5 w)
  have HM := fun w => typeMay_any ⟨5, a, 0, [], [], []⟩ w (by first | exact Nat.zero_le _ | exact ht)
  have z0 : (bs []).toList.isEmpty = true := by rw [ByteArray.toList_eq]; rfl
  unfold insV at *
  generalize typedB ⟨5, a, 0, [], [], []⟩ = tb at *
  replace HM := Lib.hid HM
  go_enter Tryz.func59, Tryz.ntmps59
  go_wp2_with (first
    | (go_at_call 67; (with_reducible refine (HN.out _).mono ?_); rintro e w1 ⟨rfl, b1⟩
       have BX1 := box_new ⟨5, a, 0, [], [], []⟩ _ _ rfl b1
       have B1 := Lib.hid BX1.1
       have L1 := Lib.hid BX1.2
       obtain ⟨q0, q1, q2, q3, q4, q5, q6⟩ := BX1.1
       clear BX1 b1)
    | (go_at_call 68; (with_reducible refine (HW.out _ _).mono ?_); rintro e w' ⟨rfl, rfl⟩)
    | (go_at_call 60; (with_reducible refine (HJ.out _).mono ?_); rintro e w' ⟨rfl, rfl⟩)
    | (go_at_call 69; (with_reducible refine (HM.out _).mono ?_); rintro e w2 ⟨rfl, b2⟩
       have L2 := Lib.hid (bnext (bnext L1.out (al0 _ _)) b2)
       have C2 := ten_cells _ _ _ _ _ _ _ b2
       have B2 := (B1.out.below (al0 _ _)).below b2
       obtain ⟨q0, q1, q2, q3, q4, q5, q6⟩ := B2
       obtain ⟨r3, r4⟩ := C2
       clear b2))
  all_goals
    go_ret
    refine ⟨ret_i ?_, ?_⟩
    · rw [E.out]
      clear E HN HW HJ HM 
      simp_all [rangeB, targetB, bs_list, ByteArray.toList_eq] <;> (repeat' split) <;> omega
    · first | with_reducible exact L2.out | with_reducible exact bnext L1.out (al0 _ _)
set_option maxHeartbeats 2000000 in
theorem fault_6 (w : World) :
    Calls Tryz.prog 59 #[insV ⟨6, 0, 0, [], [], []⟩] w fun e w' => e = .returned (.int .i64 (insF ⟨6, 0, 0, [], [], []⟩ : Int)) ∧ Below w.heap.size w w' := by
  have E := Lib.hid (insF_at 6 0 0 [] [] [] false false false false false (by decide) (by decide) (by decide))
  have HN := Lib.hid needs_6
  have HW := Lib.hid (fun a w => word32_any a w)
  have HJ := Lib.hid (show ∀ w, Calls Tryz.prog 60 #[.int .i64 6] w fun e w' => e = .returned (.bool false) ∧ w = w' from fun w => by simpa using jumps_any 6 w)
  have HM := fun w => typeMay_any ⟨6, 0, 0, [], [], []⟩ w (by first | exact Nat.zero_le _ | exact ht)
  have z0 : (bs []).toList.isEmpty = true := by rw [ByteArray.toList_eq]; rfl
  unfold insV at *
  generalize typedB ⟨6, 0, 0, [], [], []⟩ = tb at *
  replace HM := Lib.hid HM
  go_enter Tryz.func59, Tryz.ntmps59
  go_wp2_with (first
    | (go_at_call 67; (with_reducible refine (HN.out _).mono ?_); rintro e w1 ⟨rfl, b1⟩
       have BX1 := box_new ⟨6, 0, 0, [], [], []⟩ _ _ rfl b1
       have B1 := Lib.hid BX1.1
       have L1 := Lib.hid BX1.2
       obtain ⟨q0, q1, q2, q3, q4, q5, q6⟩ := BX1.1
       clear BX1 b1)
    | (go_at_call 68; (with_reducible refine (HW.out _ _).mono ?_); rintro e w' ⟨rfl, rfl⟩)
    | (go_at_call 60; (with_reducible refine (HJ.out _).mono ?_); rintro e w' ⟨rfl, rfl⟩)
    | (go_at_call 69; (with_reducible refine (HM.out _).mono ?_); rintro e w2 ⟨rfl, b2⟩
       have L2 := Lib.hid (bnext (bnext L1.out (al0 _ _)) b2)
       have C2 := ten_cells _ _ _ _ _ _ _ b2
       have B2 := (B1.out.below (al0 _ _)).below b2
       obtain ⟨q0, q1, q2, q3, q4, q5, q6⟩ := B2
       obtain ⟨r3, r4⟩ := C2
       clear b2))
  all_goals
    go_ret
    refine ⟨ret_i ?_, ?_⟩
    · rw [E.out]
      clear E HN HW HJ HM 
      simp_all [rangeB, targetB, bs_list, ByteArray.toList_eq] <;> (repeat' split) <;> omega
    · first | with_reducible exact L2.out | with_reducible exact bnext L1.out (al0 _ _)
set_option maxHeartbeats 2000000 in
theorem fault_7 (w : World) :
    Calls Tryz.prog 59 #[insV ⟨7, 0, 0, [], [], []⟩] w fun e w' => e = .returned (.int .i64 (insF ⟨7, 0, 0, [], [], []⟩ : Int)) ∧ Below w.heap.size w w' := by
  have E := Lib.hid (insF_at 7 0 0 [] [] [] false false false false false (by decide) (by decide) (by decide))
  have HN := Lib.hid needs_7
  have HW := Lib.hid (fun a w => word32_any a w)
  have HJ := Lib.hid (show ∀ w, Calls Tryz.prog 60 #[.int .i64 7] w fun e w' => e = .returned (.bool false) ∧ w = w' from fun w => by simpa using jumps_any 7 w)
  have HM := fun w => typeMay_any ⟨7, 0, 0, [], [], []⟩ w (by first | exact Nat.zero_le _ | exact ht)
  have z0 : (bs []).toList.isEmpty = true := by rw [ByteArray.toList_eq]; rfl
  unfold insV at *
  generalize typedB ⟨7, 0, 0, [], [], []⟩ = tb at *
  replace HM := Lib.hid HM
  go_enter Tryz.func59, Tryz.ntmps59
  go_wp2_with (first
    | (go_at_call 67; (with_reducible refine (HN.out _).mono ?_); rintro e w1 ⟨rfl, b1⟩
       have BX1 := box_new ⟨7, 0, 0, [], [], []⟩ _ _ rfl b1
       have B1 := Lib.hid BX1.1
       have L1 := Lib.hid BX1.2
       obtain ⟨q0, q1, q2, q3, q4, q5, q6⟩ := BX1.1
       clear BX1 b1)
    | (go_at_call 68; (with_reducible refine (HW.out _ _).mono ?_); rintro e w' ⟨rfl, rfl⟩)
    | (go_at_call 60; (with_reducible refine (HJ.out _).mono ?_); rintro e w' ⟨rfl, rfl⟩)
    | (go_at_call 69; (with_reducible refine (HM.out _).mono ?_); rintro e w2 ⟨rfl, b2⟩
       have L2 := Lib.hid (bnext (bnext L1.out (al0 _ _)) b2)
       have C2 := ten_cells _ _ _ _ _ _ _ b2
       have B2 := (B1.out.below (al0 _ _)).below b2
       obtain ⟨q0, q1, q2, q3, q4, q5, q6⟩ := B2
       obtain ⟨r3, r4⟩ := C2
       clear b2))
  all_goals
    go_ret
    refine ⟨ret_i ?_, ?_⟩
    · rw [E.out]
      clear E HN HW HJ HM 
      simp_all [rangeB, targetB, bs_list, ByteArray.toList_eq] <;> (repeat' split) <;> omega
    · first | with_reducible exact L2.out | with_reducible exact bnext L1.out (al0 _ _)
set_option maxHeartbeats 2000000 in
theorem fault_8 (w : World) :
    Calls Tryz.prog 59 #[insV ⟨8, 0, 0, [], [], []⟩] w fun e w' => e = .returned (.int .i64 (insF ⟨8, 0, 0, [], [], []⟩ : Int)) ∧ Below w.heap.size w w' := by
  have E := Lib.hid (insF_at 8 0 0 [] [] [] false false false false false (by decide) (by decide) (by decide))
  have HN := Lib.hid needs_8
  have HW := Lib.hid (fun a w => word32_any a w)
  have HJ := Lib.hid (show ∀ w, Calls Tryz.prog 60 #[.int .i64 8] w fun e w' => e = .returned (.bool false) ∧ w = w' from fun w => by simpa using jumps_any 8 w)
  have HM := fun w => typeMay_any ⟨8, 0, 0, [], [], []⟩ w (by first | exact Nat.zero_le _ | exact ht)
  have z0 : (bs []).toList.isEmpty = true := by rw [ByteArray.toList_eq]; rfl
  unfold insV at *
  generalize typedB ⟨8, 0, 0, [], [], []⟩ = tb at *
  replace HM := Lib.hid HM
  go_enter Tryz.func59, Tryz.ntmps59
  go_wp2_with (first
    | (go_at_call 67; (with_reducible refine (HN.out _).mono ?_); rintro e w1 ⟨rfl, b1⟩
       have BX1 := box_new ⟨8, 0, 0, [], [], []⟩ _ _ rfl b1
       have B1 := Lib.hid BX1.1
       have L1 := Lib.hid BX1.2
       obtain ⟨q0, q1, q2, q3, q4, q5, q6⟩ := BX1.1
       clear BX1 b1)
    | (go_at_call 68; (with_reducible refine (HW.out _ _).mono ?_); rintro e w' ⟨rfl, rfl⟩)
    | (go_at_call 60; (with_reducible refine (HJ.out _).mono ?_); rintro e w' ⟨rfl, rfl⟩)
    | (go_at_call 69; (with_reducible refine (HM.out _).mono ?_); rintro e w2 ⟨rfl, b2⟩
       have L2 := Lib.hid (bnext (bnext L1.out (al0 _ _)) b2)
       have C2 := ten_cells _ _ _ _ _ _ _ b2
       have B2 := (B1.out.below (al0 _ _)).below b2
       obtain ⟨q0, q1, q2, q3, q4, q5, q6⟩ := B2
       obtain ⟨r3, r4⟩ := C2
       clear b2))
  all_goals
    go_ret
    refine ⟨ret_i ?_, ?_⟩
    · rw [E.out]
      clear E HN HW HJ HM 
      simp_all [rangeB, targetB, bs_list, ByteArray.toList_eq] <;> (repeat' split) <;> omega
    · first | with_reducible exact L2.out | with_reducible exact bnext L1.out (al0 _ _)
set_option maxHeartbeats 2000000 in
theorem fault_9 (a : Int) (ty : List UInt8) (w : World) (ht : ty.length ≤ 1048576) :
    Calls Tryz.prog 59 #[insV ⟨9, a, 0, ty, [], []⟩] w fun e w' => e = .returned (.int .i64 (insF ⟨9, a, 0, ty, [], []⟩ : Int)) ∧ Below w.heap.size w w' := by
  have E := Lib.hid (insF_at 9 a 0 ty [] [] true false true false false (by decide) (by decide) (by decide))
  have HN := Lib.hid needs_9
  have HW := Lib.hid (fun a w => word32_any a w)
  have HJ := Lib.hid (show ∀ w, Calls Tryz.prog 60 #[.int .i64 9] w fun e w' => e = .returned (.bool false) ∧ w = w' from fun w => by simpa using jumps_any 9 w)
  have HM := fun w => typeMay_any ⟨9, a, 0, ty, [], []⟩ w (by first | exact Nat.zero_le _ | exact ht)
  have z0 : (bs []).toList.isEmpty = true := by rw [ByteArray.toList_eq]; rfl
  unfold insV at *
  generalize typedB ⟨9, a, 0, ty, [], []⟩ = tb at *
  replace HM := Lib.hid HM
  clear ht
  go_enter Tryz.func59, Tryz.ntmps59
  go_wp2_with (first
    | (go_at_call 67; (with_reducible refine (HN.out _).mono ?_); rintro e w1 ⟨rfl, b1⟩
       have BX1 := box_new ⟨9, a, 0, ty, [], []⟩ _ _ rfl b1
       have B1 := Lib.hid BX1.1
       have L1 := Lib.hid BX1.2
       obtain ⟨q0, q1, q2, q3, q4, q5, q6⟩ := BX1.1
       clear BX1 b1)
    | (go_at_call 68; (with_reducible refine (HW.out _ _).mono ?_); rintro e w' ⟨rfl, rfl⟩)
    | (go_at_call 60; (with_reducible refine (HJ.out _).mono ?_); rintro e w' ⟨rfl, rfl⟩)
    | (go_at_call 69; (with_reducible refine (HM.out _).mono ?_); rintro e w2 ⟨rfl, b2⟩
       have L2 := Lib.hid (bnext (bnext L1.out (al0 _ _)) b2)
       have C2 := ten_cells _ _ _ _ _ _ _ b2
       have B2 := (B1.out.below (al0 _ _)).below b2
       obtain ⟨q0, q1, q2, q3, q4, q5, q6⟩ := B2
       obtain ⟨r3, r4⟩ := C2
       clear b2))
  all_goals
    go_ret
    refine ⟨ret_i ?_, ?_⟩
    · rw [E.out]
      clear E HN HW HJ HM 
      simp_all [rangeB, targetB, bs_list, ByteArray.toList_eq] <;> (repeat' split) <;> omega
    · first | with_reducible exact L2.out | with_reducible exact bnext L1.out (al0 _ _)
set_option maxHeartbeats 2000000 in
theorem fault_10 (ty : List UInt8) (w : World) (ht : ty.length ≤ 1048576) :
    Calls Tryz.prog 59 #[insV ⟨10, 0, 0, ty, [], []⟩] w fun e w' => e = .returned (.int .i64 (insF ⟨10, 0, 0, ty, [], []⟩ : Int)) ∧ Below w.heap.size w w' := by
  have E := Lib.hid (insF_at 10 0 0 ty [] [] false false true false false (by decide) (by decide) (by decide))
  have HN := Lib.hid needs_10
  have HW := Lib.hid (fun a w => word32_any a w)
  have HJ := Lib.hid (show ∀ w, Calls Tryz.prog 60 #[.int .i64 10] w fun e w' => e = .returned (.bool false) ∧ w = w' from fun w => by simpa using jumps_any 10 w)
  have HM := fun w => typeMay_any ⟨10, 0, 0, ty, [], []⟩ w (by first | exact Nat.zero_le _ | exact ht)
  have z0 : (bs []).toList.isEmpty = true := by rw [ByteArray.toList_eq]; rfl
  unfold insV at *
  generalize typedB ⟨10, 0, 0, ty, [], []⟩ = tb at *
  replace HM := Lib.hid HM
  clear ht
  go_enter Tryz.func59, Tryz.ntmps59
  go_wp2_with (first
    | (go_at_call 67; (with_reducible refine (HN.out _).mono ?_); rintro e w1 ⟨rfl, b1⟩
       have BX1 := box_new ⟨10, 0, 0, ty, [], []⟩ _ _ rfl b1
       have B1 := Lib.hid BX1.1
       have L1 := Lib.hid BX1.2
       obtain ⟨q0, q1, q2, q3, q4, q5, q6⟩ := BX1.1
       clear BX1 b1)
    | (go_at_call 68; (with_reducible refine (HW.out _ _).mono ?_); rintro e w' ⟨rfl, rfl⟩)
    | (go_at_call 60; (with_reducible refine (HJ.out _).mono ?_); rintro e w' ⟨rfl, rfl⟩)
    | (go_at_call 69; (with_reducible refine (HM.out _).mono ?_); rintro e w2 ⟨rfl, b2⟩
       have L2 := Lib.hid (bnext (bnext L1.out (al0 _ _)) b2)
       have C2 := ten_cells _ _ _ _ _ _ _ b2
       have B2 := (B1.out.below (al0 _ _)).below b2
       obtain ⟨q0, q1, q2, q3, q4, q5, q6⟩ := B2
       obtain ⟨r3, r4⟩ := C2
       clear b2))
  all_goals
    go_ret
    refine ⟨ret_i ?_, ?_⟩
    · rw [E.out]
      clear E HN HW HJ HM 
      simp_all [rangeB, targetB, bs_list, ByteArray.toList_eq] <;> (repeat' split) <;> omega
    · first | with_reducible exact L2.out | with_reducible exact bnext L1.out (al0 _ _)
set_option maxHeartbeats 2000000 in
theorem fault_11 (w : World) :
    Calls Tryz.prog 59 #[insV ⟨11, 0, 0, [], [], []⟩] w fun e w' => e = .returned (.int .i64 (insF ⟨11, 0, 0, [], [], []⟩ : Int)) ∧ Below w.heap.size w w' := by
  have E := Lib.hid (insF_at 11 0 0 [] [] [] false false false false false (by decide) (by decide) (by decide))
  have HN := Lib.hid needs_11
  have HW := Lib.hid (fun a w => word32_any a w)
  have HJ := Lib.hid (show ∀ w, Calls Tryz.prog 60 #[.int .i64 11] w fun e w' => e = .returned (.bool false) ∧ w = w' from fun w => by simpa using jumps_any 11 w)
  have HM := fun w => typeMay_any ⟨11, 0, 0, [], [], []⟩ w (by first | exact Nat.zero_le _ | exact ht)
  have z0 : (bs []).toList.isEmpty = true := by rw [ByteArray.toList_eq]; rfl
  unfold insV at *
  generalize typedB ⟨11, 0, 0, [], [], []⟩ = tb at *
  replace HM := Lib.hid HM
  go_enter Tryz.func59, Tryz.ntmps59
  go_wp2_with (first
    | (go_at_call 67; (with_reducible refine (HN.out _).mono ?_); rintro e w1 ⟨rfl, b1⟩
       have BX1 := box_new ⟨11, 0, 0, [], [], []⟩ _ _ rfl b1
       have B1 := Lib.hid BX1.1
       have L1 := Lib.hid BX1.2
       obtain ⟨q0, q1, q2, q3, q4, q5, q6⟩ := BX1.1
       clear BX1 b1)
    | (go_at_call 68; (with_reducible refine (HW.out _ _).mono ?_); rintro e w' ⟨rfl, rfl⟩)
    | (go_at_call 60; (with_reducible refine (HJ.out _).mono ?_); rintro e w' ⟨rfl, rfl⟩)
    | (go_at_call 69; (with_reducible refine (HM.out _).mono ?_); rintro e w2 ⟨rfl, b2⟩
       have L2 := Lib.hid (bnext (bnext L1.out (al0 _ _)) b2)
       have C2 := ten_cells _ _ _ _ _ _ _ b2
       have B2 := (B1.out.below (al0 _ _)).below b2
       obtain ⟨q0, q1, q2, q3, q4, q5, q6⟩ := B2
       obtain ⟨r3, r4⟩ := C2
       clear b2))
  all_goals
    go_ret
    refine ⟨ret_i ?_, ?_⟩
    · rw [E.out]
      clear E HN HW HJ HM 
      simp_all [rangeB, targetB, bs_list, ByteArray.toList_eq] <;> (repeat' split) <;> omega
    · first | with_reducible exact L2.out | with_reducible exact bnext L1.out (al0 _ _)
set_option maxHeartbeats 2000000 in
theorem fault_12 (a b : Int) (w : World) :
    Calls Tryz.prog 59 #[insV ⟨12, a, b, [], [], []⟩] w fun e w' => e = .returned (.int .i64 (insF ⟨12, a, b, [], [], []⟩ : Int)) ∧ Below w.heap.size w w' := by
  have E := Lib.hid (insF_at 12 a b [] [] [] true true false false false (by decide) (by decide) (by decide))
  have HN := Lib.hid needs_12
  have HW := Lib.hid (fun a w => word32_any a w)
  have HJ := Lib.hid (show ∀ w, Calls Tryz.prog 60 #[.int .i64 12] w fun e w' => e = .returned (.bool true) ∧ w = w' from fun w => by simpa using jumps_any 12 w)
  have HM := fun w => typeMay_any ⟨12, a, b, [], [], []⟩ w (by first | exact Nat.zero_le _ | exact ht)
  have z0 : (bs []).toList.isEmpty = true := by rw [ByteArray.toList_eq]; rfl
  unfold insV at *
  generalize typedB ⟨12, a, b, [], [], []⟩ = tb at *
  replace HM := Lib.hid HM
  go_enter Tryz.func59, Tryz.ntmps59
  go_wp2_with (first
    | (go_at_call 67; (with_reducible refine (HN.out _).mono ?_); rintro e w1 ⟨rfl, b1⟩
       have BX1 := box_new ⟨12, a, b, [], [], []⟩ _ _ rfl b1
       have B1 := Lib.hid BX1.1
       have L1 := Lib.hid BX1.2
       obtain ⟨q0, q1, q2, q3, q4, q5, q6⟩ := BX1.1
       clear BX1 b1)
    | (go_at_call 68; (with_reducible refine (HW.out _ _).mono ?_); rintro e w' ⟨rfl, rfl⟩)
    | (go_at_call 60; (with_reducible refine (HJ.out _).mono ?_); rintro e w' ⟨rfl, rfl⟩)
    | (go_at_call 69; (with_reducible refine (HM.out _).mono ?_); rintro e w2 ⟨rfl, b2⟩
       have L2 := Lib.hid (bnext (bnext L1.out (al0 _ _)) b2)
       have C2 := ten_cells _ _ _ _ _ _ _ b2
       have B2 := (B1.out.below (al0 _ _)).below b2
       obtain ⟨q0, q1, q2, q3, q4, q5, q6⟩ := B2
       obtain ⟨r3, r4⟩ := C2
       clear b2))
  all_goals
    go_ret
    refine ⟨ret_i ?_, ?_⟩
    · rw [E.out]
      clear E HN HW HJ HM 
      simp_all [rangeB, targetB, bs_list, ByteArray.toList_eq] <;> (repeat' split) <;> omega
    · first | with_reducible exact L2.out | with_reducible exact bnext L1.out (al0 _ _)
set_option maxHeartbeats 2000000 in
theorem fault_13 (a : Int) (w : World) :
    Calls Tryz.prog 59 #[insV ⟨13, a, 0, [], [], []⟩] w fun e w' => e = .returned (.int .i64 (insF ⟨13, a, 0, [], [], []⟩ : Int)) ∧ Below w.heap.size w w' := by
  have E := Lib.hid (insF_at 13 a 0 [] [] [] true false false false false (by decide) (by decide) (by decide))
  have HN := Lib.hid needs_13
  have HW := Lib.hid (fun a w => word32_any a w)
  have HJ := Lib.hid (show ∀ w, Calls Tryz.prog 60 #[.int .i64 13] w fun e w' => e = .returned (.bool true) ∧ w = w' from fun w => by simpa using jumps_any 13 w)
  have HM := fun w => typeMay_any ⟨13, a, 0, [], [], []⟩ w (by first | exact Nat.zero_le _ | exact ht)
  have z0 : (bs []).toList.isEmpty = true := by rw [ByteArray.toList_eq]; rfl
  unfold insV at *
  generalize typedB ⟨13, a, 0, [], [], []⟩ = tb at *
  replace HM := Lib.hid HM
  go_enter Tryz.func59, Tryz.ntmps59
  go_wp2_with (first
    | (go_at_call 67; (with_reducible refine (HN.out _).mono ?_); rintro e w1 ⟨rfl, b1⟩
       have BX1 := box_new ⟨13, a, 0, [], [], []⟩ _ _ rfl b1
       have B1 := Lib.hid BX1.1
       have L1 := Lib.hid BX1.2
       obtain ⟨q0, q1, q2, q3, q4, q5, q6⟩ := BX1.1
       clear BX1 b1)
    | (go_at_call 68; (with_reducible refine (HW.out _ _).mono ?_); rintro e w' ⟨rfl, rfl⟩)
    | (go_at_call 60; (with_reducible refine (HJ.out _).mono ?_); rintro e w' ⟨rfl, rfl⟩)
    | (go_at_call 69; (with_reducible refine (HM.out _).mono ?_); rintro e w2 ⟨rfl, b2⟩
       have L2 := Lib.hid (bnext (bnext L1.out (al0 _ _)) b2)
       have C2 := ten_cells _ _ _ _ _ _ _ b2
       have B2 := (B1.out.below (al0 _ _)).below b2
       obtain ⟨q0, q1, q2, q3, q4, q5, q6⟩ := B2
       obtain ⟨r3, r4⟩ := C2
       clear b2))
  all_goals
    go_ret
    refine ⟨ret_i ?_, ?_⟩
    · rw [E.out]
      clear E HN HW HJ HM 
      simp_all [rangeB, targetB, bs_list, ByteArray.toList_eq] <;> (repeat' split) <;> omega
    · first | with_reducible exact L2.out | with_reducible exact bnext L1.out (al0 _ _)
set_option maxHeartbeats 2000000 in
theorem fault_14 (a : Int) (w : World) :
    Calls Tryz.prog 59 #[insV ⟨14, a, 0, [], [], []⟩] w fun e w' => e = .returned (.int .i64 (insF ⟨14, a, 0, [], [], []⟩ : Int)) ∧ Below w.heap.size w w' := by
  have E := Lib.hid (insF_at 14 a 0 [] [] [] true false false false false (by decide) (by decide) (by decide))
  have HN := Lib.hid needs_14
  have HW := Lib.hid (fun a w => word32_any a w)
  have HJ := Lib.hid (show ∀ w, Calls Tryz.prog 60 #[.int .i64 14] w fun e w' => e = .returned (.bool true) ∧ w = w' from fun w => by simpa using jumps_any 14 w)
  have HM := fun w => typeMay_any ⟨14, a, 0, [], [], []⟩ w (by first | exact Nat.zero_le _ | exact ht)
  have z0 : (bs []).toList.isEmpty = true := by rw [ByteArray.toList_eq]; rfl
  unfold insV at *
  generalize typedB ⟨14, a, 0, [], [], []⟩ = tb at *
  replace HM := Lib.hid HM
  go_enter Tryz.func59, Tryz.ntmps59
  go_wp2_with (first
    | (go_at_call 67; (with_reducible refine (HN.out _).mono ?_); rintro e w1 ⟨rfl, b1⟩
       have BX1 := box_new ⟨14, a, 0, [], [], []⟩ _ _ rfl b1
       have B1 := Lib.hid BX1.1
       have L1 := Lib.hid BX1.2
       obtain ⟨q0, q1, q2, q3, q4, q5, q6⟩ := BX1.1
       clear BX1 b1)
    | (go_at_call 68; (with_reducible refine (HW.out _ _).mono ?_); rintro e w' ⟨rfl, rfl⟩)
    | (go_at_call 60; (with_reducible refine (HJ.out _).mono ?_); rintro e w' ⟨rfl, rfl⟩)
    | (go_at_call 69; (with_reducible refine (HM.out _).mono ?_); rintro e w2 ⟨rfl, b2⟩
       have L2 := Lib.hid (bnext (bnext L1.out (al0 _ _)) b2)
       have C2 := ten_cells _ _ _ _ _ _ _ b2
       have B2 := (B1.out.below (al0 _ _)).below b2
       obtain ⟨q0, q1, q2, q3, q4, q5, q6⟩ := B2
       obtain ⟨r3, r4⟩ := C2
       clear b2))
  all_goals
    go_ret
    refine ⟨ret_i ?_, ?_⟩
    · rw [E.out]
      clear E HN HW HJ HM 
      simp_all [rangeB, targetB, bs_list, ByteArray.toList_eq] <;> (repeat' split) <;> omega
    · first | with_reducible exact L2.out | with_reducible exact bnext L1.out (al0 _ _)
set_option maxHeartbeats 2000000 in
theorem fault_15 (cl : List UInt8) (w : World) (hc : cl.length ≤ 1048576) :
    Calls Tryz.prog 59 #[insV ⟨15, 0, 0, [], cl, []⟩] w fun e w' => e = .returned (.int .i64 (insF ⟨15, 0, 0, [], cl, []⟩ : Int)) ∧ Below w.heap.size w w' := by
  have E := Lib.hid (insF_at 15 0 0 [] cl [] false false false true false (by decide) (by decide) (by decide))
  have HN := Lib.hid needs_15
  have HW := Lib.hid (fun a w => word32_any a w)
  have HJ := Lib.hid (show ∀ w, Calls Tryz.prog 60 #[.int .i64 15] w fun e w' => e = .returned (.bool false) ∧ w = w' from fun w => by simpa using jumps_any 15 w)
  have HM := fun w => typeMay_any ⟨15, 0, 0, [], cl, []⟩ w (by first | exact Nat.zero_le _ | exact ht)
  have HC := Lib.hid (fun w => isName_any (bs cl) w (by rw [bs_size]; unfold maxLen; omega))
  have z0 : (bs []).toList.isEmpty = true := by rw [ByteArray.toList_eq]; rfl
  unfold insV at *
  generalize typedB ⟨15, 0, 0, [], cl, []⟩ = tb at *
  replace HM := Lib.hid HM
  clear hc
  go_enter Tryz.func59, Tryz.ntmps59
  go_wp2_with (first
    | (go_at_call 67; (with_reducible refine (HN.out _).mono ?_); rintro e w1 ⟨rfl, b1⟩
       have BX1 := box_new ⟨15, 0, 0, [], cl, []⟩ _ _ rfl b1
       have B1 := Lib.hid BX1.1
       have L1 := Lib.hid BX1.2
       obtain ⟨q0, q1, q2, q3, q4, q5, q6⟩ := BX1.1
       clear BX1 b1)
    | (go_at_call 68; (with_reducible refine (HW.out _ _).mono ?_); rintro e w' ⟨rfl, rfl⟩)
    | (go_at_call 60; (with_reducible refine (HJ.out _).mono ?_); rintro e w' ⟨rfl, rfl⟩)
    | (go_at_call 69; (with_reducible refine (HM.out _).mono ?_); rintro e w2 ⟨rfl, b2⟩
       have L2 := Lib.hid (bnext (bnext L1.out (al0 _ _)) b2)
       have C2 := ten_cells _ _ _ _ _ _ _ b2
       have B2 := (B1.out.below (al0 _ _)).below b2
       obtain ⟨q0, q1, q2, q3, q4, q5, q6⟩ := B2
       obtain ⟨r3, r4⟩ := C2
       clear b2)
    | (go_at_call 38; first
       | ((with_reducible refine (HC.out _).mono ?_); rintro e w' ⟨rfl, rfl⟩)))
  all_goals
    go_ret
    refine ⟨ret_i ?_, ?_⟩
    · rw [E.out]
      clear E HN HW HJ HM HC
      simp_all [rangeB, targetB, bs_list, ByteArray.toList_eq] <;> (repeat' split) <;> omega
    · first | with_reducible exact L2.out | with_reducible exact bnext L1.out (al0 _ _)
set_option maxHeartbeats 2000000 in
theorem fault_16 (cl nm : List UInt8) (w : World) (hc : cl.length ≤ 1048576) (hn : nm.length ≤ 1048576) :
    Calls Tryz.prog 59 #[insV ⟨16, 0, 0, [], cl, nm⟩] w fun e w' => e = .returned (.int .i64 (insF ⟨16, 0, 0, [], cl, nm⟩ : Int)) ∧ Below w.heap.size w w' := by
  have E := Lib.hid (insF_at 16 0 0 [] cl nm false false false true true (by decide) (by decide) (by decide))
  have HN := Lib.hid needs_16
  have HW := Lib.hid (fun a w => word32_any a w)
  have HJ := Lib.hid (show ∀ w, Calls Tryz.prog 60 #[.int .i64 16] w fun e w' => e = .returned (.bool false) ∧ w = w' from fun w => by simpa using jumps_any 16 w)
  have HM := fun w => typeMay_any ⟨16, 0, 0, [], cl, nm⟩ w (by first | exact Nat.zero_le _ | exact ht)
  have HC := Lib.hid (fun w => isName_any (bs cl) w (by rw [bs_size]; unfold maxLen; omega))
  have HD := Lib.hid (fun w => isName_any (bs nm) w (by rw [bs_size]; unfold maxLen; omega))
  have z0 : (bs []).toList.isEmpty = true := by rw [ByteArray.toList_eq]; rfl
  unfold insV at *
  generalize typedB ⟨16, 0, 0, [], cl, nm⟩ = tb at *
  replace HM := Lib.hid HM
  clear hc hn
  go_enter Tryz.func59, Tryz.ntmps59
  go_wp2_with (first
    | (go_at_call 67; (with_reducible refine (HN.out _).mono ?_); rintro e w1 ⟨rfl, b1⟩
       have BX1 := box_new ⟨16, 0, 0, [], cl, nm⟩ _ _ rfl b1
       have B1 := Lib.hid BX1.1
       have L1 := Lib.hid BX1.2
       obtain ⟨q0, q1, q2, q3, q4, q5, q6⟩ := BX1.1
       clear BX1 b1)
    | (go_at_call 68; (with_reducible refine (HW.out _ _).mono ?_); rintro e w' ⟨rfl, rfl⟩)
    | (go_at_call 60; (with_reducible refine (HJ.out _).mono ?_); rintro e w' ⟨rfl, rfl⟩)
    | (go_at_call 69; (with_reducible refine (HM.out _).mono ?_); rintro e w2 ⟨rfl, b2⟩
       have L2 := Lib.hid (bnext (bnext L1.out (al0 _ _)) b2)
       have C2 := ten_cells _ _ _ _ _ _ _ b2
       have B2 := (B1.out.below (al0 _ _)).below b2
       obtain ⟨q0, q1, q2, q3, q4, q5, q6⟩ := B2
       obtain ⟨r3, r4⟩ := C2
       clear b2)
    | (go_at_call 38; first
       | ((with_reducible refine (HC.out _).mono ?_); rintro e w' ⟨rfl, rfl⟩)
       | ((with_reducible refine (HD.out _).mono ?_); rintro e w' ⟨rfl, rfl⟩)))
  all_goals
    go_ret
    refine ⟨ret_i ?_, ?_⟩
    · rw [E.out]
      clear E HN HW HJ HM HC HD
      simp_all [rangeB, targetB, bs_list, ByteArray.toList_eq] <;> (repeat' split) <;> omega
    · first | with_reducible exact L2.out | with_reducible exact bnext L1.out (al0 _ _)
set_option maxHeartbeats 2000000 in
theorem fault_17 (cl nm : List UInt8) (w : World) (hc : cl.length ≤ 1048576) (hn : nm.length ≤ 1048576) :
    Calls Tryz.prog 59 #[insV ⟨17, 0, 0, [], cl, nm⟩] w fun e w' => e = .returned (.int .i64 (insF ⟨17, 0, 0, [], cl, nm⟩ : Int)) ∧ Below w.heap.size w w' := by
  have E := Lib.hid (insF_at 17 0 0 [] cl nm false false false true true (by decide) (by decide) (by decide))
  have HN := Lib.hid needs_17
  have HW := Lib.hid (fun a w => word32_any a w)
  have HJ := Lib.hid (show ∀ w, Calls Tryz.prog 60 #[.int .i64 17] w fun e w' => e = .returned (.bool false) ∧ w = w' from fun w => by simpa using jumps_any 17 w)
  have HM := fun w => typeMay_any ⟨17, 0, 0, [], cl, nm⟩ w (by first | exact Nat.zero_le _ | exact ht)
  have HC := Lib.hid (fun w => isName_any (bs cl) w (by rw [bs_size]; unfold maxLen; omega))
  have HD := Lib.hid (fun w => isName_any (bs nm) w (by rw [bs_size]; unfold maxLen; omega))
  have z0 : (bs []).toList.isEmpty = true := by rw [ByteArray.toList_eq]; rfl
  unfold insV at *
  generalize typedB ⟨17, 0, 0, [], cl, nm⟩ = tb at *
  replace HM := Lib.hid HM
  clear hc hn
  go_enter Tryz.func59, Tryz.ntmps59
  go_wp2_with (first
    | (go_at_call 67; (with_reducible refine (HN.out _).mono ?_); rintro e w1 ⟨rfl, b1⟩
       have BX1 := box_new ⟨17, 0, 0, [], cl, nm⟩ _ _ rfl b1
       have B1 := Lib.hid BX1.1
       have L1 := Lib.hid BX1.2
       obtain ⟨q0, q1, q2, q3, q4, q5, q6⟩ := BX1.1
       clear BX1 b1)
    | (go_at_call 68; (with_reducible refine (HW.out _ _).mono ?_); rintro e w' ⟨rfl, rfl⟩)
    | (go_at_call 60; (with_reducible refine (HJ.out _).mono ?_); rintro e w' ⟨rfl, rfl⟩)
    | (go_at_call 69; (with_reducible refine (HM.out _).mono ?_); rintro e w2 ⟨rfl, b2⟩
       have L2 := Lib.hid (bnext (bnext L1.out (al0 _ _)) b2)
       have C2 := ten_cells _ _ _ _ _ _ _ b2
       have B2 := (B1.out.below (al0 _ _)).below b2
       obtain ⟨q0, q1, q2, q3, q4, q5, q6⟩ := B2
       obtain ⟨r3, r4⟩ := C2
       clear b2)
    | (go_at_call 38; first
       | ((with_reducible refine (HC.out _).mono ?_); rintro e w' ⟨rfl, rfl⟩)
       | ((with_reducible refine (HD.out _).mono ?_); rintro e w' ⟨rfl, rfl⟩)))
  all_goals
    go_ret
    refine ⟨ret_i ?_, ?_⟩
    · rw [E.out]
      clear E HN HW HJ HM HC HD
      simp_all [rangeB, targetB, bs_list, ByteArray.toList_eq] <;> (repeat' split) <;> omega
    · first | with_reducible exact L2.out | with_reducible exact bnext L1.out (al0 _ _)
set_option maxHeartbeats 2000000 in
theorem fault_18 (ty : List UInt8) (w : World) (ht : ty.length ≤ 1048576) :
    Calls Tryz.prog 59 #[insV ⟨18, 0, 0, ty, [], []⟩] w fun e w' => e = .returned (.int .i64 (insF ⟨18, 0, 0, ty, [], []⟩ : Int)) ∧ Below w.heap.size w w' := by
  have E := Lib.hid (insF_at 18 0 0 ty [] [] false false true false false (by decide) (by decide) (by decide))
  have HN := Lib.hid needs_18
  have HW := Lib.hid (fun a w => word32_any a w)
  have HJ := Lib.hid (show ∀ w, Calls Tryz.prog 60 #[.int .i64 18] w fun e w' => e = .returned (.bool false) ∧ w = w' from fun w => by simpa using jumps_any 18 w)
  have HM := fun w => typeMay_any ⟨18, 0, 0, ty, [], []⟩ w (by first | exact Nat.zero_le _ | exact ht)
  have z0 : (bs []).toList.isEmpty = true := by rw [ByteArray.toList_eq]; rfl
  unfold insV at *
  generalize typedB ⟨18, 0, 0, ty, [], []⟩ = tb at *
  replace HM := Lib.hid HM
  clear ht
  go_enter Tryz.func59, Tryz.ntmps59
  go_wp2_with (first
    | (go_at_call 67; (with_reducible refine (HN.out _).mono ?_); rintro e w1 ⟨rfl, b1⟩
       have BX1 := box_new ⟨18, 0, 0, ty, [], []⟩ _ _ rfl b1
       have B1 := Lib.hid BX1.1
       have L1 := Lib.hid BX1.2
       obtain ⟨q0, q1, q2, q3, q4, q5, q6⟩ := BX1.1
       clear BX1 b1)
    | (go_at_call 68; (with_reducible refine (HW.out _ _).mono ?_); rintro e w' ⟨rfl, rfl⟩)
    | (go_at_call 60; (with_reducible refine (HJ.out _).mono ?_); rintro e w' ⟨rfl, rfl⟩)
    | (go_at_call 69; (with_reducible refine (HM.out _).mono ?_); rintro e w2 ⟨rfl, b2⟩
       have L2 := Lib.hid (bnext (bnext L1.out (al0 _ _)) b2)
       have C2 := ten_cells _ _ _ _ _ _ _ b2
       have B2 := (B1.out.below (al0 _ _)).below b2
       obtain ⟨q0, q1, q2, q3, q4, q5, q6⟩ := B2
       obtain ⟨r3, r4⟩ := C2
       clear b2))
  all_goals
    go_ret
    refine ⟨ret_i ?_, ?_⟩
    · rw [E.out]
      clear E HN HW HJ HM 
      simp_all [rangeB, targetB, bs_list, ByteArray.toList_eq] <;> (repeat' split) <;> omega
    · first | with_reducible exact L2.out | with_reducible exact bnext L1.out (al0 _ _)
set_option maxHeartbeats 2000000 in
theorem fault_19 (w : World) :
    Calls Tryz.prog 59 #[insV ⟨19, 0, 0, [], [], []⟩] w fun e w' => e = .returned (.int .i64 (insF ⟨19, 0, 0, [], [], []⟩ : Int)) ∧ Below w.heap.size w w' := by
  have E := Lib.hid (insF_at 19 0 0 [] [] [] false false false false false (by decide) (by decide) (by decide))
  have HN := Lib.hid needs_19
  have HW := Lib.hid (fun a w => word32_any a w)
  have HJ := Lib.hid (show ∀ w, Calls Tryz.prog 60 #[.int .i64 19] w fun e w' => e = .returned (.bool false) ∧ w = w' from fun w => by simpa using jumps_any 19 w)
  have HM := fun w => typeMay_any ⟨19, 0, 0, [], [], []⟩ w (by first | exact Nat.zero_le _ | exact ht)
  have z0 : (bs []).toList.isEmpty = true := by rw [ByteArray.toList_eq]; rfl
  unfold insV at *
  generalize typedB ⟨19, 0, 0, [], [], []⟩ = tb at *
  replace HM := Lib.hid HM
  go_enter Tryz.func59, Tryz.ntmps59
  go_wp2_with (first
    | (go_at_call 67; (with_reducible refine (HN.out _).mono ?_); rintro e w1 ⟨rfl, b1⟩
       have BX1 := box_new ⟨19, 0, 0, [], [], []⟩ _ _ rfl b1
       have B1 := Lib.hid BX1.1
       have L1 := Lib.hid BX1.2
       obtain ⟨q0, q1, q2, q3, q4, q5, q6⟩ := BX1.1
       clear BX1 b1)
    | (go_at_call 68; (with_reducible refine (HW.out _ _).mono ?_); rintro e w' ⟨rfl, rfl⟩)
    | (go_at_call 60; (with_reducible refine (HJ.out _).mono ?_); rintro e w' ⟨rfl, rfl⟩)
    | (go_at_call 69; (with_reducible refine (HM.out _).mono ?_); rintro e w2 ⟨rfl, b2⟩
       have L2 := Lib.hid (bnext (bnext L1.out (al0 _ _)) b2)
       have C2 := ten_cells _ _ _ _ _ _ _ b2
       have B2 := (B1.out.below (al0 _ _)).below b2
       obtain ⟨q0, q1, q2, q3, q4, q5, q6⟩ := B2
       obtain ⟨r3, r4⟩ := C2
       clear b2))
  all_goals
    go_ret
    refine ⟨ret_i ?_, ?_⟩
    · rw [E.out]
      clear E HN HW HJ HM 
      simp_all [rangeB, targetB, bs_list, ByteArray.toList_eq] <;> (repeat' split) <;> omega
    · first | with_reducible exact L2.out | with_reducible exact bnext L1.out (al0 _ _)
set_option maxHeartbeats 2000000 in
theorem fault_20 (ty : List UInt8) (w : World) (ht : ty.length ≤ 1048576) :
    Calls Tryz.prog 59 #[insV ⟨20, 0, 0, ty, [], []⟩] w fun e w' => e = .returned (.int .i64 (insF ⟨20, 0, 0, ty, [], []⟩ : Int)) ∧ Below w.heap.size w w' := by
  have E := Lib.hid (insF_at 20 0 0 ty [] [] false false true false false (by decide) (by decide) (by decide))
  have HN := Lib.hid needs_20
  have HW := Lib.hid (fun a w => word32_any a w)
  have HJ := Lib.hid (show ∀ w, Calls Tryz.prog 60 #[.int .i64 20] w fun e w' => e = .returned (.bool false) ∧ w = w' from fun w => by simpa using jumps_any 20 w)
  have HM := fun w => typeMay_any ⟨20, 0, 0, ty, [], []⟩ w (by first | exact Nat.zero_le _ | exact ht)
  have z0 : (bs []).toList.isEmpty = true := by rw [ByteArray.toList_eq]; rfl
  unfold insV at *
  generalize typedB ⟨20, 0, 0, ty, [], []⟩ = tb at *
  replace HM := Lib.hid HM
  clear ht
  go_enter Tryz.func59, Tryz.ntmps59
  go_wp2_with (first
    | (go_at_call 67; (with_reducible refine (HN.out _).mono ?_); rintro e w1 ⟨rfl, b1⟩
       have BX1 := box_new ⟨20, 0, 0, ty, [], []⟩ _ _ rfl b1
       have B1 := Lib.hid BX1.1
       have L1 := Lib.hid BX1.2
       obtain ⟨q0, q1, q2, q3, q4, q5, q6⟩ := BX1.1
       clear BX1 b1)
    | (go_at_call 68; (with_reducible refine (HW.out _ _).mono ?_); rintro e w' ⟨rfl, rfl⟩)
    | (go_at_call 60; (with_reducible refine (HJ.out _).mono ?_); rintro e w' ⟨rfl, rfl⟩)
    | (go_at_call 69; (with_reducible refine (HM.out _).mono ?_); rintro e w2 ⟨rfl, b2⟩
       have L2 := Lib.hid (bnext (bnext L1.out (al0 _ _)) b2)
       have C2 := ten_cells _ _ _ _ _ _ _ b2
       have B2 := (B1.out.below (al0 _ _)).below b2
       obtain ⟨q0, q1, q2, q3, q4, q5, q6⟩ := B2
       obtain ⟨r3, r4⟩ := C2
       clear b2))
  all_goals
    go_ret
    refine ⟨ret_i ?_, ?_⟩
    · rw [E.out]
      clear E HN HW HJ HM 
      simp_all [rangeB, targetB, bs_list, ByteArray.toList_eq] <;> (repeat' split) <;> omega
    · first | with_reducible exact L2.out | with_reducible exact bnext L1.out (al0 _ _)
set_option maxHeartbeats 2000000 in
theorem fault_21 (ty : List UInt8) (w : World) (ht : ty.length ≤ 1048576) :
    Calls Tryz.prog 59 #[insV ⟨21, 0, 0, ty, [], []⟩] w fun e w' => e = .returned (.int .i64 (insF ⟨21, 0, 0, ty, [], []⟩ : Int)) ∧ Below w.heap.size w w' := by
  have E := Lib.hid (insF_at 21 0 0 ty [] [] false false true false false (by decide) (by decide) (by decide))
  have HN := Lib.hid needs_21
  have HW := Lib.hid (fun a w => word32_any a w)
  have HJ := Lib.hid (show ∀ w, Calls Tryz.prog 60 #[.int .i64 21] w fun e w' => e = .returned (.bool false) ∧ w = w' from fun w => by simpa using jumps_any 21 w)
  have HM := fun w => typeMay_any ⟨21, 0, 0, ty, [], []⟩ w (by first | exact Nat.zero_le _ | exact ht)
  have z0 : (bs []).toList.isEmpty = true := by rw [ByteArray.toList_eq]; rfl
  unfold insV at *
  generalize typedB ⟨21, 0, 0, ty, [], []⟩ = tb at *
  replace HM := Lib.hid HM
  clear ht
  go_enter Tryz.func59, Tryz.ntmps59
  go_wp2_with (first
    | (go_at_call 67; (with_reducible refine (HN.out _).mono ?_); rintro e w1 ⟨rfl, b1⟩
       have BX1 := box_new ⟨21, 0, 0, ty, [], []⟩ _ _ rfl b1
       have B1 := Lib.hid BX1.1
       have L1 := Lib.hid BX1.2
       obtain ⟨q0, q1, q2, q3, q4, q5, q6⟩ := BX1.1
       clear BX1 b1)
    | (go_at_call 68; (with_reducible refine (HW.out _ _).mono ?_); rintro e w' ⟨rfl, rfl⟩)
    | (go_at_call 60; (with_reducible refine (HJ.out _).mono ?_); rintro e w' ⟨rfl, rfl⟩)
    | (go_at_call 69; (with_reducible refine (HM.out _).mono ?_); rintro e w2 ⟨rfl, b2⟩
       have L2 := Lib.hid (bnext (bnext L1.out (al0 _ _)) b2)
       have C2 := ten_cells _ _ _ _ _ _ _ b2
       have B2 := (B1.out.below (al0 _ _)).below b2
       obtain ⟨q0, q1, q2, q3, q4, q5, q6⟩ := B2
       obtain ⟨r3, r4⟩ := C2
       clear b2))
  all_goals
    go_ret
    refine ⟨ret_i ?_, ?_⟩
    · rw [E.out]
      clear E HN HW HJ HM 
      simp_all [rangeB, targetB, bs_list, ByteArray.toList_eq] <;> (repeat' split) <;> omega
    · first | with_reducible exact L2.out | with_reducible exact bnext L1.out (al0 _ _)
set_option maxHeartbeats 2000000 in
theorem fault_22 (ty : List UInt8) (w : World) (ht : ty.length ≤ 1048576) :
    Calls Tryz.prog 59 #[insV ⟨22, 0, 0, ty, [], []⟩] w fun e w' => e = .returned (.int .i64 (insF ⟨22, 0, 0, ty, [], []⟩ : Int)) ∧ Below w.heap.size w w' := by
  have E := Lib.hid (insF_at 22 0 0 ty [] [] false false true false false (by decide) (by decide) (by decide))
  have HN := Lib.hid needs_22
  have HW := Lib.hid (fun a w => word32_any a w)
  have HJ := Lib.hid (show ∀ w, Calls Tryz.prog 60 #[.int .i64 22] w fun e w' => e = .returned (.bool false) ∧ w = w' from fun w => by simpa using jumps_any 22 w)
  have HM := fun w => typeMay_any ⟨22, 0, 0, ty, [], []⟩ w (by first | exact Nat.zero_le _ | exact ht)
  have z0 : (bs []).toList.isEmpty = true := by rw [ByteArray.toList_eq]; rfl
  unfold insV at *
  generalize typedB ⟨22, 0, 0, ty, [], []⟩ = tb at *
  replace HM := Lib.hid HM
  clear ht
  go_enter Tryz.func59, Tryz.ntmps59
  go_wp2_with (first
    | (go_at_call 67; (with_reducible refine (HN.out _).mono ?_); rintro e w1 ⟨rfl, b1⟩
       have BX1 := box_new ⟨22, 0, 0, ty, [], []⟩ _ _ rfl b1
       have B1 := Lib.hid BX1.1
       have L1 := Lib.hid BX1.2
       obtain ⟨q0, q1, q2, q3, q4, q5, q6⟩ := BX1.1
       clear BX1 b1)
    | (go_at_call 68; (with_reducible refine (HW.out _ _).mono ?_); rintro e w' ⟨rfl, rfl⟩)
    | (go_at_call 60; (with_reducible refine (HJ.out _).mono ?_); rintro e w' ⟨rfl, rfl⟩)
    | (go_at_call 69; (with_reducible refine (HM.out _).mono ?_); rintro e w2 ⟨rfl, b2⟩
       have L2 := Lib.hid (bnext (bnext L1.out (al0 _ _)) b2)
       have C2 := ten_cells _ _ _ _ _ _ _ b2
       have B2 := (B1.out.below (al0 _ _)).below b2
       obtain ⟨q0, q1, q2, q3, q4, q5, q6⟩ := B2
       obtain ⟨r3, r4⟩ := C2
       clear b2))
  all_goals
    go_ret
    refine ⟨ret_i ?_, ?_⟩
    · rw [E.out]
      clear E HN HW HJ HM 
      simp_all [rangeB, targetB, bs_list, ByteArray.toList_eq] <;> (repeat' split) <;> omega
    · first | with_reducible exact L2.out | with_reducible exact bnext L1.out (al0 _ _)
set_option maxHeartbeats 2000000 in
theorem fault_23 (ty : List UInt8) (w : World) (ht : ty.length ≤ 1048576) :
    Calls Tryz.prog 59 #[insV ⟨23, 0, 0, ty, [], []⟩] w fun e w' => e = .returned (.int .i64 (insF ⟨23, 0, 0, ty, [], []⟩ : Int)) ∧ Below w.heap.size w w' := by
  have E := Lib.hid (insF_at 23 0 0 ty [] [] false false true false false (by decide) (by decide) (by decide))
  have HN := Lib.hid needs_23
  have HW := Lib.hid (fun a w => word32_any a w)
  have HJ := Lib.hid (show ∀ w, Calls Tryz.prog 60 #[.int .i64 23] w fun e w' => e = .returned (.bool false) ∧ w = w' from fun w => by simpa using jumps_any 23 w)
  have HM := fun w => typeMay_any ⟨23, 0, 0, ty, [], []⟩ w (by first | exact Nat.zero_le _ | exact ht)
  have z0 : (bs []).toList.isEmpty = true := by rw [ByteArray.toList_eq]; rfl
  unfold insV at *
  generalize typedB ⟨23, 0, 0, ty, [], []⟩ = tb at *
  replace HM := Lib.hid HM
  clear ht
  go_enter Tryz.func59, Tryz.ntmps59
  go_wp2_with (first
    | (go_at_call 67; (with_reducible refine (HN.out _).mono ?_); rintro e w1 ⟨rfl, b1⟩
       have BX1 := box_new ⟨23, 0, 0, ty, [], []⟩ _ _ rfl b1
       have B1 := Lib.hid BX1.1
       have L1 := Lib.hid BX1.2
       obtain ⟨q0, q1, q2, q3, q4, q5, q6⟩ := BX1.1
       clear BX1 b1)
    | (go_at_call 68; (with_reducible refine (HW.out _ _).mono ?_); rintro e w' ⟨rfl, rfl⟩)
    | (go_at_call 60; (with_reducible refine (HJ.out _).mono ?_); rintro e w' ⟨rfl, rfl⟩)
    | (go_at_call 69; (with_reducible refine (HM.out _).mono ?_); rintro e w2 ⟨rfl, b2⟩
       have L2 := Lib.hid (bnext (bnext L1.out (al0 _ _)) b2)
       have C2 := ten_cells _ _ _ _ _ _ _ b2
       have B2 := (B1.out.below (al0 _ _)).below b2
       obtain ⟨q0, q1, q2, q3, q4, q5, q6⟩ := B2
       obtain ⟨r3, r4⟩ := C2
       clear b2))
  all_goals
    go_ret
    refine ⟨ret_i ?_, ?_⟩
    · rw [E.out]
      clear E HN HW HJ HM 
      simp_all [rangeB, targetB, bs_list, ByteArray.toList_eq] <;> (repeat' split) <;> omega
    · first | with_reducible exact L2.out | with_reducible exact bnext L1.out (al0 _ _)
set_option maxHeartbeats 2000000 in
theorem fault_24 (ty cl nm : List UInt8) (w : World) (ht : ty.length ≤ 1048576) (hc : cl.length ≤ 1048576) (hn : nm.length ≤ 1048576) :
    Calls Tryz.prog 59 #[insV ⟨24, 0, 0, ty, cl, nm⟩] w fun e w' => e = .returned (.int .i64 (insF ⟨24, 0, 0, ty, cl, nm⟩ : Int)) ∧ Below w.heap.size w w' := by
  have E := Lib.hid (insF_at 24 0 0 ty cl nm false false true true true (by decide) (by decide) (by decide))
  have HN := Lib.hid needs_24
  have HW := Lib.hid (fun a w => word32_any a w)
  have HJ := Lib.hid (show ∀ w, Calls Tryz.prog 60 #[.int .i64 24] w fun e w' => e = .returned (.bool false) ∧ w = w' from fun w => by simpa using jumps_any 24 w)
  have HM := fun w => typeMay_any ⟨24, 0, 0, ty, cl, nm⟩ w (by first | exact Nat.zero_le _ | exact ht)
  have HC := Lib.hid (fun w => isName_any (bs cl) w (by rw [bs_size]; unfold maxLen; omega))
  have HD := Lib.hid (fun w => isName_any (bs nm) w (by rw [bs_size]; unfold maxLen; omega))
  unfold insV at *
  generalize typedB ⟨24, 0, 0, ty, cl, nm⟩ = tb at *
  replace HM := Lib.hid HM
  clear ht hc hn
  go_enter Tryz.func59, Tryz.ntmps59
  go_wp2_with (first
    | (go_at_call 67; (with_reducible refine (HN.out _).mono ?_); rintro e w1 ⟨rfl, b1⟩
       have BX1 := box_new ⟨24, 0, 0, ty, cl, nm⟩ _ _ rfl b1
       have B1 := Lib.hid BX1.1
       have L1 := Lib.hid BX1.2
       obtain ⟨q0, q1, q2, q3, q4, q5, q6⟩ := BX1.1
       clear BX1 b1)
    | (go_at_call 68; (with_reducible refine (HW.out _ _).mono ?_); rintro e w' ⟨rfl, rfl⟩)
    | (go_at_call 60; (with_reducible refine (HJ.out _).mono ?_); rintro e w' ⟨rfl, rfl⟩)
    | (go_at_call 69; (with_reducible refine (HM.out _).mono ?_); rintro e w2 ⟨rfl, b2⟩
       have L2 := Lib.hid (bnext (bnext L1.out (al0 _ _)) b2)
       have C2 := ten_cells _ _ _ _ _ _ _ b2
       have B2 := (B1.out.below (al0 _ _)).below b2
       obtain ⟨q0, q1, q2, q3, q4, q5, q6⟩ := B2
       obtain ⟨r3, r4⟩ := C2
       clear b2)
    | (go_at_call 38; first
       | ((with_reducible refine (HC.out _).mono ?_); rintro e w' ⟨rfl, rfl⟩)
       | ((with_reducible refine (HD.out _).mono ?_); rintro e w' ⟨rfl, rfl⟩)))
  all_goals
    go_ret
    refine ⟨ret_i ?_, ?_⟩
    · rw [E.out]
      clear E HN HW HJ HM HC HD
      simp_all [rangeB, targetB, bs_list, ByteArray.toList_eq] <;> (repeat' split) <;> omega
    · first | with_reducible exact L2.out | with_reducible exact bnext L1.out (al0 _ _)
set_option maxHeartbeats 2000000 in
theorem fault_25 (ty cl nm : List UInt8) (w : World) (ht : ty.length ≤ 1048576) (hc : cl.length ≤ 1048576) (hn : nm.length ≤ 1048576) :
    Calls Tryz.prog 59 #[insV ⟨25, 0, 0, ty, cl, nm⟩] w fun e w' => e = .returned (.int .i64 (insF ⟨25, 0, 0, ty, cl, nm⟩ : Int)) ∧ Below w.heap.size w w' := by
  have E := Lib.hid (insF_at 25 0 0 ty cl nm false false true true true (by decide) (by decide) (by decide))
  have HN := Lib.hid needs_25
  have HW := Lib.hid (fun a w => word32_any a w)
  have HJ := Lib.hid (show ∀ w, Calls Tryz.prog 60 #[.int .i64 25] w fun e w' => e = .returned (.bool false) ∧ w = w' from fun w => by simpa using jumps_any 25 w)
  have HM := fun w => typeMay_any ⟨25, 0, 0, ty, cl, nm⟩ w (by first | exact Nat.zero_le _ | exact ht)
  have HC := Lib.hid (fun w => isName_any (bs cl) w (by rw [bs_size]; unfold maxLen; omega))
  have HD := Lib.hid (fun w => isName_any (bs nm) w (by rw [bs_size]; unfold maxLen; omega))
  unfold insV at *
  generalize typedB ⟨25, 0, 0, ty, cl, nm⟩ = tb at *
  replace HM := Lib.hid HM
  clear ht hc hn
  go_enter Tryz.func59, Tryz.ntmps59
  go_wp2_with (first
    | (go_at_call 67; (with_reducible refine (HN.out _).mono ?_); rintro e w1 ⟨rfl, b1⟩
       have BX1 := box_new ⟨25, 0, 0, ty, cl, nm⟩ _ _ rfl b1
       have B1 := Lib.hid BX1.1
       have L1 := Lib.hid BX1.2
       obtain ⟨q0, q1, q2, q3, q4, q5, q6⟩ := BX1.1
       clear BX1 b1)
    | (go_at_call 68; (with_reducible refine (HW.out _ _).mono ?_); rintro e w' ⟨rfl, rfl⟩)
    | (go_at_call 60; (with_reducible refine (HJ.out _).mono ?_); rintro e w' ⟨rfl, rfl⟩)
    | (go_at_call 69; (with_reducible refine (HM.out _).mono ?_); rintro e w2 ⟨rfl, b2⟩
       have L2 := Lib.hid (bnext (bnext L1.out (al0 _ _)) b2)
       have C2 := ten_cells _ _ _ _ _ _ _ b2
       have B2 := (B1.out.below (al0 _ _)).below b2
       obtain ⟨q0, q1, q2, q3, q4, q5, q6⟩ := B2
       obtain ⟨r3, r4⟩ := C2
       clear b2)
    | (go_at_call 38; first
       | ((with_reducible refine (HC.out _).mono ?_); rintro e w' ⟨rfl, rfl⟩)
       | ((with_reducible refine (HD.out _).mono ?_); rintro e w' ⟨rfl, rfl⟩)))
  all_goals
    go_ret
    refine ⟨ret_i ?_, ?_⟩
    · rw [E.out]
      clear E HN HW HJ HM HC HD
      simp_all [rangeB, targetB, bs_list, ByteArray.toList_eq] <;> (repeat' split) <;> omega
    · first | with_reducible exact L2.out | with_reducible exact bnext L1.out (al0 _ _)
set_option maxHeartbeats 2000000 in
theorem fault_26 (w : World) :
    Calls Tryz.prog 59 #[insV ⟨26, 0, 0, [], [], []⟩] w fun e w' => e = .returned (.int .i64 (insF ⟨26, 0, 0, [], [], []⟩ : Int)) ∧ Below w.heap.size w w' := by
  have E := Lib.hid (insF_at 26 0 0 [] [] [] false false false false false (by decide) (by decide) (by decide))
  have HN := Lib.hid needs_26
  have HW := Lib.hid (fun a w => word32_any a w)
  have HJ := Lib.hid (show ∀ w, Calls Tryz.prog 60 #[.int .i64 26] w fun e w' => e = .returned (.bool false) ∧ w = w' from fun w => by simpa using jumps_any 26 w)
  have HM := fun w => typeMay_any ⟨26, 0, 0, [], [], []⟩ w (by first | exact Nat.zero_le _ | exact ht)
  have z0 : (bs []).toList.isEmpty = true := by rw [ByteArray.toList_eq]; rfl
  unfold insV at *
  generalize typedB ⟨26, 0, 0, [], [], []⟩ = tb at *
  replace HM := Lib.hid HM
  go_enter Tryz.func59, Tryz.ntmps59
  go_wp2_with (first
    | (go_at_call 67; (with_reducible refine (HN.out _).mono ?_); rintro e w1 ⟨rfl, b1⟩
       have BX1 := box_new ⟨26, 0, 0, [], [], []⟩ _ _ rfl b1
       have B1 := Lib.hid BX1.1
       have L1 := Lib.hid BX1.2
       obtain ⟨q0, q1, q2, q3, q4, q5, q6⟩ := BX1.1
       clear BX1 b1)
    | (go_at_call 68; (with_reducible refine (HW.out _ _).mono ?_); rintro e w' ⟨rfl, rfl⟩)
    | (go_at_call 60; (with_reducible refine (HJ.out _).mono ?_); rintro e w' ⟨rfl, rfl⟩)
    | (go_at_call 69; (with_reducible refine (HM.out _).mono ?_); rintro e w2 ⟨rfl, b2⟩
       have L2 := Lib.hid (bnext (bnext L1.out (al0 _ _)) b2)
       have C2 := ten_cells _ _ _ _ _ _ _ b2
       have B2 := (B1.out.below (al0 _ _)).below b2
       obtain ⟨q0, q1, q2, q3, q4, q5, q6⟩ := B2
       obtain ⟨r3, r4⟩ := C2
       clear b2))
  all_goals
    go_ret
    refine ⟨ret_i ?_, ?_⟩
    · rw [E.out]
      clear E HN HW HJ HM 
      simp_all [rangeB, targetB, bs_list, ByteArray.toList_eq] <;> (repeat' split) <;> omega
    · first | with_reducible exact L2.out | with_reducible exact bnext L1.out (al0 _ _)
set_option maxHeartbeats 2000000 in
theorem fault_27 (w : World) :
    Calls Tryz.prog 59 #[insV ⟨27, 0, 0, [], [], []⟩] w fun e w' => e = .returned (.int .i64 (insF ⟨27, 0, 0, [], [], []⟩ : Int)) ∧ Below w.heap.size w w' := by
  have E := Lib.hid (insF_at 27 0 0 [] [] [] false false false false false (by decide) (by decide) (by decide))
  have HN := Lib.hid needs_27
  have HW := Lib.hid (fun a w => word32_any a w)
  have HJ := Lib.hid (show ∀ w, Calls Tryz.prog 60 #[.int .i64 27] w fun e w' => e = .returned (.bool false) ∧ w = w' from fun w => by simpa using jumps_any 27 w)
  have HM := fun w => typeMay_any ⟨27, 0, 0, [], [], []⟩ w (by first | exact Nat.zero_le _ | exact ht)
  have z0 : (bs []).toList.isEmpty = true := by rw [ByteArray.toList_eq]; rfl
  unfold insV at *
  generalize typedB ⟨27, 0, 0, [], [], []⟩ = tb at *
  replace HM := Lib.hid HM
  go_enter Tryz.func59, Tryz.ntmps59
  go_wp2_with (first
    | (go_at_call 67; (with_reducible refine (HN.out _).mono ?_); rintro e w1 ⟨rfl, b1⟩
       have BX1 := box_new ⟨27, 0, 0, [], [], []⟩ _ _ rfl b1
       have B1 := Lib.hid BX1.1
       have L1 := Lib.hid BX1.2
       obtain ⟨q0, q1, q2, q3, q4, q5, q6⟩ := BX1.1
       clear BX1 b1)
    | (go_at_call 68; (with_reducible refine (HW.out _ _).mono ?_); rintro e w' ⟨rfl, rfl⟩)
    | (go_at_call 60; (with_reducible refine (HJ.out _).mono ?_); rintro e w' ⟨rfl, rfl⟩)
    | (go_at_call 69; (with_reducible refine (HM.out _).mono ?_); rintro e w2 ⟨rfl, b2⟩
       have L2 := Lib.hid (bnext (bnext L1.out (al0 _ _)) b2)
       have C2 := ten_cells _ _ _ _ _ _ _ b2
       have B2 := (B1.out.below (al0 _ _)).below b2
       obtain ⟨q0, q1, q2, q3, q4, q5, q6⟩ := B2
       obtain ⟨r3, r4⟩ := C2
       clear b2))
  all_goals
    go_ret
    refine ⟨ret_i ?_, ?_⟩
    · rw [E.out]
      clear E HN HW HJ HM 
      simp_all [rangeB, targetB, bs_list, ByteArray.toList_eq] <;> (repeat' split) <;> omega
    · first | with_reducible exact L2.out | with_reducible exact bnext L1.out (al0 _ _)
set_option maxHeartbeats 2000000 in
theorem fault_28 (w : World) :
    Calls Tryz.prog 59 #[insV ⟨28, 0, 0, [], [], []⟩] w fun e w' => e = .returned (.int .i64 (insF ⟨28, 0, 0, [], [], []⟩ : Int)) ∧ Below w.heap.size w w' := by
  have E := Lib.hid (insF_at 28 0 0 [] [] [] false false false false false (by decide) (by decide) (by decide))
  have HN := Lib.hid needs_28
  have HW := Lib.hid (fun a w => word32_any a w)
  have HJ := Lib.hid (show ∀ w, Calls Tryz.prog 60 #[.int .i64 28] w fun e w' => e = .returned (.bool false) ∧ w = w' from fun w => by simpa using jumps_any 28 w)
  have HM := fun w => typeMay_any ⟨28, 0, 0, [], [], []⟩ w (by first | exact Nat.zero_le _ | exact ht)
  have z0 : (bs []).toList.isEmpty = true := by rw [ByteArray.toList_eq]; rfl
  unfold insV at *
  generalize typedB ⟨28, 0, 0, [], [], []⟩ = tb at *
  replace HM := Lib.hid HM
  go_enter Tryz.func59, Tryz.ntmps59
  go_wp2_with (first
    | (go_at_call 67; (with_reducible refine (HN.out _).mono ?_); rintro e w1 ⟨rfl, b1⟩
       have BX1 := box_new ⟨28, 0, 0, [], [], []⟩ _ _ rfl b1
       have B1 := Lib.hid BX1.1
       have L1 := Lib.hid BX1.2
       obtain ⟨q0, q1, q2, q3, q4, q5, q6⟩ := BX1.1
       clear BX1 b1)
    | (go_at_call 68; (with_reducible refine (HW.out _ _).mono ?_); rintro e w' ⟨rfl, rfl⟩)
    | (go_at_call 60; (with_reducible refine (HJ.out _).mono ?_); rintro e w' ⟨rfl, rfl⟩)
    | (go_at_call 69; (with_reducible refine (HM.out _).mono ?_); rintro e w2 ⟨rfl, b2⟩
       have L2 := Lib.hid (bnext (bnext L1.out (al0 _ _)) b2)
       have C2 := ten_cells _ _ _ _ _ _ _ b2
       have B2 := (B1.out.below (al0 _ _)).below b2
       obtain ⟨q0, q1, q2, q3, q4, q5, q6⟩ := B2
       obtain ⟨r3, r4⟩ := C2
       clear b2))
  all_goals
    go_ret
    refine ⟨ret_i ?_, ?_⟩
    · rw [E.out]
      clear E HN HW HJ HM 
      simp_all [rangeB, targetB, bs_list, ByteArray.toList_eq] <;> (repeat' split) <;> omega
    · first | with_reducible exact L2.out | with_reducible exact bnext L1.out (al0 _ _)
theorem fault_low (k : Int) (h : k ≤ 0 ∨ 28 < k) (a b : Int) (ty cl nm : List UInt8) : insF ⟨k, a, b, ty, cl, nm⟩ = 1 := by
  unfold insF
  rw [if_pos (by simp only; omega)]
end Go.Proofs.YtkolpbjpgobkcaaGreatDoor
namespace Go.Proofs.YtkolpbjpgobkcaaGreatDoor
open Go.ChangeShapes Go.WideShapes Go.ChangeAt Go.RowKit
set_option linter.unusedVariables false
set_option linter.unusedSimpArgs false

theorem fault_out (k : Int) (h : k ≤ 0 ∨ 28 < k) (a b : Int) (ty cl nm : List UInt8) (w : World) :
    Calls Tryz.prog 59 #[insV ⟨k, a, b, ty, cl, nm⟩] w fun e w' => e = .returned (.int .i64 1) ∧ Below w.heap.size w w' := by
  unfold insV
  rcases h with h | h
  · have h1 : k < 1 := by omega
    clear h
    go_enter Tryz.func59, Tryz.ntmps59
    go_wp2
    go_ret
    exact ⟨rfl, al0 _ _⟩
  · have h1 : ¬ k < 1 := by omega
    go_enter Tryz.func59, Tryz.ntmps59
    go_wp2
    go_ret
    exact ⟨rfl, al0 _ _⟩
theorem full_1 (a b : Int) (ty cl nm : List UInt8) (w : World) (ht : ty.length ≤ 1048576) (hc : cl.length ≤ 1048576) (hn : nm.length ≤ 1048576) :
    Calls Tryz.prog 59 #[insV ⟨1, a, b, ty, cl, nm⟩] w fun e w' => e = .returned (.int .i64 (insF ⟨1, a, b, ty, cl, nm⟩ : Int)) ∧ Below w.heap.size w w' := by
  by_cases ho : ((a == 0 || false) && (b == 0 || false) && (ty == [] || false) && (cl == [] || false) && (nm == [] || false)) = false
  · rw [insF_at 1 a b ty cl nm false false false false false (by decide) (by decide) (by decide), if_pos ho]
    exact bad_any (by decide) (by decide) needs_1 ho w
  · obtain rfl : a = 0 := Decidable.byContradiction fun h => ho (by simp [h])
    obtain rfl : b = 0 := Decidable.byContradiction fun h => ho (by simp [h])
    obtain rfl : ty = [] := Decidable.byContradiction fun h => ho (by simp [h])
    obtain rfl : cl = [] := Decidable.byContradiction fun h => ho (by simp [h])
    obtain rfl : nm = [] := Decidable.byContradiction fun h => ho (by simp [h])
    exact fault_1  w
theorem full_2 (a b : Int) (ty cl nm : List UInt8) (w : World) (ht : ty.length ≤ 1048576) (hc : cl.length ≤ 1048576) (hn : nm.length ≤ 1048576) :
    Calls Tryz.prog 59 #[insV ⟨2, a, b, ty, cl, nm⟩] w fun e w' => e = .returned (.int .i64 (insF ⟨2, a, b, ty, cl, nm⟩ : Int)) ∧ Below w.heap.size w w' := by
  by_cases ho : ((a == 0 || true) && (b == 0 || false) && (ty == [] || true) && (cl == [] || false) && (nm == [] || false)) = false
  · rw [insF_at 2 a b ty cl nm true false true false false (by decide) (by decide) (by decide), if_pos ho]
    exact bad_any (by decide) (by decide) needs_2 ho w
  · obtain rfl : b = 0 := Decidable.byContradiction fun h => ho (by simp [h])
    obtain rfl : cl = [] := Decidable.byContradiction fun h => ho (by simp [h])
    obtain rfl : nm = [] := Decidable.byContradiction fun h => ho (by simp [h])
    exact fault_2 a ty w ht
theorem full_3 (a b : Int) (ty cl nm : List UInt8) (w : World) (ht : ty.length ≤ 1048576) (hc : cl.length ≤ 1048576) (hn : nm.length ≤ 1048576) :
    Calls Tryz.prog 59 #[insV ⟨3, a, b, ty, cl, nm⟩] w fun e w' => e = .returned (.int .i64 (insF ⟨3, a, b, ty, cl, nm⟩ : Int)) ∧ Below w.heap.size w w' := by
  by_cases ho : ((a == 0 || false) && (b == 0 || false) && (ty == [] || false) && (cl == [] || false) && (nm == [] || false)) = false
  · rw [insF_at 3 a b ty cl nm false false false false false (by decide) (by decide) (by decide), if_pos ho]
    exact bad_any (by decide) (by decide) needs_3 ho w
  · obtain rfl : a = 0 := Decidable.byContradiction fun h => ho (by simp [h])
    obtain rfl : b = 0 := Decidable.byContradiction fun h => ho (by simp [h])
    obtain rfl : ty = [] := Decidable.byContradiction fun h => ho (by simp [h])
    obtain rfl : cl = [] := Decidable.byContradiction fun h => ho (by simp [h])
    obtain rfl : nm = [] := Decidable.byContradiction fun h => ho (by simp [h])
    exact fault_3  w
theorem full_4 (a b : Int) (ty cl nm : List UInt8) (w : World) (ht : ty.length ≤ 1048576) (hc : cl.length ≤ 1048576) (hn : nm.length ≤ 1048576) :
    Calls Tryz.prog 59 #[insV ⟨4, a, b, ty, cl, nm⟩] w fun e w' => e = .returned (.int .i64 (insF ⟨4, a, b, ty, cl, nm⟩ : Int)) ∧ Below w.heap.size w w' := by
  by_cases ho : ((a == 0 || true) && (b == 0 || false) && (ty == [] || false) && (cl == [] || false) && (nm == [] || false)) = false
  · rw [insF_at 4 a b ty cl nm true false false false false (by decide) (by decide) (by decide), if_pos ho]
    exact bad_any (by decide) (by decide) needs_4 ho w
  · obtain rfl : b = 0 := Decidable.byContradiction fun h => ho (by simp [h])
    obtain rfl : ty = [] := Decidable.byContradiction fun h => ho (by simp [h])
    obtain rfl : cl = [] := Decidable.byContradiction fun h => ho (by simp [h])
    obtain rfl : nm = [] := Decidable.byContradiction fun h => ho (by simp [h])
    exact fault_4 a w
theorem full_5 (a b : Int) (ty cl nm : List UInt8) (w : World) (ht : ty.length ≤ 1048576) (hc : cl.length ≤ 1048576) (hn : nm.length ≤ 1048576) :
    Calls Tryz.prog 59 #[insV ⟨5, a, b, ty, cl, nm⟩] w fun e w' => e = .returned (.int .i64 (insF ⟨5, a, b, ty, cl, nm⟩ : Int)) ∧ Below w.heap.size w w' := by
  by_cases ho : ((a == 0 || true) && (b == 0 || false) && (ty == [] || false) && (cl == [] || false) && (nm == [] || false)) = false
  · rw [insF_at 5 a b ty cl nm true false false false false (by decide) (by decide) (by decide), if_pos ho]
    exact bad_any (by decide) (by decide) needs_5 ho w
  · obtain rfl : b = 0 := Decidable.byContradiction fun h => ho (by simp [h])
    obtain rfl : ty = [] := Decidable.byContradiction fun h => ho (by simp [h])
    obtain rfl : cl = [] := Decidable.byContradiction fun h => ho (by simp [h])
    obtain rfl : nm = [] := Decidable.byContradiction fun h => ho (by simp [h])
    exact fault_5 a w
theorem full_6 (a b : Int) (ty cl nm : List UInt8) (w : World) (ht : ty.length ≤ 1048576) (hc : cl.length ≤ 1048576) (hn : nm.length ≤ 1048576) :
    Calls Tryz.prog 59 #[insV ⟨6, a, b, ty, cl, nm⟩] w fun e w' => e = .returned (.int .i64 (insF ⟨6, a, b, ty, cl, nm⟩ : Int)) ∧ Below w.heap.size w w' := by
  by_cases ho : ((a == 0 || false) && (b == 0 || false) && (ty == [] || false) && (cl == [] || false) && (nm == [] || false)) = false
  · rw [insF_at 6 a b ty cl nm false false false false false (by decide) (by decide) (by decide), if_pos ho]
    exact bad_any (by decide) (by decide) needs_6 ho w
  · obtain rfl : a = 0 := Decidable.byContradiction fun h => ho (by simp [h])
    obtain rfl : b = 0 := Decidable.byContradiction fun h => ho (by simp [h])
    obtain rfl : ty = [] := Decidable.byContradiction fun h => ho (by simp [h])
    obtain rfl : cl = [] := Decidable.byContradiction fun h => ho (by simp [h])
    obtain rfl : nm = [] := Decidable.byContradiction fun h => ho (by simp [h])
    exact fault_6  w
theorem full_7 (a b : Int) (ty cl nm : List UInt8) (w : World) (ht : ty.length ≤ 1048576) (hc : cl.length ≤ 1048576) (hn : nm.length ≤ 1048576) :
    Calls Tryz.prog 59 #[insV ⟨7, a, b, ty, cl, nm⟩] w fun e w' => e = .returned (.int .i64 (insF ⟨7, a, b, ty, cl, nm⟩ : Int)) ∧ Below w.heap.size w w' := by
  by_cases ho : ((a == 0 || false) && (b == 0 || false) && (ty == [] || false) && (cl == [] || false) && (nm == [] || false)) = false
  · rw [insF_at 7 a b ty cl nm false false false false false (by decide) (by decide) (by decide), if_pos ho]
    exact bad_any (by decide) (by decide) needs_7 ho w
  · obtain rfl : a = 0 := Decidable.byContradiction fun h => ho (by simp [h])
    obtain rfl : b = 0 := Decidable.byContradiction fun h => ho (by simp [h])
    obtain rfl : ty = [] := Decidable.byContradiction fun h => ho (by simp [h])
    obtain rfl : cl = [] := Decidable.byContradiction fun h => ho (by simp [h])
    obtain rfl : nm = [] := Decidable.byContradiction fun h => ho (by simp [h])
    exact fault_7  w
theorem full_8 (a b : Int) (ty cl nm : List UInt8) (w : World) (ht : ty.length ≤ 1048576) (hc : cl.length ≤ 1048576) (hn : nm.length ≤ 1048576) :
    Calls Tryz.prog 59 #[insV ⟨8, a, b, ty, cl, nm⟩] w fun e w' => e = .returned (.int .i64 (insF ⟨8, a, b, ty, cl, nm⟩ : Int)) ∧ Below w.heap.size w w' := by
  by_cases ho : ((a == 0 || false) && (b == 0 || false) && (ty == [] || false) && (cl == [] || false) && (nm == [] || false)) = false
  · rw [insF_at 8 a b ty cl nm false false false false false (by decide) (by decide) (by decide), if_pos ho]
    exact bad_any (by decide) (by decide) needs_8 ho w
  · obtain rfl : a = 0 := Decidable.byContradiction fun h => ho (by simp [h])
    obtain rfl : b = 0 := Decidable.byContradiction fun h => ho (by simp [h])
    obtain rfl : ty = [] := Decidable.byContradiction fun h => ho (by simp [h])
    obtain rfl : cl = [] := Decidable.byContradiction fun h => ho (by simp [h])
    obtain rfl : nm = [] := Decidable.byContradiction fun h => ho (by simp [h])
    exact fault_8  w
theorem full_9 (a b : Int) (ty cl nm : List UInt8) (w : World) (ht : ty.length ≤ 1048576) (hc : cl.length ≤ 1048576) (hn : nm.length ≤ 1048576) :
    Calls Tryz.prog 59 #[insV ⟨9, a, b, ty, cl, nm⟩] w fun e w' => e = .returned (.int .i64 (insF ⟨9, a, b, ty, cl, nm⟩ : Int)) ∧ Below w.heap.size w w' := by
  by_cases ho : ((a == 0 || true) && (b == 0 || false) && (ty == [] || true) && (cl == [] || false) && (nm == [] || false)) = false
  · rw [insF_at 9 a b ty cl nm true false true false false (by decide) (by decide) (by decide), if_pos ho]
    exact bad_any (by decide) (by decide) needs_9 ho w
  · obtain rfl : b = 0 := Decidable.byContradiction fun h => ho (by simp [h])
    obtain rfl : cl = [] := Decidable.byContradiction fun h => ho (by simp [h])
    obtain rfl : nm = [] := Decidable.byContradiction fun h => ho (by simp [h])
    exact fault_9 a ty w ht
theorem full_10 (a b : Int) (ty cl nm : List UInt8) (w : World) (ht : ty.length ≤ 1048576) (hc : cl.length ≤ 1048576) (hn : nm.length ≤ 1048576) :
    Calls Tryz.prog 59 #[insV ⟨10, a, b, ty, cl, nm⟩] w fun e w' => e = .returned (.int .i64 (insF ⟨10, a, b, ty, cl, nm⟩ : Int)) ∧ Below w.heap.size w w' := by
  by_cases ho : ((a == 0 || false) && (b == 0 || false) && (ty == [] || true) && (cl == [] || false) && (nm == [] || false)) = false
  · rw [insF_at 10 a b ty cl nm false false true false false (by decide) (by decide) (by decide), if_pos ho]
    exact bad_any (by decide) (by decide) needs_10 ho w
  · obtain rfl : a = 0 := Decidable.byContradiction fun h => ho (by simp [h])
    obtain rfl : b = 0 := Decidable.byContradiction fun h => ho (by simp [h])
    obtain rfl : cl = [] := Decidable.byContradiction fun h => ho (by simp [h])
    obtain rfl : nm = [] := Decidable.byContradiction fun h => ho (by simp [h])
    exact fault_10 ty w ht
theorem full_11 (a b : Int) (ty cl nm : List UInt8) (w : World) (ht : ty.length ≤ 1048576) (hc : cl.length ≤ 1048576) (hn : nm.length ≤ 1048576) :
    Calls Tryz.prog 59 #[insV ⟨11, a, b, ty, cl, nm⟩] w fun e w' => e = .returned (.int .i64 (insF ⟨11, a, b, ty, cl, nm⟩ : Int)) ∧ Below w.heap.size w w' := by
  by_cases ho : ((a == 0 || false) && (b == 0 || false) && (ty == [] || false) && (cl == [] || false) && (nm == [] || false)) = false
  · rw [insF_at 11 a b ty cl nm false false false false false (by decide) (by decide) (by decide), if_pos ho]
    exact bad_any (by decide) (by decide) needs_11 ho w
  · obtain rfl : a = 0 := Decidable.byContradiction fun h => ho (by simp [h])
    obtain rfl : b = 0 := Decidable.byContradiction fun h => ho (by simp [h])
    obtain rfl : ty = [] := Decidable.byContradiction fun h => ho (by simp [h])
    obtain rfl : cl = [] := Decidable.byContradiction fun h => ho (by simp [h])
    obtain rfl : nm = [] := Decidable.byContradiction fun h => ho (by simp [h])
    exact fault_11  w
theorem full_12 (a b : Int) (ty cl nm : List UInt8) (w : World) (ht : ty.length ≤ 1048576) (hc : cl.length ≤ 1048576) (hn : nm.length ≤ 1048576) :
    Calls Tryz.prog 59 #[insV ⟨12, a, b, ty, cl, nm⟩] w fun e w' => e = .returned (.int .i64 (insF ⟨12, a, b, ty, cl, nm⟩ : Int)) ∧ Below w.heap.size w w' := by
  by_cases ho : ((a == 0 || true) && (b == 0 || true) && (ty == [] || false) && (cl == [] || false) && (nm == [] || false)) = false
  · rw [insF_at 12 a b ty cl nm true true false false false (by decide) (by decide) (by decide), if_pos ho]
    exact bad_any (by decide) (by decide) needs_12 ho w
  · obtain rfl : ty = [] := Decidable.byContradiction fun h => ho (by simp [h])
    obtain rfl : cl = [] := Decidable.byContradiction fun h => ho (by simp [h])
    obtain rfl : nm = [] := Decidable.byContradiction fun h => ho (by simp [h])
    exact fault_12 a b w
theorem full_13 (a b : Int) (ty cl nm : List UInt8) (w : World) (ht : ty.length ≤ 1048576) (hc : cl.length ≤ 1048576) (hn : nm.length ≤ 1048576) :
    Calls Tryz.prog 59 #[insV ⟨13, a, b, ty, cl, nm⟩] w fun e w' => e = .returned (.int .i64 (insF ⟨13, a, b, ty, cl, nm⟩ : Int)) ∧ Below w.heap.size w w' := by
  by_cases ho : ((a == 0 || true) && (b == 0 || false) && (ty == [] || false) && (cl == [] || false) && (nm == [] || false)) = false
  · rw [insF_at 13 a b ty cl nm true false false false false (by decide) (by decide) (by decide), if_pos ho]
    exact bad_any (by decide) (by decide) needs_13 ho w
  · obtain rfl : b = 0 := Decidable.byContradiction fun h => ho (by simp [h])
    obtain rfl : ty = [] := Decidable.byContradiction fun h => ho (by simp [h])
    obtain rfl : cl = [] := Decidable.byContradiction fun h => ho (by simp [h])
    obtain rfl : nm = [] := Decidable.byContradiction fun h => ho (by simp [h])
    exact fault_13 a w
theorem full_14 (a b : Int) (ty cl nm : List UInt8) (w : World) (ht : ty.length ≤ 1048576) (hc : cl.length ≤ 1048576) (hn : nm.length ≤ 1048576) :
    Calls Tryz.prog 59 #[insV ⟨14, a, b, ty, cl, nm⟩] w fun e w' => e = .returned (.int .i64 (insF ⟨14, a, b, ty, cl, nm⟩ : Int)) ∧ Below w.heap.size w w' := by
  by_cases ho : ((a == 0 || true) && (b == 0 || false) && (ty == [] || false) && (cl == [] || false) && (nm == [] || false)) = false
  · rw [insF_at 14 a b ty cl nm true false false false false (by decide) (by decide) (by decide), if_pos ho]
    exact bad_any (by decide) (by decide) needs_14 ho w
  · obtain rfl : b = 0 := Decidable.byContradiction fun h => ho (by simp [h])
    obtain rfl : ty = [] := Decidable.byContradiction fun h => ho (by simp [h])
    obtain rfl : cl = [] := Decidable.byContradiction fun h => ho (by simp [h])
    obtain rfl : nm = [] := Decidable.byContradiction fun h => ho (by simp [h])
    exact fault_14 a w
theorem full_15 (a b : Int) (ty cl nm : List UInt8) (w : World) (ht : ty.length ≤ 1048576) (hc : cl.length ≤ 1048576) (hn : nm.length ≤ 1048576) :
    Calls Tryz.prog 59 #[insV ⟨15, a, b, ty, cl, nm⟩] w fun e w' => e = .returned (.int .i64 (insF ⟨15, a, b, ty, cl, nm⟩ : Int)) ∧ Below w.heap.size w w' := by
  by_cases ho : ((a == 0 || false) && (b == 0 || false) && (ty == [] || false) && (cl == [] || true) && (nm == [] || false)) = false
  · rw [insF_at 15 a b ty cl nm false false false true false (by decide) (by decide) (by decide), if_pos ho]
    exact bad_any (by decide) (by decide) needs_15 ho w
  · obtain rfl : a = 0 := Decidable.byContradiction fun h => ho (by simp [h])
    obtain rfl : b = 0 := Decidable.byContradiction fun h => ho (by simp [h])
    obtain rfl : ty = [] := Decidable.byContradiction fun h => ho (by simp [h])
    obtain rfl : nm = [] := Decidable.byContradiction fun h => ho (by simp [h])
    exact fault_15 cl w hc
theorem full_16 (a b : Int) (ty cl nm : List UInt8) (w : World) (ht : ty.length ≤ 1048576) (hc : cl.length ≤ 1048576) (hn : nm.length ≤ 1048576) :
    Calls Tryz.prog 59 #[insV ⟨16, a, b, ty, cl, nm⟩] w fun e w' => e = .returned (.int .i64 (insF ⟨16, a, b, ty, cl, nm⟩ : Int)) ∧ Below w.heap.size w w' := by
  by_cases ho : ((a == 0 || false) && (b == 0 || false) && (ty == [] || false) && (cl == [] || true) && (nm == [] || true)) = false
  · rw [insF_at 16 a b ty cl nm false false false true true (by decide) (by decide) (by decide), if_pos ho]
    exact bad_any (by decide) (by decide) needs_16 ho w
  · obtain rfl : a = 0 := Decidable.byContradiction fun h => ho (by simp [h])
    obtain rfl : b = 0 := Decidable.byContradiction fun h => ho (by simp [h])
    obtain rfl : ty = [] := Decidable.byContradiction fun h => ho (by simp [h])
    exact fault_16 cl nm w hc hn
theorem full_17 (a b : Int) (ty cl nm : List UInt8) (w : World) (ht : ty.length ≤ 1048576) (hc : cl.length ≤ 1048576) (hn : nm.length ≤ 1048576) :
    Calls Tryz.prog 59 #[insV ⟨17, a, b, ty, cl, nm⟩] w fun e w' => e = .returned (.int .i64 (insF ⟨17, a, b, ty, cl, nm⟩ : Int)) ∧ Below w.heap.size w w' := by
  by_cases ho : ((a == 0 || false) && (b == 0 || false) && (ty == [] || false) && (cl == [] || true) && (nm == [] || true)) = false
  · rw [insF_at 17 a b ty cl nm false false false true true (by decide) (by decide) (by decide), if_pos ho]
    exact bad_any (by decide) (by decide) needs_17 ho w
  · obtain rfl : a = 0 := Decidable.byContradiction fun h => ho (by simp [h])
    obtain rfl : b = 0 := Decidable.byContradiction fun h => ho (by simp [h])
    obtain rfl : ty = [] := Decidable.byContradiction fun h => ho (by simp [h])
    exact fault_17 cl nm w hc hn
theorem full_18 (a b : Int) (ty cl nm : List UInt8) (w : World) (ht : ty.length ≤ 1048576) (hc : cl.length ≤ 1048576) (hn : nm.length ≤ 1048576) :
    Calls Tryz.prog 59 #[insV ⟨18, a, b, ty, cl, nm⟩] w fun e w' => e = .returned (.int .i64 (insF ⟨18, a, b, ty, cl, nm⟩ : Int)) ∧ Below w.heap.size w w' := by
  by_cases ho : ((a == 0 || false) && (b == 0 || false) && (ty == [] || true) && (cl == [] || false) && (nm == [] || false)) = false
  · rw [insF_at 18 a b ty cl nm false false true false false (by decide) (by decide) (by decide), if_pos ho]
    exact bad_any (by decide) (by decide) needs_18 ho w
  · obtain rfl : a = 0 := Decidable.byContradiction fun h => ho (by simp [h])
    obtain rfl : b = 0 := Decidable.byContradiction fun h => ho (by simp [h])
    obtain rfl : cl = [] := Decidable.byContradiction fun h => ho (by simp [h])
    obtain rfl : nm = [] := Decidable.byContradiction fun h => ho (by simp [h])
    exact fault_18 ty w ht
theorem full_19 (a b : Int) (ty cl nm : List UInt8) (w : World) (ht : ty.length ≤ 1048576) (hc : cl.length ≤ 1048576) (hn : nm.length ≤ 1048576) :
    Calls Tryz.prog 59 #[insV ⟨19, a, b, ty, cl, nm⟩] w fun e w' => e = .returned (.int .i64 (insF ⟨19, a, b, ty, cl, nm⟩ : Int)) ∧ Below w.heap.size w w' := by
  by_cases ho : ((a == 0 || false) && (b == 0 || false) && (ty == [] || false) && (cl == [] || false) && (nm == [] || false)) = false
  · rw [insF_at 19 a b ty cl nm false false false false false (by decide) (by decide) (by decide), if_pos ho]
    exact bad_any (by decide) (by decide) needs_19 ho w
  · obtain rfl : a = 0 := Decidable.byContradiction fun h => ho (by simp [h])
    obtain rfl : b = 0 := Decidable.byContradiction fun h => ho (by simp [h])
    obtain rfl : ty = [] := Decidable.byContradiction fun h => ho (by simp [h])
    obtain rfl : cl = [] := Decidable.byContradiction fun h => ho (by simp [h])
    obtain rfl : nm = [] := Decidable.byContradiction fun h => ho (by simp [h])
    exact fault_19  w
theorem full_20 (a b : Int) (ty cl nm : List UInt8) (w : World) (ht : ty.length ≤ 1048576) (hc : cl.length ≤ 1048576) (hn : nm.length ≤ 1048576) :
    Calls Tryz.prog 59 #[insV ⟨20, a, b, ty, cl, nm⟩] w fun e w' => e = .returned (.int .i64 (insF ⟨20, a, b, ty, cl, nm⟩ : Int)) ∧ Below w.heap.size w w' := by
  by_cases ho : ((a == 0 || false) && (b == 0 || false) && (ty == [] || true) && (cl == [] || false) && (nm == [] || false)) = false
  · rw [insF_at 20 a b ty cl nm false false true false false (by decide) (by decide) (by decide), if_pos ho]
    exact bad_any (by decide) (by decide) needs_20 ho w
  · obtain rfl : a = 0 := Decidable.byContradiction fun h => ho (by simp [h])
    obtain rfl : b = 0 := Decidable.byContradiction fun h => ho (by simp [h])
    obtain rfl : cl = [] := Decidable.byContradiction fun h => ho (by simp [h])
    obtain rfl : nm = [] := Decidable.byContradiction fun h => ho (by simp [h])
    exact fault_20 ty w ht
theorem full_21 (a b : Int) (ty cl nm : List UInt8) (w : World) (ht : ty.length ≤ 1048576) (hc : cl.length ≤ 1048576) (hn : nm.length ≤ 1048576) :
    Calls Tryz.prog 59 #[insV ⟨21, a, b, ty, cl, nm⟩] w fun e w' => e = .returned (.int .i64 (insF ⟨21, a, b, ty, cl, nm⟩ : Int)) ∧ Below w.heap.size w w' := by
  by_cases ho : ((a == 0 || false) && (b == 0 || false) && (ty == [] || true) && (cl == [] || false) && (nm == [] || false)) = false
  · rw [insF_at 21 a b ty cl nm false false true false false (by decide) (by decide) (by decide), if_pos ho]
    exact bad_any (by decide) (by decide) needs_21 ho w
  · obtain rfl : a = 0 := Decidable.byContradiction fun h => ho (by simp [h])
    obtain rfl : b = 0 := Decidable.byContradiction fun h => ho (by simp [h])
    obtain rfl : cl = [] := Decidable.byContradiction fun h => ho (by simp [h])
    obtain rfl : nm = [] := Decidable.byContradiction fun h => ho (by simp [h])
    exact fault_21 ty w ht
theorem full_22 (a b : Int) (ty cl nm : List UInt8) (w : World) (ht : ty.length ≤ 1048576) (hc : cl.length ≤ 1048576) (hn : nm.length ≤ 1048576) :
    Calls Tryz.prog 59 #[insV ⟨22, a, b, ty, cl, nm⟩] w fun e w' => e = .returned (.int .i64 (insF ⟨22, a, b, ty, cl, nm⟩ : Int)) ∧ Below w.heap.size w w' := by
  by_cases ho : ((a == 0 || false) && (b == 0 || false) && (ty == [] || true) && (cl == [] || false) && (nm == [] || false)) = false
  · rw [insF_at 22 a b ty cl nm false false true false false (by decide) (by decide) (by decide), if_pos ho]
    exact bad_any (by decide) (by decide) needs_22 ho w
  · obtain rfl : a = 0 := Decidable.byContradiction fun h => ho (by simp [h])
    obtain rfl : b = 0 := Decidable.byContradiction fun h => ho (by simp [h])
    obtain rfl : cl = [] := Decidable.byContradiction fun h => ho (by simp [h])
    obtain rfl : nm = [] := Decidable.byContradiction fun h => ho (by simp [h])
    exact fault_22 ty w ht
theorem full_23 (a b : Int) (ty cl nm : List UInt8) (w : World) (ht : ty.length ≤ 1048576) (hc : cl.length ≤ 1048576) (hn : nm.length ≤ 1048576) :
    Calls Tryz.prog 59 #[insV ⟨23, a, b, ty, cl, nm⟩] w fun e w' => e = .returned (.int .i64 (insF ⟨23, a, b, ty, cl, nm⟩ : Int)) ∧ Below w.heap.size w w' := by
  by_cases ho : ((a == 0 || false) && (b == 0 || false) && (ty == [] || true) && (cl == [] || false) && (nm == [] || false)) = false
  · rw [insF_at 23 a b ty cl nm false false true false false (by decide) (by decide) (by decide), if_pos ho]
    exact bad_any (by decide) (by decide) needs_23 ho w
  · obtain rfl : a = 0 := Decidable.byContradiction fun h => ho (by simp [h])
    obtain rfl : b = 0 := Decidable.byContradiction fun h => ho (by simp [h])
    obtain rfl : cl = [] := Decidable.byContradiction fun h => ho (by simp [h])
    obtain rfl : nm = [] := Decidable.byContradiction fun h => ho (by simp [h])
    exact fault_23 ty w ht
theorem full_24 (a b : Int) (ty cl nm : List UInt8) (w : World) (ht : ty.length ≤ 1048576) (hc : cl.length ≤ 1048576) (hn : nm.length ≤ 1048576) :
    Calls Tryz.prog 59 #[insV ⟨24, a, b, ty, cl, nm⟩] w fun e w' => e = .returned (.int .i64 (insF ⟨24, a, b, ty, cl, nm⟩ : Int)) ∧ Below w.heap.size w w' := by
  by_cases ho : ((a == 0 || false) && (b == 0 || false) && (ty == [] || true) && (cl == [] || true) && (nm == [] || true)) = false
  · rw [insF_at 24 a b ty cl nm false false true true true (by decide) (by decide) (by decide), if_pos ho]
    exact bad_any (by decide) (by decide) needs_24 ho w
  · obtain rfl : a = 0 := Decidable.byContradiction fun h => ho (by simp [h])
    obtain rfl : b = 0 := Decidable.byContradiction fun h => ho (by simp [h])
    exact fault_24 ty cl nm w ht hc hn
theorem full_25 (a b : Int) (ty cl nm : List UInt8) (w : World) (ht : ty.length ≤ 1048576) (hc : cl.length ≤ 1048576) (hn : nm.length ≤ 1048576) :
    Calls Tryz.prog 59 #[insV ⟨25, a, b, ty, cl, nm⟩] w fun e w' => e = .returned (.int .i64 (insF ⟨25, a, b, ty, cl, nm⟩ : Int)) ∧ Below w.heap.size w w' := by
  by_cases ho : ((a == 0 || false) && (b == 0 || false) && (ty == [] || true) && (cl == [] || true) && (nm == [] || true)) = false
  · rw [insF_at 25 a b ty cl nm false false true true true (by decide) (by decide) (by decide), if_pos ho]
    exact bad_any (by decide) (by decide) needs_25 ho w
  · obtain rfl : a = 0 := Decidable.byContradiction fun h => ho (by simp [h])
    obtain rfl : b = 0 := Decidable.byContradiction fun h => ho (by simp [h])
    exact fault_25 ty cl nm w ht hc hn
theorem full_26 (a b : Int) (ty cl nm : List UInt8) (w : World) (ht : ty.length ≤ 1048576) (hc : cl.length ≤ 1048576) (hn : nm.length ≤ 1048576) :
    Calls Tryz.prog 59 #[insV ⟨26, a, b, ty, cl, nm⟩] w fun e w' => e = .returned (.int .i64 (insF ⟨26, a, b, ty, cl, nm⟩ : Int)) ∧ Below w.heap.size w w' := by
  by_cases ho : ((a == 0 || false) && (b == 0 || false) && (ty == [] || false) && (cl == [] || false) && (nm == [] || false)) = false
  · rw [insF_at 26 a b ty cl nm false false false false false (by decide) (by decide) (by decide), if_pos ho]
    exact bad_any (by decide) (by decide) needs_26 ho w
  · obtain rfl : a = 0 := Decidable.byContradiction fun h => ho (by simp [h])
    obtain rfl : b = 0 := Decidable.byContradiction fun h => ho (by simp [h])
    obtain rfl : ty = [] := Decidable.byContradiction fun h => ho (by simp [h])
    obtain rfl : cl = [] := Decidable.byContradiction fun h => ho (by simp [h])
    obtain rfl : nm = [] := Decidable.byContradiction fun h => ho (by simp [h])
    exact fault_26  w
theorem full_27 (a b : Int) (ty cl nm : List UInt8) (w : World) (ht : ty.length ≤ 1048576) (hc : cl.length ≤ 1048576) (hn : nm.length ≤ 1048576) :
    Calls Tryz.prog 59 #[insV ⟨27, a, b, ty, cl, nm⟩] w fun e w' => e = .returned (.int .i64 (insF ⟨27, a, b, ty, cl, nm⟩ : Int)) ∧ Below w.heap.size w w' := by
  by_cases ho : ((a == 0 || false) && (b == 0 || false) && (ty == [] || false) && (cl == [] || false) && (nm == [] || false)) = false
  · rw [insF_at 27 a b ty cl nm false false false false false (by decide) (by decide) (by decide), if_pos ho]
    exact bad_any (by decide) (by decide) needs_27 ho w
  · obtain rfl : a = 0 := Decidable.byContradiction fun h => ho (by simp [h])
    obtain rfl : b = 0 := Decidable.byContradiction fun h => ho (by simp [h])
    obtain rfl : ty = [] := Decidable.byContradiction fun h => ho (by simp [h])
    obtain rfl : cl = [] := Decidable.byContradiction fun h => ho (by simp [h])
    obtain rfl : nm = [] := Decidable.byContradiction fun h => ho (by simp [h])
    exact fault_27  w
theorem full_28 (a b : Int) (ty cl nm : List UInt8) (w : World) (ht : ty.length ≤ 1048576) (hc : cl.length ≤ 1048576) (hn : nm.length ≤ 1048576) :
    Calls Tryz.prog 59 #[insV ⟨28, a, b, ty, cl, nm⟩] w fun e w' => e = .returned (.int .i64 (insF ⟨28, a, b, ty, cl, nm⟩ : Int)) ∧ Below w.heap.size w w' := by
  by_cases ho : ((a == 0 || false) && (b == 0 || false) && (ty == [] || false) && (cl == [] || false) && (nm == [] || false)) = false
  · rw [insF_at 28 a b ty cl nm false false false false false (by decide) (by decide) (by decide), if_pos ho]
    exact bad_any (by decide) (by decide) needs_28 ho w
  · obtain rfl : a = 0 := Decidable.byContradiction fun h => ho (by simp [h])
    obtain rfl : b = 0 := Decidable.byContradiction fun h => ho (by simp [h])
    obtain rfl : ty = [] := Decidable.byContradiction fun h => ho (by simp [h])
    obtain rfl : cl = [] := Decidable.byContradiction fun h => ho (by simp [h])
    obtain rfl : nm = [] := Decidable.byContradiction fun h => ho (by simp [h])
    exact fault_28  w
theorem fault_any (x : InsD) (w : World) (ht : x.ty.length ≤ 1048576) (hc : x.cl.length ≤ 1048576) (hn : x.nm.length ≤ 1048576) :
    Calls Tryz.prog 59 #[insV x] w fun e w' => e = .returned (.int .i64 (insF x : Int)) ∧ Below w.heap.size w w' := by
  obtain ⟨op, a, b, ty, cl, nm⟩ := x
  by_cases h : op ≤ 0 ∨ 28 < op
  · rw [fault_low op h a b ty cl nm]
    exact fault_out op h a b ty cl nm w
  · have hc' : op = 1 ∨ op = 2 ∨ op = 3 ∨ op = 4 ∨ op = 5 ∨ op = 6 ∨ op = 7 ∨ op = 8 ∨ op = 9 ∨ op = 10 ∨ op = 11 ∨ op = 12 ∨ op = 13 ∨ op = 14 ∨ op = 15 ∨ op = 16 ∨ op = 17 ∨ op = 18 ∨ op = 19 ∨ op = 20 ∨ op = 21 ∨ op = 22 ∨ op = 23 ∨ op = 24 ∨ op = 25 ∨ op = 26 ∨ op = 27 ∨ op = 28 := by omega
    clear h
    rcases hc' with rfl | rfl | rfl | rfl | rfl | rfl | rfl | rfl | rfl | rfl | rfl | rfl | rfl | rfl | rfl | rfl | rfl | rfl | rfl | rfl | rfl | rfl | rfl | rfl | rfl | rfl | rfl | rfl
    · exact full_1 a b ty cl nm w ht hc hn
    · exact full_2 a b ty cl nm w ht hc hn
    · exact full_3 a b ty cl nm w ht hc hn
    · exact full_4 a b ty cl nm w ht hc hn
    · exact full_5 a b ty cl nm w ht hc hn
    · exact full_6 a b ty cl nm w ht hc hn
    · exact full_7 a b ty cl nm w ht hc hn
    · exact full_8 a b ty cl nm w ht hc hn
    · exact full_9 a b ty cl nm w ht hc hn
    · exact full_10 a b ty cl nm w ht hc hn
    · exact full_11 a b ty cl nm w ht hc hn
    · exact full_12 a b ty cl nm w ht hc hn
    · exact full_13 a b ty cl nm w ht hc hn
    · exact full_14 a b ty cl nm w ht hc hn
    · exact full_15 a b ty cl nm w ht hc hn
    · exact full_16 a b ty cl nm w ht hc hn
    · exact full_17 a b ty cl nm w ht hc hn
    · exact full_18 a b ty cl nm w ht hc hn
    · exact full_19 a b ty cl nm w ht hc hn
    · exact full_20 a b ty cl nm w ht hc hn
    · exact full_21 a b ty cl nm w ht hc hn
    · exact full_22 a b ty cl nm w ht hc hn
    · exact full_23 a b ty cl nm w ht hc hn
    · exact full_24 a b ty cl nm w ht hc hn
    · exact full_25 a b ty cl nm w ht hc hn
    · exact full_26 a b ty cl nm w ht hc hn
    · exact full_27 a b ty cl nm w ht hc hn
    · exact full_28 a b ty cl nm w ht hc hn
end Go.Proofs.YtkolpbjpgobkcaaGreatDoor
