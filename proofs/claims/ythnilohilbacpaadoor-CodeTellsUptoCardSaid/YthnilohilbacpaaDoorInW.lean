/- The reference's text of an instruction. -/
import Derived.Test.YthnilohilbacpaaDoorInF
import Derived.Test.YthnilohilbacpaaDoorInD
import Derived.Test.YthnilohilbacpaaDoorIn6
namespace Go.Proofs.YthnilohilbacpaaDoor
open Go.ChangeShapes Go.WideShapes Go.ChangeAt Go.RowKit
set_option linter.unusedVariables false
set_option linter.unusedSimpArgs false

theorem text_at (k : Int) (a b : Int) (ty cl nm W : List UInt8) (b0 b1 b2 b3 b4 : Bool) (hW : opW k.toNat = W) (h : ((opF k.toNat).testBit 0, (opF k.toNat).testBit 1, (opF k.toNat).testBit 2, (opF k.toNat).testBit 3, (opF k.toNat).testBit 4) = (b0, b1, b2, b3, b4)) :
    textM ⟨k, a, b, ty, cl, nm⟩ = W ++ ((if b0 then [Lib.itoa a] else []) ++ (if b1 then [Lib.itoa b] else []) ++ (if b2 then [ty] else []) ++ (if b3 then [cl] else []) ++ (if b4 then [nm] else [])).flatMap (32 :: ·) := by
  simp only [Prod.mk.injEq] at h
  obtain ⟨rfl, rfl, rfl, rfl, rfl⟩ := h
  subst hW
  rfl
theorem row_cell {w w1 : World} {o : Obj} {B : Array Value} {t : TypeId} {f : Nat × Nat} (hb : Below ((w.alloc o).alloc (.cells B t f)).heap.size ((w.alloc o).alloc (.cells B t f)) w1) (j : Nat) {v : Value} (hj : B[j]? = some v) :
    w.heap.size + 1 < w1.heap.size ∧ w1.cell? ⟨w.heap.size + 1, j, none⟩ = some v := by
  have hs : (w.alloc o).heap.size = w.heap.size + 1 := by simp
  have hlt : w.heap.size + 1 < ((w.alloc o).alloc (.cells B t f)).heap.size := by simp
  refine ⟨Nat.lt_of_lt_of_le hlt hb.size, ?_⟩
  rw [hb.cell (p := ⟨w.heap.size + 1, j, none⟩) hlt, ← hs, World.cell?_alloc_mark]
  exact hj
theorem itoa_size (n : Int) (h : i64B n) : (bs (Lib.itoa n)).size ≤ 21 := by
  rw [bs_size]
  exact Lib.itoa_length_le _ h.1 h.2
set_option maxHeartbeats 2000000 in
theorem word_1 (a b : Int) (ty cl nm : List UInt8) (ha : i64B a) (hb : i64B b) (w : World) (ht : ty.length ≤ 1048576) (hc : cl.length ≤ 1048576) (hn : nm.length ≤ 1048576) :
    Calls Tryd.prog 23 #[insV ⟨1, a, b, ty, cl, nm⟩] w fun e w' => e = .returned (.string (bs (textM ⟨1, a, b, ty, cl, nm⟩))) ∧ Below w.heap.size w w' := by
  have E := Lib.hid (text_at 1 a b ty cl nm [110, 111, 112] false false false false false rfl (by decide))
  have HN := Lib.hid needs_1
  have HA := Lib.hid (fun w => digits_any a ha w)
  have HB := Lib.hid (fun w => digits_any b hb w)
  have za := itoa_size a ha
  have zb := itoa_size b hb
  have zt : (bs ty).size ≤ 1048576 := ht
  have zc : (bs cl).size ≤ 1048576 := hc
  have zn : (bs nm).size ≤ 1048576 := hn
  clear ha hb ht hc hn
  unfold insV
  go_enter Tryd.func23, Tryd.ntmps23
  go_wp2_with (first
    | (go_at_call 18; (with_reducible refine (HN.out _).mono ?_); rintro e w1 ⟨rfl, b1⟩
       have BX1 := box_new ⟨1, a, b, ty, cl, nm⟩ _ _ rfl (bnext (al0 _ _) b1)
       have RC1 := row_cell b1 1 rfl
       have L1 := Lib.hid BX1.2
       obtain ⟨q0, q1, q2, q3, q4, q5, q6⟩ := BX1.1
       obtain ⟨r0, r1⟩ := RC1
       clear BX1 b1)
    | (go_at_call 35; first
       | ((with_reducible refine (HA.out _).mono ?_); rintro e w' ⟨rfl, rfl⟩)
       | ((with_reducible refine (HB.out _).mono ?_); rintro e w' ⟨rfl, rfl⟩)))
  all_goals
    go_ret
    exact ⟨ret_string (by rw [E.out]; exact bs_eq (by simp [bs_list])), bnext L1.out (al0 _ _)⟩
set_option maxHeartbeats 2000000 in
theorem word_2 (a b : Int) (ty cl nm : List UInt8) (ha : i64B a) (hb : i64B b) (w : World) (ht : ty.length ≤ 1048576) (hc : cl.length ≤ 1048576) (hn : nm.length ≤ 1048576) :
    Calls Tryd.prog 23 #[insV ⟨2, a, b, ty, cl, nm⟩] w fun e w' => e = .returned (.string (bs (textM ⟨2, a, b, ty, cl, nm⟩))) ∧ Below w.heap.size w w' := by
  have E := Lib.hid (text_at 2 a b ty cl nm [112, 117, 115, 104] true false true false false rfl (by decide))
  have HN := Lib.hid needs_2
  have HA := Lib.hid (fun w => digits_any a ha w)
  have HB := Lib.hid (fun w => digits_any b hb w)
  have za := itoa_size a ha
  have zb := itoa_size b hb
  have zt : (bs ty).size ≤ 1048576 := ht
  have zc : (bs cl).size ≤ 1048576 := hc
  have zn : (bs nm).size ≤ 1048576 := hn
  clear ha hb ht hc hn
  unfold insV
  go_enter Tryd.func23, Tryd.ntmps23
  go_wp2_with (first
    | (go_at_call 18; (with_reducible refine (HN.out _).mono ?_); rintro e w1 ⟨rfl, b1⟩
       have BX1 := box_new ⟨2, a, b, ty, cl, nm⟩ _ _ rfl (bnext (al0 _ _) b1)
       have RC1 := row_cell b1 2 rfl
       have L1 := Lib.hid BX1.2
       obtain ⟨q0, q1, q2, q3, q4, q5, q6⟩ := BX1.1
       obtain ⟨r0, r1⟩ := RC1
       clear BX1 b1)
    | (go_at_call 35; first
       | ((with_reducible refine (HA.out _).mono ?_); rintro e w' ⟨rfl, rfl⟩)
       | ((with_reducible refine (HB.out _).mono ?_); rintro e w' ⟨rfl, rfl⟩)))
  all_goals
    go_ret
    exact ⟨ret_string (by rw [E.out]; exact bs_eq (by simp [bs_list])), bnext L1.out (al0 _ _)⟩
set_option maxHeartbeats 2000000 in
theorem word_3 (a b : Int) (ty cl nm : List UInt8) (ha : i64B a) (hb : i64B b) (w : World) (ht : ty.length ≤ 1048576) (hc : cl.length ≤ 1048576) (hn : nm.length ≤ 1048576) :
    Calls Tryd.prog 23 #[insV ⟨3, a, b, ty, cl, nm⟩] w fun e w' => e = .returned (.string (bs (textM ⟨3, a, b, ty, cl, nm⟩))) ∧ Below w.heap.size w w' := by
  have E := Lib.hid (text_at 3 a b ty cl nm [110, 117, 108, 108] false false false false false rfl (by decide))
  have HN := Lib.hid needs_3
  have HA := Lib.hid (fun w => digits_any a ha w)
  have HB := Lib.hid (fun w => digits_any b hb w)
  have za := itoa_size a ha
  have zb := itoa_size b hb
  have zt : (bs ty).size ≤ 1048576 := ht
  have zc : (bs cl).size ≤ 1048576 := hc
  have zn : (bs nm).size ≤ 1048576 := hn
  clear ha hb ht hc hn
  unfold insV
  go_enter Tryd.func23, Tryd.ntmps23
  go_wp2_with (first
    | (go_at_call 18; (with_reducible refine (HN.out _).mono ?_); rintro e w1 ⟨rfl, b1⟩
       have BX1 := box_new ⟨3, a, b, ty, cl, nm⟩ _ _ rfl (bnext (al0 _ _) b1)
       have RC1 := row_cell b1 3 rfl
       have L1 := Lib.hid BX1.2
       obtain ⟨q0, q1, q2, q3, q4, q5, q6⟩ := BX1.1
       obtain ⟨r0, r1⟩ := RC1
       clear BX1 b1)
    | (go_at_call 35; first
       | ((with_reducible refine (HA.out _).mono ?_); rintro e w' ⟨rfl, rfl⟩)
       | ((with_reducible refine (HB.out _).mono ?_); rintro e w' ⟨rfl, rfl⟩)))
  all_goals
    go_ret
    exact ⟨ret_string (by rw [E.out]; exact bs_eq (by simp [bs_list])), bnext L1.out (al0 _ _)⟩
set_option maxHeartbeats 2000000 in
theorem word_4 (a b : Int) (ty cl nm : List UInt8) (ha : i64B a) (hb : i64B b) (w : World) (ht : ty.length ≤ 1048576) (hc : cl.length ≤ 1048576) (hn : nm.length ≤ 1048576) :
    Calls Tryd.prog 23 #[insV ⟨4, a, b, ty, cl, nm⟩] w fun e w' => e = .returned (.string (bs (textM ⟨4, a, b, ty, cl, nm⟩))) ∧ Below w.heap.size w w' := by
  have E := Lib.hid (text_at 4 a b ty cl nm [108, 111, 97, 100] true false false false false rfl (by decide))
  have HN := Lib.hid needs_4
  have HA := Lib.hid (fun w => digits_any a ha w)
  have HB := Lib.hid (fun w => digits_any b hb w)
  have za := itoa_size a ha
  have zb := itoa_size b hb
  have zt : (bs ty).size ≤ 1048576 := ht
  have zc : (bs cl).size ≤ 1048576 := hc
  have zn : (bs nm).size ≤ 1048576 := hn
  clear ha hb ht hc hn
  unfold insV
  go_enter Tryd.func23, Tryd.ntmps23
  go_wp2_with (first
    | (go_at_call 18; (with_reducible refine (HN.out _).mono ?_); rintro e w1 ⟨rfl, b1⟩
       have BX1 := box_new ⟨4, a, b, ty, cl, nm⟩ _ _ rfl (bnext (al0 _ _) b1)
       have RC1 := row_cell b1 4 rfl
       have L1 := Lib.hid BX1.2
       obtain ⟨q0, q1, q2, q3, q4, q5, q6⟩ := BX1.1
       obtain ⟨r0, r1⟩ := RC1
       clear BX1 b1)
    | (go_at_call 35; first
       | ((with_reducible refine (HA.out _).mono ?_); rintro e w' ⟨rfl, rfl⟩)
       | ((with_reducible refine (HB.out _).mono ?_); rintro e w' ⟨rfl, rfl⟩)))
  all_goals
    go_ret
    exact ⟨ret_string (by rw [E.out]; exact bs_eq (by simp [bs_list])), bnext L1.out (al0 _ _)⟩
set_option maxHeartbeats 2000000 in
theorem word_5 (a b : Int) (ty cl nm : List UInt8) (ha : i64B a) (hb : i64B b) (w : World) (ht : ty.length ≤ 1048576) (hc : cl.length ≤ 1048576) (hn : nm.length ≤ 1048576) :
    Calls Tryd.prog 23 #[insV ⟨5, a, b, ty, cl, nm⟩] w fun e w' => e = .returned (.string (bs (textM ⟨5, a, b, ty, cl, nm⟩))) ∧ Below w.heap.size w w' := by
  have E := Lib.hid (text_at 5 a b ty cl nm [115, 116, 111, 114, 101] true false false false false rfl (by decide))
  have HN := Lib.hid needs_5
  have HA := Lib.hid (fun w => digits_any a ha w)
  have HB := Lib.hid (fun w => digits_any b hb w)
  have za := itoa_size a ha
  have zb := itoa_size b hb
  have zt : (bs ty).size ≤ 1048576 := ht
  have zc : (bs cl).size ≤ 1048576 := hc
  have zn : (bs nm).size ≤ 1048576 := hn
  clear ha hb ht hc hn
  unfold insV
  go_enter Tryd.func23, Tryd.ntmps23
  go_wp2_with (first
    | (go_at_call 18; (with_reducible refine (HN.out _).mono ?_); rintro e w1 ⟨rfl, b1⟩
       have BX1 := box_new ⟨5, a, b, ty, cl, nm⟩ _ _ rfl (bnext (al0 _ _) b1)
       have RC1 := row_cell b1 5 rfl
       have L1 := Lib.hid BX1.2
       obtain ⟨q0, q1, q2, q3, q4, q5, q6⟩ := BX1.1
       obtain ⟨r0, r1⟩ := RC1
       clear BX1 b1)
    | (go_at_call 35; first
       | ((with_reducible refine (HA.out _).mono ?_); rintro e w' ⟨rfl, rfl⟩)
       | ((with_reducible refine (HB.out _).mono ?_); rintro e w' ⟨rfl, rfl⟩)))
  all_goals
    go_ret
    exact ⟨ret_string (by rw [E.out]; exact bs_eq (by simp [bs_list])), bnext L1.out (al0 _ _)⟩
set_option maxHeartbeats 2000000 in
theorem word_6 (a b : Int) (ty cl nm : List UInt8) (ha : i64B a) (hb : i64B b) (w : World) (ht : ty.length ≤ 1048576) (hc : cl.length ≤ 1048576) (hn : nm.length ≤ 1048576) :
    Calls Tryd.prog 23 #[insV ⟨6, a, b, ty, cl, nm⟩] w fun e w' => e = .returned (.string (bs (textM ⟨6, a, b, ty, cl, nm⟩))) ∧ Below w.heap.size w w' := by
  have E := Lib.hid (text_at 6 a b ty cl nm [112, 111, 112] false false false false false rfl (by decide))
  have HN := Lib.hid needs_6
  have HA := Lib.hid (fun w => digits_any a ha w)
  have HB := Lib.hid (fun w => digits_any b hb w)
  have za := itoa_size a ha
  have zb := itoa_size b hb
  have zt : (bs ty).size ≤ 1048576 := ht
  have zc : (bs cl).size ≤ 1048576 := hc
  have zn : (bs nm).size ≤ 1048576 := hn
  clear ha hb ht hc hn
  unfold insV
  go_enter Tryd.func23, Tryd.ntmps23
  go_wp2_with (first
    | (go_at_call 18; (with_reducible refine (HN.out _).mono ?_); rintro e w1 ⟨rfl, b1⟩
       have BX1 := box_new ⟨6, a, b, ty, cl, nm⟩ _ _ rfl (bnext (al0 _ _) b1)
       have RC1 := row_cell b1 6 rfl
       have L1 := Lib.hid BX1.2
       obtain ⟨q0, q1, q2, q3, q4, q5, q6⟩ := BX1.1
       obtain ⟨r0, r1⟩ := RC1
       clear BX1 b1)
    | (go_at_call 35; first
       | ((with_reducible refine (HA.out _).mono ?_); rintro e w' ⟨rfl, rfl⟩)
       | ((with_reducible refine (HB.out _).mono ?_); rintro e w' ⟨rfl, rfl⟩)))
  all_goals
    go_ret
    exact ⟨ret_string (by rw [E.out]; exact bs_eq (by simp [bs_list])), bnext L1.out (al0 _ _)⟩
set_option maxHeartbeats 2000000 in
theorem word_7 (a b : Int) (ty cl nm : List UInt8) (ha : i64B a) (hb : i64B b) (w : World) (ht : ty.length ≤ 1048576) (hc : cl.length ≤ 1048576) (hn : nm.length ≤ 1048576) :
    Calls Tryd.prog 23 #[insV ⟨7, a, b, ty, cl, nm⟩] w fun e w' => e = .returned (.string (bs (textM ⟨7, a, b, ty, cl, nm⟩))) ∧ Below w.heap.size w w' := by
  have E := Lib.hid (text_at 7 a b ty cl nm [100, 117, 112] false false false false false rfl (by decide))
  have HN := Lib.hid needs_7
  have HA := Lib.hid (fun w => digits_any a ha w)
  have HB := Lib.hid (fun w => digits_any b hb w)
  have za := itoa_size a ha
  have zb := itoa_size b hb
  have zt : (bs ty).size ≤ 1048576 := ht
  have zc : (bs cl).size ≤ 1048576 := hc
  have zn : (bs nm).size ≤ 1048576 := hn
  clear ha hb ht hc hn
  unfold insV
  go_enter Tryd.func23, Tryd.ntmps23
  go_wp2_with (first
    | (go_at_call 18; (with_reducible refine (HN.out _).mono ?_); rintro e w1 ⟨rfl, b1⟩
       have BX1 := box_new ⟨7, a, b, ty, cl, nm⟩ _ _ rfl (bnext (al0 _ _) b1)
       have RC1 := row_cell b1 7 rfl
       have L1 := Lib.hid BX1.2
       obtain ⟨q0, q1, q2, q3, q4, q5, q6⟩ := BX1.1
       obtain ⟨r0, r1⟩ := RC1
       clear BX1 b1)
    | (go_at_call 35; first
       | ((with_reducible refine (HA.out _).mono ?_); rintro e w' ⟨rfl, rfl⟩)
       | ((with_reducible refine (HB.out _).mono ?_); rintro e w' ⟨rfl, rfl⟩)))
  all_goals
    go_ret
    exact ⟨ret_string (by rw [E.out]; exact bs_eq (by simp [bs_list])), bnext L1.out (al0 _ _)⟩
set_option maxHeartbeats 2000000 in
theorem word_8 (a b : Int) (ty cl nm : List UInt8) (ha : i64B a) (hb : i64B b) (w : World) (ht : ty.length ≤ 1048576) (hc : cl.length ≤ 1048576) (hn : nm.length ≤ 1048576) :
    Calls Tryd.prog 23 #[insV ⟨8, a, b, ty, cl, nm⟩] w fun e w' => e = .returned (.string (bs (textM ⟨8, a, b, ty, cl, nm⟩))) ∧ Below w.heap.size w w' := by
  have E := Lib.hid (text_at 8 a b ty cl nm [115, 119, 97, 112] false false false false false rfl (by decide))
  have HN := Lib.hid needs_8
  have HA := Lib.hid (fun w => digits_any a ha w)
  have HB := Lib.hid (fun w => digits_any b hb w)
  have za := itoa_size a ha
  have zb := itoa_size b hb
  have zt : (bs ty).size ≤ 1048576 := ht
  have zc : (bs cl).size ≤ 1048576 := hc
  have zn : (bs nm).size ≤ 1048576 := hn
  clear ha hb ht hc hn
  unfold insV
  go_enter Tryd.func23, Tryd.ntmps23
  go_wp2_with (first
    | (go_at_call 18; (with_reducible refine (HN.out _).mono ?_); rintro e w1 ⟨rfl, b1⟩
       have BX1 := box_new ⟨8, a, b, ty, cl, nm⟩ _ _ rfl (bnext (al0 _ _) b1)
       have RC1 := row_cell b1 8 rfl
       have L1 := Lib.hid BX1.2
       obtain ⟨q0, q1, q2, q3, q4, q5, q6⟩ := BX1.1
       obtain ⟨r0, r1⟩ := RC1
       clear BX1 b1)
    | (go_at_call 35; first
       | ((with_reducible refine (HA.out _).mono ?_); rintro e w' ⟨rfl, rfl⟩)
       | ((with_reducible refine (HB.out _).mono ?_); rintro e w' ⟨rfl, rfl⟩)))
  all_goals
    go_ret
    exact ⟨ret_string (by rw [E.out]; exact bs_eq (by simp [bs_list])), bnext L1.out (al0 _ _)⟩
set_option maxHeartbeats 2000000 in
theorem word_9 (a b : Int) (ty cl nm : List UInt8) (ha : i64B a) (hb : i64B b) (w : World) (ht : ty.length ≤ 1048576) (hc : cl.length ≤ 1048576) (hn : nm.length ≤ 1048576) :
    Calls Tryd.prog 23 #[insV ⟨9, a, b, ty, cl, nm⟩] w fun e w' => e = .returned (.string (bs (textM ⟨9, a, b, ty, cl, nm⟩))) ∧ Below w.heap.size w w' := by
  have E := Lib.hid (text_at 9 a b ty cl nm [109, 97, 116, 104] true false true false false rfl (by decide))
  have HN := Lib.hid needs_9
  have HA := Lib.hid (fun w => digits_any a ha w)
  have HB := Lib.hid (fun w => digits_any b hb w)
  have za := itoa_size a ha
  have zb := itoa_size b hb
  have zt : (bs ty).size ≤ 1048576 := ht
  have zc : (bs cl).size ≤ 1048576 := hc
  have zn : (bs nm).size ≤ 1048576 := hn
  clear ha hb ht hc hn
  unfold insV
  go_enter Tryd.func23, Tryd.ntmps23
  go_wp2_with (first
    | (go_at_call 18; (with_reducible refine (HN.out _).mono ?_); rintro e w1 ⟨rfl, b1⟩
       have BX1 := box_new ⟨9, a, b, ty, cl, nm⟩ _ _ rfl (bnext (al0 _ _) b1)
       have RC1 := row_cell b1 9 rfl
       have L1 := Lib.hid BX1.2
       obtain ⟨q0, q1, q2, q3, q4, q5, q6⟩ := BX1.1
       obtain ⟨r0, r1⟩ := RC1
       clear BX1 b1)
    | (go_at_call 35; first
       | ((with_reducible refine (HA.out _).mono ?_); rintro e w' ⟨rfl, rfl⟩)
       | ((with_reducible refine (HB.out _).mono ?_); rintro e w' ⟨rfl, rfl⟩)))
  all_goals
    go_ret
    exact ⟨ret_string (by rw [E.out]; exact bs_eq (by simp [bs_list])), bnext L1.out (al0 _ _)⟩
set_option maxHeartbeats 2000000 in
theorem word_10 (a b : Int) (ty cl nm : List UInt8) (ha : i64B a) (hb : i64B b) (w : World) (ht : ty.length ≤ 1048576) (hc : cl.length ≤ 1048576) (hn : nm.length ≤ 1048576) :
    Calls Tryd.prog 23 #[insV ⟨10, a, b, ty, cl, nm⟩] w fun e w' => e = .returned (.string (bs (textM ⟨10, a, b, ty, cl, nm⟩))) ∧ Below w.heap.size w w' := by
  have E := Lib.hid (text_at 10 a b ty cl nm [99, 111, 110, 118] false false true false false rfl (by decide))
  have HN := Lib.hid needs_10
  have HA := Lib.hid (fun w => digits_any a ha w)
  have HB := Lib.hid (fun w => digits_any b hb w)
  have za := itoa_size a ha
  have zb := itoa_size b hb
  have zt : (bs ty).size ≤ 1048576 := ht
  have zc : (bs cl).size ≤ 1048576 := hc
  have zn : (bs nm).size ≤ 1048576 := hn
  clear ha hb ht hc hn
  unfold insV
  go_enter Tryd.func23, Tryd.ntmps23
  go_wp2_with (first
    | (go_at_call 18; (with_reducible refine (HN.out _).mono ?_); rintro e w1 ⟨rfl, b1⟩
       have BX1 := box_new ⟨10, a, b, ty, cl, nm⟩ _ _ rfl (bnext (al0 _ _) b1)
       have RC1 := row_cell b1 10 rfl
       have L1 := Lib.hid BX1.2
       obtain ⟨q0, q1, q2, q3, q4, q5, q6⟩ := BX1.1
       obtain ⟨r0, r1⟩ := RC1
       clear BX1 b1)
    | (go_at_call 35; first
       | ((with_reducible refine (HA.out _).mono ?_); rintro e w' ⟨rfl, rfl⟩)
       | ((with_reducible refine (HB.out _).mono ?_); rintro e w' ⟨rfl, rfl⟩)))
  all_goals
    go_ret
    exact ⟨ret_string (by rw [E.out]; exact bs_eq (by simp [bs_list])), bnext L1.out (al0 _ _)⟩
set_option maxHeartbeats 2000000 in
theorem word_11 (a b : Int) (ty cl nm : List UInt8) (ha : i64B a) (hb : i64B b) (w : World) (ht : ty.length ≤ 1048576) (hc : cl.length ≤ 1048576) (hn : nm.length ≤ 1048576) :
    Calls Tryd.prog 23 #[insV ⟨11, a, b, ty, cl, nm⟩] w fun e w' => e = .returned (.string (bs (textM ⟨11, a, b, ty, cl, nm⟩))) ∧ Below w.heap.size w w' := by
  have E := Lib.hid (text_at 11 a b ty cl nm [111, 114, 100, 101, 114] false false false false false rfl (by decide))
  have HN := Lib.hid needs_11
  have HA := Lib.hid (fun w => digits_any a ha w)
  have HB := Lib.hid (fun w => digits_any b hb w)
  have za := itoa_size a ha
  have zb := itoa_size b hb
  have zt : (bs ty).size ≤ 1048576 := ht
  have zc : (bs cl).size ≤ 1048576 := hc
  have zn : (bs nm).size ≤ 1048576 := hn
  clear ha hb ht hc hn
  unfold insV
  go_enter Tryd.func23, Tryd.ntmps23
  go_wp2_with (first
    | (go_at_call 18; (with_reducible refine (HN.out _).mono ?_); rintro e w1 ⟨rfl, b1⟩
       have BX1 := box_new ⟨11, a, b, ty, cl, nm⟩ _ _ rfl (bnext (al0 _ _) b1)
       have RC1 := row_cell b1 11 rfl
       have L1 := Lib.hid BX1.2
       obtain ⟨q0, q1, q2, q3, q4, q5, q6⟩ := BX1.1
       obtain ⟨r0, r1⟩ := RC1
       clear BX1 b1)
    | (go_at_call 35; first
       | ((with_reducible refine (HA.out _).mono ?_); rintro e w' ⟨rfl, rfl⟩)
       | ((with_reducible refine (HB.out _).mono ?_); rintro e w' ⟨rfl, rfl⟩)))
  all_goals
    go_ret
    exact ⟨ret_string (by rw [E.out]; exact bs_eq (by simp [bs_list])), bnext L1.out (al0 _ _)⟩
set_option maxHeartbeats 2000000 in
theorem word_12 (a b : Int) (ty cl nm : List UInt8) (ha : i64B a) (hb : i64B b) (w : World) (ht : ty.length ≤ 1048576) (hc : cl.length ≤ 1048576) (hn : nm.length ≤ 1048576) :
    Calls Tryd.prog 23 #[insV ⟨12, a, b, ty, cl, nm⟩] w fun e w' => e = .returned (.string (bs (textM ⟨12, a, b, ty, cl, nm⟩))) ∧ Below w.heap.size w w' := by
  have E := Lib.hid (text_at 12 a b ty cl nm [105, 102] true true false false false rfl (by decide))
  have HN := Lib.hid needs_12
  have HA := Lib.hid (fun w => digits_any a ha w)
  have HB := Lib.hid (fun w => digits_any b hb w)
  have za := itoa_size a ha
  have zb := itoa_size b hb
  have zt : (bs ty).size ≤ 1048576 := ht
  have zc : (bs cl).size ≤ 1048576 := hc
  have zn : (bs nm).size ≤ 1048576 := hn
  clear ha hb ht hc hn
  unfold insV
  go_enter Tryd.func23, Tryd.ntmps23
  go_wp2_with (first
    | (go_at_call 18; (with_reducible refine (HN.out _).mono ?_); rintro e w1 ⟨rfl, b1⟩
       have BX1 := box_new ⟨12, a, b, ty, cl, nm⟩ _ _ rfl (bnext (al0 _ _) b1)
       have RC1 := row_cell b1 12 rfl
       have L1 := Lib.hid BX1.2
       obtain ⟨q0, q1, q2, q3, q4, q5, q6⟩ := BX1.1
       obtain ⟨r0, r1⟩ := RC1
       clear BX1 b1)
    | (go_at_call 35; first
       | ((with_reducible refine (HA.out _).mono ?_); rintro e w' ⟨rfl, rfl⟩)
       | ((with_reducible refine (HB.out _).mono ?_); rintro e w' ⟨rfl, rfl⟩)))
  all_goals
    go_ret
    exact ⟨ret_string (by rw [E.out]; exact bs_eq (by simp [bs_list])), bnext L1.out (al0 _ _)⟩
set_option maxHeartbeats 2000000 in
theorem word_13 (a b : Int) (ty cl nm : List UInt8) (ha : i64B a) (hb : i64B b) (w : World) (ht : ty.length ≤ 1048576) (hc : cl.length ≤ 1048576) (hn : nm.length ≤ 1048576) :
    Calls Tryd.prog 23 #[insV ⟨13, a, b, ty, cl, nm⟩] w fun e w' => e = .returned (.string (bs (textM ⟨13, a, b, ty, cl, nm⟩))) ∧ Below w.heap.size w w' := by
  have E := Lib.hid (text_at 13 a b ty cl nm [105, 102, 110, 117, 108, 108] true false false false false rfl (by decide))
  have HN := Lib.hid needs_13
  have HA := Lib.hid (fun w => digits_any a ha w)
  have HB := Lib.hid (fun w => digits_any b hb w)
  have za := itoa_size a ha
  have zb := itoa_size b hb
  have zt : (bs ty).size ≤ 1048576 := ht
  have zc : (bs cl).size ≤ 1048576 := hc
  have zn : (bs nm).size ≤ 1048576 := hn
  clear ha hb ht hc hn
  unfold insV
  go_enter Tryd.func23, Tryd.ntmps23
  go_wp2_with (first
    | (go_at_call 18; (with_reducible refine (HN.out _).mono ?_); rintro e w1 ⟨rfl, b1⟩
       have BX1 := box_new ⟨13, a, b, ty, cl, nm⟩ _ _ rfl (bnext (al0 _ _) b1)
       have RC1 := row_cell b1 13 rfl
       have L1 := Lib.hid BX1.2
       obtain ⟨q0, q1, q2, q3, q4, q5, q6⟩ := BX1.1
       obtain ⟨r0, r1⟩ := RC1
       clear BX1 b1)
    | (go_at_call 35; first
       | ((with_reducible refine (HA.out _).mono ?_); rintro e w' ⟨rfl, rfl⟩)
       | ((with_reducible refine (HB.out _).mono ?_); rintro e w' ⟨rfl, rfl⟩)))
  all_goals
    go_ret
    exact ⟨ret_string (by rw [E.out]; exact bs_eq (by simp [bs_list])), bnext L1.out (al0 _ _)⟩
set_option maxHeartbeats 2000000 in
theorem word_14 (a b : Int) (ty cl nm : List UInt8) (ha : i64B a) (hb : i64B b) (w : World) (ht : ty.length ≤ 1048576) (hc : cl.length ≤ 1048576) (hn : nm.length ≤ 1048576) :
    Calls Tryd.prog 23 #[insV ⟨14, a, b, ty, cl, nm⟩] w fun e w' => e = .returned (.string (bs (textM ⟨14, a, b, ty, cl, nm⟩))) ∧ Below w.heap.size w w' := by
  have E := Lib.hid (text_at 14 a b ty cl nm [103, 111, 116, 111] true false false false false rfl (by decide))
  have HN := Lib.hid needs_14
  have HA := Lib.hid (fun w => digits_any a ha w)
  have HB := Lib.hid (fun w => digits_any b hb w)
  have za := itoa_size a ha
  have zb := itoa_size b hb
  have zt : (bs ty).size ≤ 1048576 := ht
  have zc : (bs cl).size ≤ 1048576 := hc
  have zn : (bs nm).size ≤ 1048576 := hn
  clear ha hb ht hc hn
  unfold insV
  go_enter Tryd.func23, Tryd.ntmps23
  go_wp2_with (first
    | (go_at_call 18; (with_reducible refine (HN.out _).mono ?_); rintro e w1 ⟨rfl, b1⟩
       have BX1 := box_new ⟨14, a, b, ty, cl, nm⟩ _ _ rfl (bnext (al0 _ _) b1)
       have RC1 := row_cell b1 14 rfl
       have L1 := Lib.hid BX1.2
       obtain ⟨q0, q1, q2, q3, q4, q5, q6⟩ := BX1.1
       obtain ⟨r0, r1⟩ := RC1
       clear BX1 b1)
    | (go_at_call 35; first
       | ((with_reducible refine (HA.out _).mono ?_); rintro e w' ⟨rfl, rfl⟩)
       | ((with_reducible refine (HB.out _).mono ?_); rintro e w' ⟨rfl, rfl⟩)))
  all_goals
    go_ret
    exact ⟨ret_string (by rw [E.out]; exact bs_eq (by simp [bs_list])), bnext L1.out (al0 _ _)⟩
set_option maxHeartbeats 2000000 in
theorem word_15 (a b : Int) (ty cl nm : List UInt8) (ha : i64B a) (hb : i64B b) (w : World) (ht : ty.length ≤ 1048576) (hc : cl.length ≤ 1048576) (hn : nm.length ≤ 1048576) :
    Calls Tryd.prog 23 #[insV ⟨15, a, b, ty, cl, nm⟩] w fun e w' => e = .returned (.string (bs (textM ⟨15, a, b, ty, cl, nm⟩))) ∧ Below w.heap.size w w' := by
  have E := Lib.hid (text_at 15 a b ty cl nm [110, 101, 119] false false false true false rfl (by decide))
  have HN := Lib.hid needs_15
  have HA := Lib.hid (fun w => digits_any a ha w)
  have HB := Lib.hid (fun w => digits_any b hb w)
  have za := itoa_size a ha
  have zb := itoa_size b hb
  have zt : (bs ty).size ≤ 1048576 := ht
  have zc : (bs cl).size ≤ 1048576 := hc
  have zn : (bs nm).size ≤ 1048576 := hn
  clear ha hb ht hc hn
  unfold insV
  go_enter Tryd.func23, Tryd.ntmps23
  go_wp2_with (first
    | (go_at_call 18; (with_reducible refine (HN.out _).mono ?_); rintro e w1 ⟨rfl, b1⟩
       have BX1 := box_new ⟨15, a, b, ty, cl, nm⟩ _ _ rfl (bnext (al0 _ _) b1)
       have RC1 := row_cell b1 15 rfl
       have L1 := Lib.hid BX1.2
       obtain ⟨q0, q1, q2, q3, q4, q5, q6⟩ := BX1.1
       obtain ⟨r0, r1⟩ := RC1
       clear BX1 b1)
    | (go_at_call 35; first
       | ((with_reducible refine (HA.out _).mono ?_); rintro e w' ⟨rfl, rfl⟩)
       | ((with_reducible refine (HB.out _).mono ?_); rintro e w' ⟨rfl, rfl⟩)))
  all_goals
    go_ret
    exact ⟨ret_string (by rw [E.out]; exact bs_eq (by simp [bs_list])), bnext L1.out (al0 _ _)⟩
set_option maxHeartbeats 2000000 in
theorem word_16 (a b : Int) (ty cl nm : List UInt8) (ha : i64B a) (hb : i64B b) (w : World) (ht : ty.length ≤ 1048576) (hc : cl.length ≤ 1048576) (hn : nm.length ≤ 1048576) :
    Calls Tryd.prog 23 #[insV ⟨16, a, b, ty, cl, nm⟩] w fun e w' => e = .returned (.string (bs (textM ⟨16, a, b, ty, cl, nm⟩))) ∧ Below w.heap.size w w' := by
  have E := Lib.hid (text_at 16 a b ty cl nm [103, 101, 116] false false false true true rfl (by decide))
  have HN := Lib.hid needs_16
  have HA := Lib.hid (fun w => digits_any a ha w)
  have HB := Lib.hid (fun w => digits_any b hb w)
  have za := itoa_size a ha
  have zb := itoa_size b hb
  have zt : (bs ty).size ≤ 1048576 := ht
  have zc : (bs cl).size ≤ 1048576 := hc
  have zn : (bs nm).size ≤ 1048576 := hn
  clear ha hb ht hc hn
  unfold insV
  go_enter Tryd.func23, Tryd.ntmps23
  go_wp2_with (first
    | (go_at_call 18; (with_reducible refine (HN.out _).mono ?_); rintro e w1 ⟨rfl, b1⟩
       have BX1 := box_new ⟨16, a, b, ty, cl, nm⟩ _ _ rfl (bnext (al0 _ _) b1)
       have RC1 := row_cell b1 16 rfl
       have L1 := Lib.hid BX1.2
       obtain ⟨q0, q1, q2, q3, q4, q5, q6⟩ := BX1.1
       obtain ⟨r0, r1⟩ := RC1
       clear BX1 b1)
    | (go_at_call 35; first
       | ((with_reducible refine (HA.out _).mono ?_); rintro e w' ⟨rfl, rfl⟩)
       | ((with_reducible refine (HB.out _).mono ?_); rintro e w' ⟨rfl, rfl⟩)))
  all_goals
    go_ret
    exact ⟨ret_string (by rw [E.out]; exact bs_eq (by simp [bs_list])), bnext L1.out (al0 _ _)⟩
set_option maxHeartbeats 2000000 in
theorem word_17 (a b : Int) (ty cl nm : List UInt8) (ha : i64B a) (hb : i64B b) (w : World) (ht : ty.length ≤ 1048576) (hc : cl.length ≤ 1048576) (hn : nm.length ≤ 1048576) :
    Calls Tryd.prog 23 #[insV ⟨17, a, b, ty, cl, nm⟩] w fun e w' => e = .returned (.string (bs (textM ⟨17, a, b, ty, cl, nm⟩))) ∧ Below w.heap.size w w' := by
  have E := Lib.hid (text_at 17 a b ty cl nm [112, 117, 116] false false false true true rfl (by decide))
  have HN := Lib.hid needs_17
  have HA := Lib.hid (fun w => digits_any a ha w)
  have HB := Lib.hid (fun w => digits_any b hb w)
  have za := itoa_size a ha
  have zb := itoa_size b hb
  have zt : (bs ty).size ≤ 1048576 := ht
  have zc : (bs cl).size ≤ 1048576 := hc
  have zn : (bs nm).size ≤ 1048576 := hn
  clear ha hb ht hc hn
  unfold insV
  go_enter Tryd.func23, Tryd.ntmps23
  go_wp2_with (first
    | (go_at_call 18; (with_reducible refine (HN.out _).mono ?_); rintro e w1 ⟨rfl, b1⟩
       have BX1 := box_new ⟨17, a, b, ty, cl, nm⟩ _ _ rfl (bnext (al0 _ _) b1)
       have RC1 := row_cell b1 17 rfl
       have L1 := Lib.hid BX1.2
       obtain ⟨q0, q1, q2, q3, q4, q5, q6⟩ := BX1.1
       obtain ⟨r0, r1⟩ := RC1
       clear BX1 b1)
    | (go_at_call 35; first
       | ((with_reducible refine (HA.out _).mono ?_); rintro e w' ⟨rfl, rfl⟩)
       | ((with_reducible refine (HB.out _).mono ?_); rintro e w' ⟨rfl, rfl⟩)))
  all_goals
    go_ret
    exact ⟨ret_string (by rw [E.out]; exact bs_eq (by simp [bs_list])), bnext L1.out (al0 _ _)⟩
set_option maxHeartbeats 2000000 in
theorem word_18 (a b : Int) (ty cl nm : List UInt8) (ha : i64B a) (hb : i64B b) (w : World) (ht : ty.length ≤ 1048576) (hc : cl.length ≤ 1048576) (hn : nm.length ≤ 1048576) :
    Calls Tryd.prog 23 #[insV ⟨18, a, b, ty, cl, nm⟩] w fun e w' => e = .returned (.string (bs (textM ⟨18, a, b, ty, cl, nm⟩))) ∧ Below w.heap.size w w' := by
  have E := Lib.hid (text_at 18 a b ty cl nm [110, 101, 119, 97, 114, 114, 97, 121] false false true false false rfl (by decide))
  have HN := Lib.hid needs_18
  have HA := Lib.hid (fun w => digits_any a ha w)
  have HB := Lib.hid (fun w => digits_any b hb w)
  have za := itoa_size a ha
  have zb := itoa_size b hb
  have zt : (bs ty).size ≤ 1048576 := ht
  have zc : (bs cl).size ≤ 1048576 := hc
  have zn : (bs nm).size ≤ 1048576 := hn
  clear ha hb ht hc hn
  unfold insV
  go_enter Tryd.func23, Tryd.ntmps23
  go_wp2_with (first
    | (go_at_call 18; (with_reducible refine (HN.out _).mono ?_); rintro e w1 ⟨rfl, b1⟩
       have BX1 := box_new ⟨18, a, b, ty, cl, nm⟩ _ _ rfl (bnext (al0 _ _) b1)
       have RC1 := row_cell b1 18 rfl
       have L1 := Lib.hid BX1.2
       obtain ⟨q0, q1, q2, q3, q4, q5, q6⟩ := BX1.1
       obtain ⟨r0, r1⟩ := RC1
       clear BX1 b1)
    | (go_at_call 35; first
       | ((with_reducible refine (HA.out _).mono ?_); rintro e w' ⟨rfl, rfl⟩)
       | ((with_reducible refine (HB.out _).mono ?_); rintro e w' ⟨rfl, rfl⟩)))
  all_goals
    go_ret
    exact ⟨ret_string (by rw [E.out]; exact bs_eq (by simp [bs_list])), bnext L1.out (al0 _ _)⟩
set_option maxHeartbeats 2000000 in
theorem word_19 (a b : Int) (ty cl nm : List UInt8) (ha : i64B a) (hb : i64B b) (w : World) (ht : ty.length ≤ 1048576) (hc : cl.length ≤ 1048576) (hn : nm.length ≤ 1048576) :
    Calls Tryd.prog 23 #[insV ⟨19, a, b, ty, cl, nm⟩] w fun e w' => e = .returned (.string (bs (textM ⟨19, a, b, ty, cl, nm⟩))) ∧ Below w.heap.size w w' := by
  have E := Lib.hid (text_at 19 a b ty cl nm [108, 101, 110, 103, 116, 104] false false false false false rfl (by decide))
  have HN := Lib.hid needs_19
  have HA := Lib.hid (fun w => digits_any a ha w)
  have HB := Lib.hid (fun w => digits_any b hb w)
  have za := itoa_size a ha
  have zb := itoa_size b hb
  have zt : (bs ty).size ≤ 1048576 := ht
  have zc : (bs cl).size ≤ 1048576 := hc
  have zn : (bs nm).size ≤ 1048576 := hn
  clear ha hb ht hc hn
  unfold insV
  go_enter Tryd.func23, Tryd.ntmps23
  go_wp2_with (first
    | (go_at_call 18; (with_reducible refine (HN.out _).mono ?_); rintro e w1 ⟨rfl, b1⟩
       have BX1 := box_new ⟨19, a, b, ty, cl, nm⟩ _ _ rfl (bnext (al0 _ _) b1)
       have RC1 := row_cell b1 19 rfl
       have L1 := Lib.hid BX1.2
       obtain ⟨q0, q1, q2, q3, q4, q5, q6⟩ := BX1.1
       obtain ⟨r0, r1⟩ := RC1
       clear BX1 b1)
    | (go_at_call 35; first
       | ((with_reducible refine (HA.out _).mono ?_); rintro e w' ⟨rfl, rfl⟩)
       | ((with_reducible refine (HB.out _).mono ?_); rintro e w' ⟨rfl, rfl⟩)))
  all_goals
    go_ret
    exact ⟨ret_string (by rw [E.out]; exact bs_eq (by simp [bs_list])), bnext L1.out (al0 _ _)⟩
set_option maxHeartbeats 2000000 in
theorem word_20 (a b : Int) (ty cl nm : List UInt8) (ha : i64B a) (hb : i64B b) (w : World) (ht : ty.length ≤ 1048576) (hc : cl.length ≤ 1048576) (hn : nm.length ≤ 1048576) :
    Calls Tryd.prog 23 #[insV ⟨20, a, b, ty, cl, nm⟩] w fun e w' => e = .returned (.string (bs (textM ⟨20, a, b, ty, cl, nm⟩))) ∧ Below w.heap.size w w' := by
  have E := Lib.hid (text_at 20 a b ty cl nm [97, 108, 111, 97, 100] false false true false false rfl (by decide))
  have HN := Lib.hid needs_20
  have HA := Lib.hid (fun w => digits_any a ha w)
  have HB := Lib.hid (fun w => digits_any b hb w)
  have za := itoa_size a ha
  have zb := itoa_size b hb
  have zt : (bs ty).size ≤ 1048576 := ht
  have zc : (bs cl).size ≤ 1048576 := hc
  have zn : (bs nm).size ≤ 1048576 := hn
  clear ha hb ht hc hn
  unfold insV
  go_enter Tryd.func23, Tryd.ntmps23
  go_wp2_with (first
    | (go_at_call 18; (with_reducible refine (HN.out _).mono ?_); rintro e w1 ⟨rfl, b1⟩
       have BX1 := box_new ⟨20, a, b, ty, cl, nm⟩ _ _ rfl (bnext (al0 _ _) b1)
       have RC1 := row_cell b1 20 rfl
       have L1 := Lib.hid BX1.2
       obtain ⟨q0, q1, q2, q3, q4, q5, q6⟩ := BX1.1
       obtain ⟨r0, r1⟩ := RC1
       clear BX1 b1)
    | (go_at_call 35; first
       | ((with_reducible refine (HA.out _).mono ?_); rintro e w' ⟨rfl, rfl⟩)
       | ((with_reducible refine (HB.out _).mono ?_); rintro e w' ⟨rfl, rfl⟩)))
  all_goals
    go_ret
    exact ⟨ret_string (by rw [E.out]; exact bs_eq (by simp [bs_list])), bnext L1.out (al0 _ _)⟩
set_option maxHeartbeats 2000000 in
theorem word_21 (a b : Int) (ty cl nm : List UInt8) (ha : i64B a) (hb : i64B b) (w : World) (ht : ty.length ≤ 1048576) (hc : cl.length ≤ 1048576) (hn : nm.length ≤ 1048576) :
    Calls Tryd.prog 23 #[insV ⟨21, a, b, ty, cl, nm⟩] w fun e w' => e = .returned (.string (bs (textM ⟨21, a, b, ty, cl, nm⟩))) ∧ Below w.heap.size w w' := by
  have E := Lib.hid (text_at 21 a b ty cl nm [97, 115, 116, 111, 114, 101] false false true false false rfl (by decide))
  have HN := Lib.hid needs_21
  have HA := Lib.hid (fun w => digits_any a ha w)
  have HB := Lib.hid (fun w => digits_any b hb w)
  have za := itoa_size a ha
  have zb := itoa_size b hb
  have zt : (bs ty).size ≤ 1048576 := ht
  have zc : (bs cl).size ≤ 1048576 := hc
  have zn : (bs nm).size ≤ 1048576 := hn
  clear ha hb ht hc hn
  unfold insV
  go_enter Tryd.func23, Tryd.ntmps23
  go_wp2_with (first
    | (go_at_call 18; (with_reducible refine (HN.out _).mono ?_); rintro e w1 ⟨rfl, b1⟩
       have BX1 := box_new ⟨21, a, b, ty, cl, nm⟩ _ _ rfl (bnext (al0 _ _) b1)
       have RC1 := row_cell b1 21 rfl
       have L1 := Lib.hid BX1.2
       obtain ⟨q0, q1, q2, q3, q4, q5, q6⟩ := BX1.1
       obtain ⟨r0, r1⟩ := RC1
       clear BX1 b1)
    | (go_at_call 35; first
       | ((with_reducible refine (HA.out _).mono ?_); rintro e w' ⟨rfl, rfl⟩)
       | ((with_reducible refine (HB.out _).mono ?_); rintro e w' ⟨rfl, rfl⟩)))
  all_goals
    go_ret
    exact ⟨ret_string (by rw [E.out]; exact bs_eq (by simp [bs_list])), bnext L1.out (al0 _ _)⟩
set_option maxHeartbeats 2000000 in
theorem word_22 (a b : Int) (ty cl nm : List UInt8) (ha : i64B a) (hb : i64B b) (w : World) (ht : ty.length ≤ 1048576) (hc : cl.length ≤ 1048576) (hn : nm.length ≤ 1048576) :
    Calls Tryd.prog 23 #[insV ⟨22, a, b, ty, cl, nm⟩] w fun e w' => e = .returned (.string (bs (textM ⟨22, a, b, ty, cl, nm⟩))) ∧ Below w.heap.size w w' := by
  have E := Lib.hid (text_at 22 a b ty cl nm [99, 97, 115, 116] false false true false false rfl (by decide))
  have HN := Lib.hid needs_22
  have HA := Lib.hid (fun w => digits_any a ha w)
  have HB := Lib.hid (fun w => digits_any b hb w)
  have za := itoa_size a ha
  have zb := itoa_size b hb
  have zt : (bs ty).size ≤ 1048576 := ht
  have zc : (bs cl).size ≤ 1048576 := hc
  have zn : (bs nm).size ≤ 1048576 := hn
  clear ha hb ht hc hn
  unfold insV
  go_enter Tryd.func23, Tryd.ntmps23
  go_wp2_with (first
    | (go_at_call 18; (with_reducible refine (HN.out _).mono ?_); rintro e w1 ⟨rfl, b1⟩
       have BX1 := box_new ⟨22, a, b, ty, cl, nm⟩ _ _ rfl (bnext (al0 _ _) b1)
       have RC1 := row_cell b1 22 rfl
       have L1 := Lib.hid BX1.2
       obtain ⟨q0, q1, q2, q3, q4, q5, q6⟩ := BX1.1
       obtain ⟨r0, r1⟩ := RC1
       clear BX1 b1)
    | (go_at_call 35; first
       | ((with_reducible refine (HA.out _).mono ?_); rintro e w' ⟨rfl, rfl⟩)
       | ((with_reducible refine (HB.out _).mono ?_); rintro e w' ⟨rfl, rfl⟩)))
  all_goals
    go_ret
    exact ⟨ret_string (by rw [E.out]; exact bs_eq (by simp [bs_list])), bnext L1.out (al0 _ _)⟩
set_option maxHeartbeats 2000000 in
theorem word_23 (a b : Int) (ty cl nm : List UInt8) (ha : i64B a) (hb : i64B b) (w : World) (ht : ty.length ≤ 1048576) (hc : cl.length ≤ 1048576) (hn : nm.length ≤ 1048576) :
    Calls Tryd.prog 23 #[insV ⟨23, a, b, ty, cl, nm⟩] w fun e w' => e = .returned (.string (bs (textM ⟨23, a, b, ty, cl, nm⟩))) ∧ Below w.heap.size w w' := by
  have E := Lib.hid (text_at 23 a b ty cl nm [105, 115] false false true false false rfl (by decide))
  have HN := Lib.hid needs_23
  have HA := Lib.hid (fun w => digits_any a ha w)
  have HB := Lib.hid (fun w => digits_any b hb w)
  have za := itoa_size a ha
  have zb := itoa_size b hb
  have zt : (bs ty).size ≤ 1048576 := ht
  have zc : (bs cl).size ≤ 1048576 := hc
  have zn : (bs nm).size ≤ 1048576 := hn
  clear ha hb ht hc hn
  unfold insV
  go_enter Tryd.func23, Tryd.ntmps23
  go_wp2_with (first
    | (go_at_call 18; (with_reducible refine (HN.out _).mono ?_); rintro e w1 ⟨rfl, b1⟩
       have BX1 := box_new ⟨23, a, b, ty, cl, nm⟩ _ _ rfl (bnext (al0 _ _) b1)
       have RC1 := row_cell b1 23 rfl
       have L1 := Lib.hid BX1.2
       obtain ⟨q0, q1, q2, q3, q4, q5, q6⟩ := BX1.1
       obtain ⟨r0, r1⟩ := RC1
       clear BX1 b1)
    | (go_at_call 35; first
       | ((with_reducible refine (HA.out _).mono ?_); rintro e w' ⟨rfl, rfl⟩)
       | ((with_reducible refine (HB.out _).mono ?_); rintro e w' ⟨rfl, rfl⟩)))
  all_goals
    go_ret
    exact ⟨ret_string (by rw [E.out]; exact bs_eq (by simp [bs_list])), bnext L1.out (al0 _ _)⟩
set_option maxHeartbeats 2000000 in
theorem word_24 (a b : Int) (ty cl nm : List UInt8) (ha : i64B a) (hb : i64B b) (w : World) (ht : ty.length ≤ 1048576) (hc : cl.length ≤ 1048576) (hn : nm.length ≤ 1048576) :
    Calls Tryd.prog 23 #[insV ⟨24, a, b, ty, cl, nm⟩] w fun e w' => e = .returned (.string (bs (textM ⟨24, a, b, ty, cl, nm⟩))) ∧ Below w.heap.size w w' := by
  have E := Lib.hid (text_at 24 a b ty cl nm [99, 97, 108, 108] false false true true true rfl (by decide))
  have HN := Lib.hid needs_24
  have HA := Lib.hid (fun w => digits_any a ha w)
  have HB := Lib.hid (fun w => digits_any b hb w)
  have za := itoa_size a ha
  have zb := itoa_size b hb
  have zt : (bs ty).size ≤ 1048576 := ht
  have zc : (bs cl).size ≤ 1048576 := hc
  have zn : (bs nm).size ≤ 1048576 := hn
  clear ha hb ht hc hn
  unfold insV
  go_enter Tryd.func23, Tryd.ntmps23
  go_wp2_with (first
    | (go_at_call 18; (with_reducible refine (HN.out _).mono ?_); rintro e w1 ⟨rfl, b1⟩
       have BX1 := box_new ⟨24, a, b, ty, cl, nm⟩ _ _ rfl (bnext (al0 _ _) b1)
       have RC1 := row_cell b1 24 rfl
       have L1 := Lib.hid BX1.2
       obtain ⟨q0, q1, q2, q3, q4, q5, q6⟩ := BX1.1
       obtain ⟨r0, r1⟩ := RC1
       clear BX1 b1)
    | (go_at_call 35; first
       | ((with_reducible refine (HA.out _).mono ?_); rintro e w' ⟨rfl, rfl⟩)
       | ((with_reducible refine (HB.out _).mono ?_); rintro e w' ⟨rfl, rfl⟩)))
  all_goals
    go_ret
    exact ⟨ret_string (by rw [E.out]; exact bs_eq (by simp [bs_list])), bnext L1.out (al0 _ _)⟩
set_option maxHeartbeats 2000000 in
theorem word_25 (a b : Int) (ty cl nm : List UInt8) (ha : i64B a) (hb : i64B b) (w : World) (ht : ty.length ≤ 1048576) (hc : cl.length ≤ 1048576) (hn : nm.length ≤ 1048576) :
    Calls Tryd.prog 23 #[insV ⟨25, a, b, ty, cl, nm⟩] w fun e w' => e = .returned (.string (bs (textM ⟨25, a, b, ty, cl, nm⟩))) ∧ Below w.heap.size w w' := by
  have E := Lib.hid (text_at 25 a b ty cl nm [99, 97, 108, 108, 115] false false true true true rfl (by decide))
  have HN := Lib.hid needs_25
  have HA := Lib.hid (fun w => digits_any a ha w)
  have HB := Lib.hid (fun w => digits_any b hb w)
  have za := itoa_size a ha
  have zb := itoa_size b hb
  have zt : (bs ty).size ≤ 1048576 := ht
  have zc : (bs cl).size ≤ 1048576 := hc
  have zn : (bs nm).size ≤ 1048576 := hn
  clear ha hb ht hc hn
  unfold insV
  go_enter Tryd.func23, Tryd.ntmps23
  go_wp2_with (first
    | (go_at_call 18; (with_reducible refine (HN.out _).mono ?_); rintro e w1 ⟨rfl, b1⟩
       have BX1 := box_new ⟨25, a, b, ty, cl, nm⟩ _ _ rfl (bnext (al0 _ _) b1)
       have RC1 := row_cell b1 25 rfl
       have L1 := Lib.hid BX1.2
       obtain ⟨q0, q1, q2, q3, q4, q5, q6⟩ := BX1.1
       obtain ⟨r0, r1⟩ := RC1
       clear BX1 b1)
    | (go_at_call 35; first
       | ((with_reducible refine (HA.out _).mono ?_); rintro e w' ⟨rfl, rfl⟩)
       | ((with_reducible refine (HB.out _).mono ?_); rintro e w' ⟨rfl, rfl⟩)))
  all_goals
    go_ret
    exact ⟨ret_string (by rw [E.out]; exact bs_eq (by simp [bs_list])), bnext L1.out (al0 _ _)⟩
set_option maxHeartbeats 2000000 in
theorem word_26 (a b : Int) (ty cl nm : List UInt8) (ha : i64B a) (hb : i64B b) (w : World) (ht : ty.length ≤ 1048576) (hc : cl.length ≤ 1048576) (hn : nm.length ≤ 1048576) :
    Calls Tryd.prog 23 #[insV ⟨26, a, b, ty, cl, nm⟩] w fun e w' => e = .returned (.string (bs (textM ⟨26, a, b, ty, cl, nm⟩))) ∧ Below w.heap.size w w' := by
  have E := Lib.hid (text_at 26 a b ty cl nm [114, 101, 116, 117, 114, 110] false false false false false rfl (by decide))
  have HN := Lib.hid needs_26
  have HA := Lib.hid (fun w => digits_any a ha w)
  have HB := Lib.hid (fun w => digits_any b hb w)
  have za := itoa_size a ha
  have zb := itoa_size b hb
  have zt : (bs ty).size ≤ 1048576 := ht
  have zc : (bs cl).size ≤ 1048576 := hc
  have zn : (bs nm).size ≤ 1048576 := hn
  clear ha hb ht hc hn
  unfold insV
  go_enter Tryd.func23, Tryd.ntmps23
  go_wp2_with (first
    | (go_at_call 18; (with_reducible refine (HN.out _).mono ?_); rintro e w1 ⟨rfl, b1⟩
       have BX1 := box_new ⟨26, a, b, ty, cl, nm⟩ _ _ rfl (bnext (al0 _ _) b1)
       have RC1 := row_cell b1 26 rfl
       have L1 := Lib.hid BX1.2
       obtain ⟨q0, q1, q2, q3, q4, q5, q6⟩ := BX1.1
       obtain ⟨r0, r1⟩ := RC1
       clear BX1 b1)
    | (go_at_call 35; first
       | ((with_reducible refine (HA.out _).mono ?_); rintro e w' ⟨rfl, rfl⟩)
       | ((with_reducible refine (HB.out _).mono ?_); rintro e w' ⟨rfl, rfl⟩)))
  all_goals
    go_ret
    exact ⟨ret_string (by rw [E.out]; exact bs_eq (by simp [bs_list])), bnext L1.out (al0 _ _)⟩
set_option maxHeartbeats 2000000 in
theorem word_27 (a b : Int) (ty cl nm : List UInt8) (ha : i64B a) (hb : i64B b) (w : World) (ht : ty.length ≤ 1048576) (hc : cl.length ≤ 1048576) (hn : nm.length ≤ 1048576) :
    Calls Tryd.prog 23 #[insV ⟨27, a, b, ty, cl, nm⟩] w fun e w' => e = .returned (.string (bs (textM ⟨27, a, b, ty, cl, nm⟩))) ∧ Below w.heap.size w w' := by
  have E := Lib.hid (text_at 27 a b ty cl nm [103, 105, 118, 101] false false false false false rfl (by decide))
  have HN := Lib.hid needs_27
  have HA := Lib.hid (fun w => digits_any a ha w)
  have HB := Lib.hid (fun w => digits_any b hb w)
  have za := itoa_size a ha
  have zb := itoa_size b hb
  have zt : (bs ty).size ≤ 1048576 := ht
  have zc : (bs cl).size ≤ 1048576 := hc
  have zn : (bs nm).size ≤ 1048576 := hn
  clear ha hb ht hc hn
  unfold insV
  go_enter Tryd.func23, Tryd.ntmps23
  go_wp2_with (first
    | (go_at_call 18; (with_reducible refine (HN.out _).mono ?_); rintro e w1 ⟨rfl, b1⟩
       have BX1 := box_new ⟨27, a, b, ty, cl, nm⟩ _ _ rfl (bnext (al0 _ _) b1)
       have RC1 := row_cell b1 27 rfl
       have L1 := Lib.hid BX1.2
       obtain ⟨q0, q1, q2, q3, q4, q5, q6⟩ := BX1.1
       obtain ⟨r0, r1⟩ := RC1
       clear BX1 b1)
    | (go_at_call 35; first
       | ((with_reducible refine (HA.out _).mono ?_); rintro e w' ⟨rfl, rfl⟩)
       | ((with_reducible refine (HB.out _).mono ?_); rintro e w' ⟨rfl, rfl⟩)))
  all_goals
    go_ret
    exact ⟨ret_string (by rw [E.out]; exact bs_eq (by simp [bs_list])), bnext L1.out (al0 _ _)⟩
set_option maxHeartbeats 2000000 in
theorem word_28 (a b : Int) (ty cl nm : List UInt8) (ha : i64B a) (hb : i64B b) (w : World) (ht : ty.length ≤ 1048576) (hc : cl.length ≤ 1048576) (hn : nm.length ≤ 1048576) :
    Calls Tryd.prog 23 #[insV ⟨28, a, b, ty, cl, nm⟩] w fun e w' => e = .returned (.string (bs (textM ⟨28, a, b, ty, cl, nm⟩))) ∧ Below w.heap.size w w' := by
  have E := Lib.hid (text_at 28 a b ty cl nm [116, 104, 114, 111, 119] false false false false false rfl (by decide))
  have HN := Lib.hid needs_28
  have HA := Lib.hid (fun w => digits_any a ha w)
  have HB := Lib.hid (fun w => digits_any b hb w)
  have za := itoa_size a ha
  have zb := itoa_size b hb
  have zt : (bs ty).size ≤ 1048576 := ht
  have zc : (bs cl).size ≤ 1048576 := hc
  have zn : (bs nm).size ≤ 1048576 := hn
  clear ha hb ht hc hn
  unfold insV
  go_enter Tryd.func23, Tryd.ntmps23
  go_wp2_with (first
    | (go_at_call 18; (with_reducible refine (HN.out _).mono ?_); rintro e w1 ⟨rfl, b1⟩
       have BX1 := box_new ⟨28, a, b, ty, cl, nm⟩ _ _ rfl (bnext (al0 _ _) b1)
       have RC1 := row_cell b1 28 rfl
       have L1 := Lib.hid BX1.2
       obtain ⟨q0, q1, q2, q3, q4, q5, q6⟩ := BX1.1
       obtain ⟨r0, r1⟩ := RC1
       clear BX1 b1)
    | (go_at_call 35; first
       | ((with_reducible refine (HA.out _).mono ?_); rintro e w' ⟨rfl, rfl⟩)
       | ((with_reducible refine (HB.out _).mono ?_); rintro e w' ⟨rfl, rfl⟩)))
  all_goals
    go_ret
    exact ⟨ret_string (by rw [E.out]; exact bs_eq (by simp [bs_list])), bnext L1.out (al0 _ _)⟩
end Go.Proofs.YthnilohilbacpaaDoor
