/- The walk of coffeehouselaw6.InsApart. -/
import Derived.Test.YtdikccncljhehaaDoorIn6
import Derived.Test.YtdikccncljhehaaDoorInE
import Derived.Test.YtdikccncljhehaaDoorNamed
namespace Go.Proofs.YtdikccncljhehaaDoor
open Go.ChangeShapes Go.WideShapes Go.ChangeAt Go.RowKit
set_option linter.unusedVariables false
attribute [local go_sem] eqGuard_errV_nil eqGuard_errV_iface eql_errV_nil neq_errV_nil eql_errV_form
attribute [local go_sem high] eql_ins

theorem text_inj {x y : InsD} (hx : x.wf) (hy : y.wf) (fx : insF x = 0) (fy : insF y = 0) (h : textM x = textM y) : x = y := by
  rw [← read_text hx fx, ← read_text hy fy, h]
theorem apart_eq (x y : InsD) (hx : x.wf) (hy : y.wf) (fx : insF x = 0) (fy : insF y = 0) : (((bs (textM x)).toList == (bs (textM y)).toList) == decide (x = y)) = true := by
  rw [ByteArray.toList_eq, ByteArray.toList_eq, bs_list, bs_list]
  by_cases h : x = y
  · subst h; simp
  · have : (textM x == textM y) = false := by rw [beq_eq_false_iff_ne]; exact fun e => h (text_inj hx hy fx fy e)
    rw [this]; simp [h]
/-- Two instructions in blocks of their own. -/
def Two (w wr : World) (x y : InsD) : Prop := Box wr w.heap.size x ∧ Box wr (w.heap.size + 1) y ∧ Below w.heap.size w wr
theorem Two.below {w wr wn : World} {x y : InsD} (h : Two w wr x y) (hb : Below wr.heap.size wr wn) : Two w wn x y := ⟨h.1.below hb, h.2.1.below hb, bnext h.2.2 hb⟩
theorem Two.bel {w wr : World} {x y : InsD} (h : Two w wr x y) : Below w.heap.size w wr := h.2.2
theorem two_start {w wn : World} {xo xa xb yo ya yb : Int} {xt xc xn yt yc yn : List UInt8} {t1 t2 : TypeId}
    (h : (w.alloc (.cells #[.int .i64 xo, .int .i64 xa, .int .i64 xb, .string (bs xt), .string (bs xc), .string (bs xn)] t1)).alloc (.cells #[.int .i64 yo, .int .i64 ya, .int .i64 yb, .string (bs yt), .string (bs yc), .string (bs yn)] t2) = wn) :
    Two w wn ⟨xo, xa, xb, xt, xc, xn⟩ ⟨yo, ya, yb, yt, yc, yn⟩ := by
  subst h
  refine ⟨(box_at w ⟨xo, xa, xb, xt, xc, xn⟩ t1 (0, 0)).below (al1 _ _), ?_, bnext (al1 _ _) (al1 _ _)⟩
  have := box_at (w.alloc (.cells #[.int .i64 xo, .int .i64 xa, .int .i64 xb, .string (bs xt), .string (bs xc), .string (bs xn)] t1)) ⟨yo, ya, yb, yt, yc, yn⟩ t2 (0, 0)
  rw [show (w.alloc (.cells #[.int .i64 xo, .int .i64 xa, .int .i64 xb, .string (bs xt), .string (bs xc), .string (bs xn)] t1)).heap.size = w.heap.size + 1 by simp] at this
  exact this
set_option maxHeartbeats 1000000 in
theorem apart_ok (x y : InsD) (tx ty : List UInt8) (fx fy : Nat) (hx : fx = 0) (hy : fy = 0) (HE : (((bs tx).toList == (bs ty).toList) == decide (x = y)) = true) (w : World) (T : Tab w) (P : Pow w)
    (HX : ∀ w, Tab w → Pow w → Calls Tryd.prog 10 #[insV x] w fun e w' => e = .returned (.tuple #[.string (bs tx), errV fx]) ∧ Below w.heap.size w w')
    (HY : ∀ w, Tab w → Pow w → Calls Tryd.prog 10 #[insV y] w fun e w' => e = .returned (.tuple #[.string (bs ty), errV fy]) ∧ Below w.heap.size w w') :
    Calls Tryd.prog 5 #[insV x, insV y] w fun e w' => e = .returned (.bool true) ∧ Below w.heap.size w w' := by
  have HT := Lib.hid T
  have HP := Lib.hid P
  clear T P
  obtain ⟨xo, xa, xb, xt, xc, xn⟩ := x
  obtain ⟨yo, ya, yb, yt, yc, yn⟩ := y
  unfold insV at *
  replace HX := Lib.hid HX
  replace HY := Lib.hid HY
  subst hx hy
  go_enter Tryd.func5, Tryd.ntmps5
  go_wp2_with (first
    | (go_at_call 13; (with_reducible refine (named_any _).mono ?_); rintro e w1 ⟨rfl, hw1⟩
       have HW := Lib.hid (two_start hw1)
       clear hw1
       obtain ⟨⟨p0, p1, p2, p3, p4, p5, p6⟩, ⟨q0, q1, q2, q3, q4, q5, q6⟩, _⟩ := HW.out)
    | (go_at_call 10; (with_reducible refine (HX.out _ (HT.out.below HW.out.bel) (HP.out.below HW.out.bel)).mono ?_); rintro e w2 ⟨rfl, b2⟩
       have HW := Lib.hid (HW.out.below b2)
       clear b2
       obtain ⟨⟨p0, p1, p2, p3, p4, p5, p6⟩, ⟨q0, q1, q2, q3, q4, q5, q6⟩, _⟩ := HW.out)
    | (go_at_call 10; (with_reducible refine (HY.out _ (HT.out.below HW.out.bel) (HP.out.below HW.out.bel)).mono ?_); rintro e w2 ⟨rfl, b2⟩
       have HW := Lib.hid (HW.out.below b2)
       clear b2
       obtain ⟨⟨p0, p1, p2, p3, p4, p5, p6⟩, ⟨q0, q1, q2, q3, q4, q5, q6⟩, _⟩ := HW.out))
  go_ret
  exact ⟨ret_bool (by simpa only [InsD.mk.injEq, Bool.decide_and] using HE), HW.out.bel⟩
set_option maxHeartbeats 1000000 in
theorem apart_x (x y : InsD) (tx ty : List UInt8) (fx fy : Nat) (hx : (fx != 0) = true) (w : World) (T : Tab w) (P : Pow w)
    (HX : ∀ w, Tab w → Pow w → Calls Tryd.prog 10 #[insV x] w fun e w' => e = .returned (.tuple #[.string (bs tx), errV fx]) ∧ Below w.heap.size w w')
    (HY : ∀ w, Tab w → Pow w → Calls Tryd.prog 10 #[insV y] w fun e w' => e = .returned (.tuple #[.string (bs ty), errV fy]) ∧ Below w.heap.size w w') :
    Calls Tryd.prog 5 #[insV x, insV y] w fun e w' => e = .returned (.bool true) ∧ Below w.heap.size w w' := by
  have HT := Lib.hid T
  have HP := Lib.hid P
  clear T P
  obtain ⟨xo, xa, xb, xt, xc, xn⟩ := x
  obtain ⟨yo, ya, yb, yt, yc, yn⟩ := y
  unfold insV at *
  replace HX := Lib.hid HX
  replace HY := Lib.hid HY
  go_enter Tryd.func5, Tryd.ntmps5
  go_wp2_with (first
    | (go_at_call 13; (with_reducible refine (named_any _).mono ?_); rintro e w1 ⟨rfl, hw1⟩
       have HW := Lib.hid (two_start hw1)
       clear hw1
       obtain ⟨⟨p0, p1, p2, p3, p4, p5, p6⟩, ⟨q0, q1, q2, q3, q4, q5, q6⟩, _⟩ := HW.out)
    | (go_at_call 10; (with_reducible refine (HX.out _ (HT.out.below HW.out.bel) (HP.out.below HW.out.bel)).mono ?_); rintro e w2 ⟨rfl, b2⟩
       have HW := Lib.hid (HW.out.below b2)
       clear b2
       obtain ⟨⟨p0, p1, p2, p3, p4, p5, p6⟩, ⟨q0, q1, q2, q3, q4, q5, q6⟩, _⟩ := HW.out)
    | (go_at_call 10; (with_reducible refine (HY.out _ (HT.out.below HW.out.bel) (HP.out.below HW.out.bel)).mono ?_); rintro e w2 ⟨rfl, b2⟩
       have HW := Lib.hid (HW.out.below b2)
       clear b2
       obtain ⟨⟨p0, p1, p2, p3, p4, p5, p6⟩, ⟨q0, q1, q2, q3, q4, q5, q6⟩, _⟩ := HW.out))
  go_ret
  exact ⟨rfl, HW.out.bel⟩
set_option maxHeartbeats 1000000 in
theorem apart_y (x y : InsD) (tx ty : List UInt8) (fx fy : Nat) (hx : fx = 0) (hy : (fy != 0) = true) (w : World) (T : Tab w) (P : Pow w)
    (HX : ∀ w, Tab w → Pow w → Calls Tryd.prog 10 #[insV x] w fun e w' => e = .returned (.tuple #[.string (bs tx), errV fx]) ∧ Below w.heap.size w w')
    (HY : ∀ w, Tab w → Pow w → Calls Tryd.prog 10 #[insV y] w fun e w' => e = .returned (.tuple #[.string (bs ty), errV fy]) ∧ Below w.heap.size w w') :
    Calls Tryd.prog 5 #[insV x, insV y] w fun e w' => e = .returned (.bool true) ∧ Below w.heap.size w w' := by
  have HT := Lib.hid T
  have HP := Lib.hid P
  clear T P
  obtain ⟨xo, xa, xb, xt, xc, xn⟩ := x
  obtain ⟨yo, ya, yb, yt, yc, yn⟩ := y
  unfold insV at *
  replace HX := Lib.hid HX
  replace HY := Lib.hid HY
  subst hx
  go_enter Tryd.func5, Tryd.ntmps5
  go_wp2_with (first
    | (go_at_call 13; (with_reducible refine (named_any _).mono ?_); rintro e w1 ⟨rfl, hw1⟩
       have HW := Lib.hid (two_start hw1)
       clear hw1
       obtain ⟨⟨p0, p1, p2, p3, p4, p5, p6⟩, ⟨q0, q1, q2, q3, q4, q5, q6⟩, _⟩ := HW.out)
    | (go_at_call 10; (with_reducible refine (HX.out _ (HT.out.below HW.out.bel) (HP.out.below HW.out.bel)).mono ?_); rintro e w2 ⟨rfl, b2⟩
       have HW := Lib.hid (HW.out.below b2)
       clear b2
       obtain ⟨⟨p0, p1, p2, p3, p4, p5, p6⟩, ⟨q0, q1, q2, q3, q4, q5, q6⟩, _⟩ := HW.out)
    | (go_at_call 10; (with_reducible refine (HY.out _ (HT.out.below HW.out.bel) (HP.out.below HW.out.bel)).mono ?_); rintro e w2 ⟨rfl, b2⟩
       have HW := Lib.hid (HW.out.below b2)
       clear b2
       obtain ⟨⟨p0, p1, p2, p3, p4, p5, p6⟩, ⟨q0, q1, q2, q3, q4, q5, q6⟩, _⟩ := HW.out))
  go_ret
  exact ⟨rfl, HW.out.bel⟩
theorem insApart_walk (x y : InsD) (hx : x.wf) (hy : y.wf) (zx : x.fits) (zy : y.fits) (w : World) (T : Tab w) (P : Pow w) :
    Calls Tryd.prog 5 #[insV x, insV y] w fun e w' => e = .returned (.bool true) ∧ Below w.heap.size w w' := by
  have HX := fun w T P => text_any x hx zx w T P
  have HY := fun w T P => text_any y hy zy w T P
  by_cases fx : insF x = 0
  · by_cases fy : insF y = 0
    · refine apart_ok x y _ _ _ _ fx fy ?_ w T P HX HY
      rw [show textR x = textM x by unfold textR; rw [if_pos fx], show textR y = textM y by unfold textR; rw [if_pos fy]]
      exact apart_eq x y hx hy fx fy
    · exact apart_y x y _ _ _ _ fx (by rw [bne_iff_ne]; exact fy) w T P HX HY
  · exact apart_x x y _ _ _ _ (by rw [bne_iff_ne]; exact fx) w T P HX HY
end Go.Proofs.YtdikccncljhehaaDoor
