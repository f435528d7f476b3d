/- The walk of coffeehouselaw6.CodeLonger. -/
import Derived.Test.YthnilohilbacpaaDoorCoL1
import Derived.Test.YthnilohilbacpaaDoorNamed
import Derived.Deep.RegionHeldLaw
namespace Go.Proofs.YthnilohilbacpaaDoor
open Go.ChangeShapes Go.WideShapes Go.ChangeAt Go.RowKit
set_option linter.unusedVariables false
set_option linter.unusedSimpArgs false
attribute [local go_sem] eqGuard_errV_nil eqGuard_errV_iface eql_errV_nil neq_errV_nil eql_errV_form
theorem eql_errV_four (n : Nat) (w : World) : (binOp .eql 30 (errV n) (.iface 24 (.int .i64 4))).run Tryd.prog w = .ok (.bool (n == 4)) w := eql_errV_iface n 4 w (by omega)
attribute [local go_sem] eql_errV_four

/-- Instructions behind instructions, at a step of a region that draws its order. -/
theorem step_ins {ops : Array Oper} {o : Oper} {a : Act} {w : World} {K : Act → World → Prop} {Q : Exit → Act → World → Prop} {E : Prop} (hgd : o.guard = none) (s x : Operand) (ho : o.op = .call { callee := .builtin .append, args := #[s, x], argTypes := #[22, 22] })
    (base : Nat) (v : Value) (xs ys : List InsD) (N : Nat) (hN : (xs ++ ys).length = N) (hs : a.eval s = v) (hown : w.ownsRow base 27 6 v xs.length (xs.flatMap insC))
    (A : Option Addr) (m c : Nat) (hx : a.eval x = .slice A m c) (R : InsRow w A m c ys) (hA : A = none → m = 0 ∧ c = 0) (hn : (xs.length + m) * 72 ≤ 140737488355328) (hbase : base ≤ w.heap.size)
    (h : ∀ A' c' w', w'.ownsRow base 27 6 (.slice A' N c') (xs ++ ys).length ((xs ++ ys).flatMap insC) → InsRow w' A' N c' (xs ++ ys) → Below base w w' → w.grownBy w' v.ownBlock → K (a.put o.dst (.slice A' N c')) w') :
    if Region.wanted o (yielded ops a.tmps) = true then Oper.wp Tryd.prog o a w K Q else E := by
  have hw : Region.wanted o (yielded ops a.tmps) = true := by simp [Region.wanted, hgd]
  rw [if_pos hw]
  have fin : ∀ v' w', w'.ownsRow base 27 6 v' (xs ++ ys).length ((xs ++ ys).flatMap insC) → w.grownBy w' v.ownBlock → K (a.put o.dst v') w' := by
    intro v' w' k1 k2
    obtain ⟨A', c', rfl, R'⟩ := own_ins k1
    rw [hN] at k1 R'
    rw [hN]
    exact h A' c' w' (hN ▸ k1) R' ((Below.refl _ _).grown k2 hbase (fun q hq => (hown.lt q hq).1)) k2
  obtain ⟨i0, hi, hz0, hz1, hz2⟩ := info_parts ins_info
  rcases Nat.eq_zero_or_pos m with rfl | hm
  · obtain rfl : ys = [] := by simpa using R.1
    cases A with
    | none =>
      obtain ⟨_, rfl⟩ := hA rfl
      have hrun := run_append_owned_none (P := Tryd.prog) (w := w) base 22 o.type 27 i0 6 Tryd.underlying22 hi v xs.length (xs.flatMap insC) hown
      unfold Oper.wp
      simp [execOp, ho, resolve, invoke, builtin, hs, hx, hrun, Result.andThen]
      exact fin v w (by rw [List.append_nil]; exact hown) ⟨rfl, rfl, rfl, Nat.le_refl _, fun _ _ _ => rfl⟩
    | some ad =>
      refine wp_append_own _ s x 22 ho base 27 i0 (insV zeroI) 6 72 Tryd.underlying22 hi hz0 hz1 hz2 rfl (by decide) v xs.length (xs.flatMap insC) hs hown ad 0 c [] hx rfl (fun j u hu => by simp at hu) (fun u hu => by cases hu) (by unfold maxLen; omega) (by omega) hbase ?_
      intro v' w' k1 k2 _
      exact fin v' w' (by rw [List.append_nil] at k1 ⊢; exact k1) k2
  · obtain ⟨h1, h2, h3⟩ := R
    obtain ⟨b, o', rfl, hb, hc⟩ := h3 hm
    refine wp_append_own _ s x 22 ho base 27 i0 (insV zeroI) 6 72 Tryd.underlying22 hi hz0 hz1 hz2 rfl (by decide) v xs.length (xs.flatMap insC) hs hown ⟨b, o', none⟩ m c (ys.flatMap insC) hx (by rw [cells_len, h1]) (fun j u hu => ?_) (cells_one ys) (by unfold maxLen; omega) (by omega) hbase ?_
    · obtain ⟨y, hy, hu⟩ := cells_get hu
      have := (hc _ _ hy).cell hu
      rw [add_plain]
      rw [Nat.add_assoc, show j / 6 * 6 + j % 6 = j by omega] at this
      exact this
    · intro v' w' k1 k2 _
      exact fin v' w' (by rw [List.flatMap_append, List.length_append, h1]; exact k1) k2
theorem own_drew {w : World} {base : Nat} {e : TypeId} {size : Nat} {v : Value} {n : Nat} {xs : List Value} (h : w.ownsRow base e size v n xs) : w.drew.ownsRow base e size v n xs := h
theorem below_drew {w a : World} {B : Nat} (h : Below B w a) : Below B w a.drew := ⟨h.os, h.tape, h.output, h.size, h.block⟩
theorem InsRow.grown {w w' : World} {A : Option Addr} {n c : Nat} {l : List InsD} {row : Option Nat} (R : InsRow w A n c l) (hg : w.grownBy w' row) (hA : ∀ a, A = some a → some a.block ≠ row) : InsRow w' A n c l :=
  ⟨R.1, R.2.1, fun hn => by
    obtain ⟨b, o, e, hb, hc⟩ := R.2.2 hn
    refine ⟨b, o, e, Nat.lt_of_lt_of_le hb hg.size, fun j x hx => (hc j x hx).kept fun p hp => ?_⟩
    exact World.cell?_of_block (hg.block _ (by rw [hp]; exact hb) (by rw [hp]; exact hA _ e))⟩
theorem ins_none (w : World) (base : Nat) (hb : base ≤ w.heap.size) : (w.alloc (.cells #[] 27 (0, 0))).ownsRow base 27 6 (.slice (some ⟨w.heap.size, 0, none⟩) 0 0) ([] : List InsD).length (([] : List InsD).flatMap insC) :=
  World.ownsRow_made w #[] 0 hb (Nat.zero_le _) rfl
theorem ins_none2 (w : World) (o : Obj) (base : Nat) (hb : base ≤ w.heap.size) : ((w.alloc o).alloc (.cells #[] 27 (0, 0))).ownsRow base 27 6 (.slice (some ⟨w.heap.size + 1, 0, none⟩) 0 0) ([] : List InsD).length (([] : List InsD).flatMap insC) := by
  have := ins_none (w.alloc o) base (by simp; omega)
  rw [show (w.alloc o).heap.size = w.heap.size + 1 by simp] at this
  exact this
theorem lit_two (w : World) (o : Obj) (x : InsD) (t : TypeId) (f : Nat × Nat) : InsRow ((w.alloc o).alloc (.cells #[.int .i64 x.op, .int .i64 x.a, .int .i64 x.b, .string (bs x.ty), .string (bs x.cl), .string (bs x.nm)] t f)) (some ⟨w.heap.size + 1, 0, none⟩) 1 1 [x] := by
  have := InsRow.lit (w.alloc o) x t f
  rw [show (w.alloc o).heap.size = w.heap.size + 1 by simp] at this
  exact this
theorem box_eq {w wn : World} {xo xa xb : Int} {xt xc xn : List UInt8} {t1 : TypeId} (h : w.alloc (.cells #[.int .i64 xo, .int .i64 xa, .int .i64 xb, .string (bs xt), .string (bs xc), .string (bs xn)] t1) = wn) :
    Box wn w.heap.size ⟨xo, xa, xb, xt, xc, xn⟩ ∧ Below w.heap.size w wn := by
  subst h
  exact ⟨box_at w ⟨xo, xa, xb, xt, xc, xn⟩ t1 (0, 0), al1 _ _⟩
set_option maxRecDepth 20000 in
set_option maxHeartbeats 8000000 in
theorem longer_bad (l : List InsD) (x : InsD) (A : Option Addr) (n c : Nat) (w : World) (T : Tab w) (P : Pow w) (R : InsRow w A n c l) (hA : A = none → n = 0 ∧ c = 0) (hw : ∀ x ∈ l, x.wf) (hf : ∀ x ∈ l, x.fits) (hn : n * 72 ≤ 140737488351232) (hxw : x.wf) (hxf : x.fits) (h0 : codeF l ≠ 0) (hG : codeF (l ++ [x]) ≠ 0) :
    Calls Tryd.prog 7 #[.slice A n c, insV x] w fun e w' => e = .returned (.bool true) ∧ Below w.heap.size w w' := by
  have hln : l.length = n := R.1
  subst hln
  have HN := Lib.hid (fun W T P R => (encode_any l A l.length c W T P R hw hf).mono fun _ _ h => enc_fails h h0)
  have HX := fun W T P => text_any x hxw hxf W T P
  have HM := Lib.hid (fun W A c T P R => (encode_any (l ++ [x]) A (l.length + 1) c W T P R (fun y hy => by rcases List.mem_append.1 hy with h | h; exact hw y h; obtain rfl := List.mem_singleton.1 h; exact hxw) (fun y hy => by rcases List.mem_append.1 hy with h | h; exact hf y h; obtain rfl := List.mem_singleton.1 h; exact hxf)).mono fun _ _ h => enc_fails h hG)
  have HT := Lib.hid T
  have HP := Lib.hid P
  have HR := Lib.hid R
  have HA := Lib.hid hA
  have hne : (codeF l != 0) = true := by rw [bne_iff_ne]; exact h0
  have hgne : (codeF (l ++ [x]) != 0) = true := by rw [bne_iff_ne]; exact hG
  clear T P R hA hw hf hxw hxf h0 hG
  generalize codeF l = F at *
  generalize codeF (l ++ [x]) = G at *
  generalize textR x = tx at *
  generalize insF x = f at *
  obtain ⟨xo, xa, xb, xt, xc, xn⟩ := x
  unfold insV at *
  replace HX := Lib.hid HX
  go_enter Tryd.func7, Tryd.ntmps7
  go_wp2_with (first
    | (go_at_call 16; (with_reducible refine (named_any _).mono ?_); rintro e w1 ⟨rfl, hw1⟩
       have HX1 := box_eq hw1
       have BX := Lib.hid HX1.1
       have HL1 := Lib.hid HX1.2
       clear hw1 HX1)
    | (go_at_call 10; (with_reducible refine (HN.out _ (HT.out.below HL1.out) (HP.out.below HL1.out) (HR.out.below HL1.out)).mono ?_); rintro e w2 ⟨rfl, hb⟩
       have BX2 := Lib.hid (BX.out.below hb)
       have HL2 := Lib.hid (bnext HL1.out hb)
       clear hb
       obtain ⟨p0, p1, p2, p3, p4, p5, p6⟩ := BX2.out)
    | (go_at_call 17; (with_reducible refine (HX.out _ (HT.out.below HL2.out) (HP.out.below HL2.out)).mono ?_); rintro e w3 ⟨rfl, hb⟩
       have BX3 := Lib.hid (BX2.out.below hb)
       have HL3 := Lib.hid (bnext HL2.out hb)
       clear hb p0 p1 p2 p3 p4 p5 p6
       obtain ⟨p0, p1, p2, p3, p4, p5, p6⟩ := BX3.out))
  have HW3 := HL3.out.size
  first | go_region_held_law (fun w' => w'.cell? ⟨w.heap.size, 0, none⟩ = some (.int .i64 xo) ∧ w'.cell? ⟨w.heap.size, 1, none⟩ = some (.int .i64 xa) ∧ w'.cell? ⟨w.heap.size, 2, none⟩ = some (.int .i64 xb) ∧ w'.cell? ⟨w.heap.size, 3, none⟩ = some (.string (bs xt)) ∧ w'.cell? ⟨w.heap.size, 4, none⟩ = some (.string (bs xc)) ∧ w'.cell? ⟨w.heap.size, 5, none⟩ = some (.string (bs xn)))
    (go_keep)
    (first
      | (refine step_ins rfl (.tmp 26) (.tmp 27) rfl w3.heap.size (.slice (some ⟨w3.heap.size, 0, none⟩) 0 0) [] l l.length rfl (by simp [Act.eval, Act.put]) (own_drew (ins_none w3 _ (Nat.le_refl _))) _ _ _ (by simp [Act.eval, Act.put]) (HR.out.below (bnext HL3.out (al1 w3 (.cells #[] 27)))).drew HA.out (by simp; omega) (by simp <;> omega) ?_
         intro A4 c4 w4 hv4 hr4 hb4 hg4
         have HB4 := Lib.hid ((below_drew (al1 w3 (.cells #[] 27))).trans hb4)
         have HO4 := Lib.hid hv4
         have HLit := Lib.hid (trivial)
         have BX4 := Lib.hid (BX3.out.below HB4.out)
         have hs4 := HB4.out.size
         clear hv4 hr4 hb4 hg4
         obtain ⟨q0, q1, q2, q3, q4, q5, q6⟩ := BX4.out)
      | (refine step_ins rfl (.tmp 26) (.tmp 27) rfl w3.heap.size (.slice (some ⟨w3.heap.size, 0, none⟩) 0 0) [] l l.length rfl (by simp [Act.eval, Act.put]) (own_drew ((ins_none w3 _ (Nat.le_refl _)).alloc (.cells #[.int .i64 xo, .int .i64 xa, .int .i64 xb, .string (bs xt), .string (bs xc), .string (bs xn)] 27))) _ _ _ (by simp [Act.eval, Act.put]) ((HR.out.below (bnext HL3.out (al1 w3 (.cells #[] 27)))).alloc (.cells #[.int .i64 xo, .int .i64 xa, .int .i64 xb, .string (bs xt), .string (bs xc), .string (bs xn)] 27)).drew HA.out (by simp; omega) (by simp <;> omega) ?_
         intro A4 c4 w4 hv4 hr4 hb4 hg4
         have HB4 := Lib.hid ((below_drew (bnext (al1 w3 (.cells #[] 27)) (al1 _ (.cells #[.int .i64 xo, .int .i64 xa, .int .i64 xb, .string (bs xt), .string (bs xc), .string (bs xn)] 27)))).trans hb4)
         have HO4 := Lib.hid hv4
         have HLit := Lib.hid ((lit_two w3 (.cells #[] 27) ⟨xo, xa, xb, xt, xc, xn⟩ 27 (0, 0)).drew.grown hg4 (fun a ha => by obtain rfl := Option.some.inj ha; intro h; have := Option.some.inj h; simp at this))
         have BX4 := Lib.hid (BX3.out.below HB4.out)
         have hs4 := HB4.out.size
         clear hv4 hr4 hb4 hg4
         obtain ⟨q0, q1, q2, q3, q4, q5, q6⟩ := BX4.out)
      | (refine step_ins rfl (.tmp 26) (.tmp 27) rfl w3.heap.size (.slice (some ⟨w3.heap.size + 1, 0, none⟩) 0 0) [] l l.length rfl (by simp [Act.eval, Act.put]) (own_drew (ins_none2 w3 (.cells #[.int .i64 xo, .int .i64 xa, .int .i64 xb, .string (bs xt), .string (bs xc), .string (bs xn)] 27) _ (Nat.le_refl _))) _ _ _ (by simp [Act.eval, Act.put]) ((HR.out.below (bnext HL3.out (al1 w3 (.cells #[.int .i64 xo, .int .i64 xa, .int .i64 xb, .string (bs xt), .string (bs xc), .string (bs xn)] 27)))).alloc (.cells #[] 27)).drew HA.out (by simp; omega) (by simp <;> omega) ?_
         intro A4 c4 w4 hv4 hr4 hb4 hg4
         have HB4 := Lib.hid ((below_drew (bnext (al1 w3 (.cells #[.int .i64 xo, .int .i64 xa, .int .i64 xb, .string (bs xt), .string (bs xc), .string (bs xn)] 27)) (al1 _ (.cells #[] 27)))).trans hb4)
         have HO4 := Lib.hid hv4
         have HLit := Lib.hid (((InsRow.lit w3 ⟨xo, xa, xb, xt, xc, xn⟩ 27 (0, 0)).alloc (.cells #[] 27)).drew.grown hg4 (fun a ha => by obtain rfl := Option.some.inj ha; intro h; have := Option.some.inj h; simp at this))
         have BX4 := Lib.hid (BX3.out.below HB4.out)
         have hs4 := HB4.out.size
         clear hv4 hr4 hb4 hg4
         obtain ⟨q0, q1, q2, q3, q4, q5, q6⟩ := BX4.out)
      | (refine step_ins rfl (.tmp 28) (.tmp 30) rfl w3.heap.size (.slice A4 l.length c4) l [⟨xo, xa, xb, xt, xc, xn⟩] (l.length + 1) (by simp) (by simp [Act.eval, Act.put]) (HO4.out.alloc _) _ 1 1 (by simp [Act.eval, Act.put]) (InsRow.lit w4 ⟨xo, xa, xb, xt, xc, xn⟩ 27 (0, 0)) (fun h => by cases h) (by omega) (by simp; omega) ?_
         intro A5 c5 w5 hv5 hr5 hb5 hg5
         have HR5 := Lib.hid hr5
         have HB5 := Lib.hid ((HB4.out.alloc hs4 (.cells #[.int .i64 xo, .int .i64 xa, .int .i64 xb, .string (bs xt), .string (bs xc), .string (bs xn)] 27)).trans hb5)
         have BX5 := Lib.hid (BX3.out.below HB5.out)
         clear hv5 hr5 hb5 hg5
         obtain ⟨q0, q1, q2, q3, q4, q5, q6⟩ := BX5.out)
      | (refine step_ins rfl (.tmp 28) (.tmp 30) rfl w3.heap.size (.slice A4 l.length c4) l [⟨xo, xa, xb, xt, xc, xn⟩] (l.length + 1) (by simp) (by simp [Act.eval, Act.put]) HO4.out _ 1 1 (by simp [Act.eval, Act.put]) HLit.out (fun h => by cases h) (by omega) hs4 ?_
         intro A5 c5 w5 hv5 hr5 hb5 hg5
         have HR5 := Lib.hid hr5
         have HB5 := Lib.hid (HB4.out.trans hb5)
         have BX5 := Lib.hid (BX3.out.below HB5.out)
         clear hv5 hr5 hb5 hg5
         obtain ⟨q0, q1, q2, q3, q4, q5, q6⟩ := BX5.out)
      | (go_at_call 10; (with_reducible refine (HM.out _ _ _ (HT.out.below (bnext HL3.out HB5.out)) (HP.out.below (bnext HL3.out HB5.out)) HR5.out).mono ?_); rintro e w6 ⟨rfl, hb⟩
         have HL6 := Lib.hid (bnext (bnext HL3.out HB5.out) hb)
         have BX6 := Lib.hid (BX5.out.below hb)
         clear hb
         obtain ⟨q0, q1, q2, q3, q4, q5, q6⟩ := BX6.out)) | fail
  all_goals
    go_wp2
    all_goals
      go_ret
      exact ⟨rfl, HL6.out⟩
set_option maxRecDepth 20000 in
set_option maxHeartbeats 8000000 in
theorem longer_text (l : List InsD) (x : InsD) (A : Option Addr) (n c : Nat) (w : World) (T : Tab w) (P : Pow w) (R : InsRow w A n c l) (hA : A = none → n = 0 ∧ c = 0) (hw : ∀ x ∈ l, x.wf) (hf : ∀ x ∈ l, x.fits) (hn : n * 72 ≤ 140737488351232) (hxw : x.wf) (hxf : x.fits) (h0 : codeF l = 0) (hx0 : insF x ≠ 0) (hG : codeF (l ++ [x]) ≠ 0) :
    Calls Tryd.prog 7 #[.slice A n c, insV x] w fun e w' => e = .returned (.bool true) ∧ Below w.heap.size w w' := by
  have hln : l.length = n := R.1
  subst hln
  have HN := Lib.hid (fun W T P R => (encode_any l A l.length c W T P R hw hf).mono fun _ _ h => enc_gives h h0)
  have HX := fun W T P => text_any x hxw hxf W T P
  have HM := Lib.hid (fun W A c T P R => (encode_any (l ++ [x]) A (l.length + 1) c W T P R (fun y hy => by rcases List.mem_append.1 hy with h | h; exact hw y h; obtain rfl := List.mem_singleton.1 h; exact hxw) (fun y hy => by rcases List.mem_append.1 hy with h | h; exact hf y h; obtain rfl := List.mem_singleton.1 h; exact hxf)).mono fun _ _ h => enc_fails h hG)
  have HT := Lib.hid T
  have HP := Lib.hid P
  have HR := Lib.hid R
  have HA := Lib.hid hA
  have hne : (insF x != 0) = true := by rw [bne_iff_ne]; exact hx0
  have hgne : (codeF (l ++ [x]) != 0) = true := by rw [bne_iff_ne]; exact hG
  clear T P R hA hw hf hxw hxf h0 hx0 hG
  generalize codeF (l ++ [x]) = G at *
  generalize textR x = tx at *
  generalize insF x = f at *
  obtain ⟨xo, xa, xb, xt, xc, xn⟩ := x
  unfold insV at *
  replace HX := Lib.hid HX
  go_enter Tryd.func7, Tryd.ntmps7
  go_wp2_with (first
    | (go_at_call 16; (with_reducible refine (named_any _).mono ?_); rintro e w1 ⟨rfl, hw1⟩
       have HX1 := box_eq hw1
       have BX := Lib.hid HX1.1
       have HL1 := Lib.hid HX1.2
       clear hw1 HX1)
    | (go_at_call 10; (with_reducible refine (HN.out _ (HT.out.below HL1.out) (HP.out.below HL1.out) (HR.out.below HL1.out)).mono ?_); rintro e w2 ⟨A2, c2, rfl, hr, hb⟩
       have HR2 := Lib.hid hr
       clear hr
       have BX2 := Lib.hid (BX.out.below hb)
       have HL2 := Lib.hid (bnext HL1.out hb)
       clear hb
       obtain ⟨p0, p1, p2, p3, p4, p5, p6⟩ := BX2.out)
    | (go_at_call 17; (with_reducible refine (HX.out _ (HT.out.below HL2.out) (HP.out.below HL2.out)).mono ?_); rintro e w3 ⟨rfl, hb⟩
       have BX3 := Lib.hid (BX2.out.below hb)
       have HL3 := Lib.hid (bnext HL2.out hb)
       clear hb p0 p1 p2 p3 p4 p5 p6
       obtain ⟨p0, p1, p2, p3, p4, p5, p6⟩ := BX3.out))
  have HW3 := HL3.out.size
  first | go_region_held_law (fun w' => w'.cell? ⟨w.heap.size, 0, none⟩ = some (.int .i64 xo) ∧ w'.cell? ⟨w.heap.size, 1, none⟩ = some (.int .i64 xa) ∧ w'.cell? ⟨w.heap.size, 2, none⟩ = some (.int .i64 xb) ∧ w'.cell? ⟨w.heap.size, 3, none⟩ = some (.string (bs xt)) ∧ w'.cell? ⟨w.heap.size, 4, none⟩ = some (.string (bs xc)) ∧ w'.cell? ⟨w.heap.size, 5, none⟩ = some (.string (bs xn)))
    (go_keep)
    (first
      | (refine step_ins rfl (.tmp 26) (.tmp 27) rfl w3.heap.size (.slice (some ⟨w3.heap.size, 0, none⟩) 0 0) [] l l.length rfl (by simp [Act.eval, Act.put]) (own_drew (ins_none w3 _ (Nat.le_refl _))) _ _ _ (by simp [Act.eval, Act.put]) (HR.out.below (bnext HL3.out (al1 w3 (.cells #[] 27)))).drew HA.out (by simp; omega) (by simp <;> omega) ?_
         intro A4 c4 w4 hv4 hr4 hb4 hg4
         have HB4 := Lib.hid ((below_drew (al1 w3 (.cells #[] 27))).trans hb4)
         have HO4 := Lib.hid hv4
         have HLit := Lib.hid (trivial)
         have BX4 := Lib.hid (BX3.out.below HB4.out)
         have hs4 := HB4.out.size
         clear hv4 hr4 hb4 hg4
         obtain ⟨q0, q1, q2, q3, q4, q5, q6⟩ := BX4.out)
      | (refine step_ins rfl (.tmp 26) (.tmp 27) rfl w3.heap.size (.slice (some ⟨w3.heap.size, 0, none⟩) 0 0) [] l l.length rfl (by simp [Act.eval, Act.put]) (own_drew ((ins_none w3 _ (Nat.le_refl _)).alloc (.cells #[.int .i64 xo, .int .i64 xa, .int .i64 xb, .string (bs xt), .string (bs xc), .string (bs xn)] 27))) _ _ _ (by simp [Act.eval, Act.put]) ((HR.out.below (bnext HL3.out (al1 w3 (.cells #[] 27)))).alloc (.cells #[.int .i64 xo, .int .i64 xa, .int .i64 xb, .string (bs xt), .string (bs xc), .string (bs xn)] 27)).drew HA.out (by simp; omega) (by simp <;> omega) ?_
         intro A4 c4 w4 hv4 hr4 hb4 hg4
         have HB4 := Lib.hid ((below_drew (bnext (al1 w3 (.cells #[] 27)) (al1 _ (.cells #[.int .i64 xo, .int .i64 xa, .int .i64 xb, .string (bs xt), .string (bs xc), .string (bs xn)] 27)))).trans hb4)
         have HO4 := Lib.hid hv4
         have HLit := Lib.hid ((lit_two w3 (.cells #[] 27) ⟨xo, xa, xb, xt, xc, xn⟩ 27 (0, 0)).drew.grown hg4 (fun a ha => by obtain rfl := Option.some.inj ha; intro h; have := Option.some.inj h; simp at this))
         have BX4 := Lib.hid (BX3.out.below HB4.out)
         have hs4 := HB4.out.size
         clear hv4 hr4 hb4 hg4
         obtain ⟨q0, q1, q2, q3, q4, q5, q6⟩ := BX4.out)
      | (refine step_ins rfl (.tmp 26) (.tmp 27) rfl w3.heap.size (.slice (some ⟨w3.heap.size + 1, 0, none⟩) 0 0) [] l l.length rfl (by simp [Act.eval, Act.put]) (own_drew (ins_none2 w3 (.cells #[.int .i64 xo, .int .i64 xa, .int .i64 xb, .string (bs xt), .string (bs xc), .string (bs xn)] 27) _ (Nat.le_refl _))) _ _ _ (by simp [Act.eval, Act.put]) ((HR.out.below (bnext HL3.out (al1 w3 (.cells #[.int .i64 xo, .int .i64 xa, .int .i64 xb, .string (bs xt), .string (bs xc), .string (bs xn)] 27)))).alloc (.cells #[] 27)).drew HA.out (by simp; omega) (by simp <;> omega) ?_
         intro A4 c4 w4 hv4 hr4 hb4 hg4
         have HB4 := Lib.hid ((below_drew (bnext (al1 w3 (.cells #[.int .i64 xo, .int .i64 xa, .int .i64 xb, .string (bs xt), .string (bs xc), .string (bs xn)] 27)) (al1 _ (.cells #[] 27)))).trans hb4)
         have HO4 := Lib.hid hv4
         have HLit := Lib.hid (((InsRow.lit w3 ⟨xo, xa, xb, xt, xc, xn⟩ 27 (0, 0)).alloc (.cells #[] 27)).drew.grown hg4 (fun a ha => by obtain rfl := Option.some.inj ha; intro h; have := Option.some.inj h; simp at this))
         have BX4 := Lib.hid (BX3.out.below HB4.out)
         have hs4 := HB4.out.size
         clear hv4 hr4 hb4 hg4
         obtain ⟨q0, q1, q2, q3, q4, q5, q6⟩ := BX4.out)
      | (refine step_ins rfl (.tmp 28) (.tmp 30) rfl w3.heap.size (.slice A4 l.length c4) l [⟨xo, xa, xb, xt, xc, xn⟩] (l.length + 1) (by simp) (by simp [Act.eval, Act.put]) (HO4.out.alloc _) _ 1 1 (by simp [Act.eval, Act.put]) (InsRow.lit w4 ⟨xo, xa, xb, xt, xc, xn⟩ 27 (0, 0)) (fun h => by cases h) (by omega) (by simp; omega) ?_
         intro A5 c5 w5 hv5 hr5 hb5 hg5
         have HR5 := Lib.hid hr5
         have HB5 := Lib.hid ((HB4.out.alloc hs4 (.cells #[.int .i64 xo, .int .i64 xa, .int .i64 xb, .string (bs xt), .string (bs xc), .string (bs xn)] 27)).trans hb5)
         have BX5 := Lib.hid (BX3.out.below HB5.out)
         clear hv5 hr5 hb5 hg5
         obtain ⟨q0, q1, q2, q3, q4, q5, q6⟩ := BX5.out)
      | (refine step_ins rfl (.tmp 28) (.tmp 30) rfl w3.heap.size (.slice A4 l.length c4) l [⟨xo, xa, xb, xt, xc, xn⟩] (l.length + 1) (by simp) (by simp [Act.eval, Act.put]) HO4.out _ 1 1 (by simp [Act.eval, Act.put]) HLit.out (fun h => by cases h) (by omega) hs4 ?_
         intro A5 c5 w5 hv5 hr5 hb5 hg5
         have HR5 := Lib.hid hr5
         have HB5 := Lib.hid (HB4.out.trans hb5)
         have BX5 := Lib.hid (BX3.out.below HB5.out)
         clear hv5 hr5 hb5 hg5
         obtain ⟨q0, q1, q2, q3, q4, q5, q6⟩ := BX5.out)
      | (go_at_call 10; (with_reducible refine (HM.out _ _ _ (HT.out.below (bnext HL3.out HB5.out)) (HP.out.below (bnext HL3.out HB5.out)) HR5.out).mono ?_); rintro e w6 ⟨rfl, hb⟩
         have HL6 := Lib.hid (bnext (bnext HL3.out HB5.out) hb)
         have BX6 := Lib.hid (BX5.out.below hb)
         clear hb
         obtain ⟨q0, q1, q2, q3, q4, q5, q6⟩ := BX6.out)) | fail
  all_goals
    go_wp2
    all_goals
      go_ret
      exact ⟨rfl, HL6.out⟩
theorem right_more {l : List InsD} {x : InsD} (hl : Right l) (hx : x.good) (hn : l.length < 40) : Right (l ++ [x]) := by
  refine ⟨by rw [List.length_append, List.length_singleton]; omega, fun y hy => ?_⟩
  rcases List.mem_append.1 hy with h | h
  · exact hl.2 y h
  · obtain rfl := List.mem_singleton.1 h
    exact hx
theorem cut_mid (W : World) (A : Option Addr) (n c k : Nat) (h : 1 + k ≤ c) :
    (Instr.sliceAt 28 (.slice A n c) (some (.int .i64 1)) (some (.int .i64 ((k : Int) + 1))) none).run Tryd.prog W = .ok (.slice (cutA A c 1) k (c - 1)) W := by
  rw [Int.add_comm]
  exact text_cut A n c k W h
theorem cut_tail (W : World) (A : Option Addr) (k c : Nat) (h : 1 + k ≤ c) :
    (Instr.sliceAt 28 (.slice A (k + 1) c) (some (.int .i64 1)) none none).run Tryd.prog W = .ok (.slice (cutA A c 1) k (c - 1)) W := by
  have := cut_l W A (k + 1) c 1 (by omega)
  rw [Nat.add_sub_cancel] at this
  exact this
theorem body_at {l : List InsD} {k : Nat} (hk : (codeL l).length = k + 1) : (bodyL l).length = k := by
  have e : (codeL l).length = (bodyL l).length + 1 := rfl
  omega
theorem tail_row {w : World} {A : Option Addr} {k c : Nat} {l : List InsD} (hk : (codeL l).length = k + 1) (R : Row w A (k + 1) c ((codeL l).map byteV)) : Row w (cutA A c 1) k (c - 1) ((bodyL l).map byteV) := by
  have := rest_row R 1 (by omega)
  rw [Nat.add_sub_cancel] at this
  exact this
theorem mid_row {w : World} {A : Option Addr} {k c t : Nat} {l : List InsD} {x : InsD} (hk : (codeL l).length = k + 1) (R : Row w A t c ((codeL (l ++ [x])).map byteV)) (ht : k + 1 ≤ t) : Row w (cutA A c 1) k (c - 1) ((bodyL l).map byteV) := by
  have := R.cut (l := 1) (h := k + 1) (by omega) ht
  rw [Nat.add_sub_cancel] at this
  have e : (((codeL (l ++ [x])).map byteV).take (k + 1)).drop 1 = (bodyL l).map byteV := by
    show ((UInt8.ofNat (l ++ [x]).length :: bodyL (l ++ [x])).map byteV |>.take (k + 1)).drop 1 = _
    rw [List.map_cons, List.take_succ_cons, List.drop_succ_cons, List.drop_zero, bodyL_append, List.map_append, ← body_at hk, List.take_left' (by simp)]
  rw [e] at this
  exact this
set_option maxRecDepth 20000 in
set_option maxHeartbeats 8000000 in
theorem longer_full (l : List InsD) (x : InsD) (A : Option Addr) (n c : Nat) (w : World) (T : Tab w) (P : Pow w) (R : InsRow w A n c l) (hA : A = none → n = 0 ∧ c = 0) (hw : ∀ x ∈ l, x.wf) (hf : ∀ x ∈ l, x.fits) (hn : n * 72 ≤ 140737488351232) (hxw : x.wf) (hxf : x.fits) (h0 : codeF l = 0) (hx0 : insF x = 0) (h40 : 40 ≤ n) :
    Calls Tryd.prog 7 #[.slice A n c, insV x] w fun e w' => e = .returned (.bool true) ∧ Below w.heap.size w w' := by
  have hln : l.length = n := R.1
  subst hln
  have hG : codeF (l ++ [x]) = 4 := by unfold codeF; rw [List.length_append, List.length_singleton, if_pos (by omega)]
  have HN := Lib.hid (fun W T P R => (encode_any l A l.length c W T P R hw hf).mono fun _ _ h => enc_gives h h0)
  have HX := fun W T P => text_any x hxw hxf W T P
  have HM := (fun W A c T P R => (encode_any (l ++ [x]) A (l.length + 1) c W T P R (fun y hy => by rcases List.mem_append.1 hy with h | h; exact hw y h; obtain rfl := List.mem_singleton.1 h; exact hxw) (fun y hy => by rcases List.mem_append.1 hy with h | h; exact hf y h; obtain rfl := List.mem_singleton.1 h; exact hxf)).mono fun _ _ h => enc_fails h (by rw [hG]; decide))
  rw [hG] at HM
  replace HM := Lib.hid HM
  rw [hx0] at HX
  have HT := Lib.hid T
  have HP := Lib.hid P
  have HR := Lib.hid R
  have HA := Lib.hid hA
  clear T P R hA hw hf hxw hxf h0 hx0 hG
  generalize textR x = tx at *
  obtain ⟨xo, xa, xb, xt, xc, xn⟩ := x
  unfold insV at *
  replace HX := Lib.hid HX
  go_enter Tryd.func7, Tryd.ntmps7
  go_wp2_with (first
    | (go_at_call 16; (with_reducible refine (named_any _).mono ?_); rintro e w1 ⟨rfl, hw1⟩
       have HX1 := box_eq hw1
       have BX := Lib.hid HX1.1
       have HL1 := Lib.hid HX1.2
       clear hw1 HX1)
    | (go_at_call 10; (with_reducible refine (HN.out _ (HT.out.below HL1.out) (HP.out.below HL1.out) (HR.out.below HL1.out)).mono ?_); rintro e w2 ⟨A2, c2, rfl, hr, hb⟩
       have HR2 := Lib.hid hr
       clear hr
       have BX2 := Lib.hid (BX.out.below hb)
       have HL2 := Lib.hid (bnext HL1.out hb)
       clear hb
       obtain ⟨p0, p1, p2, p3, p4, p5, p6⟩ := BX2.out)
    | (go_at_call 17; (with_reducible refine (HX.out _ (HT.out.below HL2.out) (HP.out.below HL2.out)).mono ?_); rintro e w3 ⟨rfl, hb⟩
       have BX3 := Lib.hid (BX2.out.below hb)
       have HL3 := Lib.hid (bnext HL2.out hb)
       clear hb p0 p1 p2 p3 p4 p5 p6
       obtain ⟨p0, p1, p2, p3, p4, p5, p6⟩ := BX3.out))
  have HW3 := HL3.out.size
  first | go_region_held_law (fun w' => w'.cell? ⟨w.heap.size, 0, none⟩ = some (.int .i64 xo) ∧ w'.cell? ⟨w.heap.size, 1, none⟩ = some (.int .i64 xa) ∧ w'.cell? ⟨w.heap.size, 2, none⟩ = some (.int .i64 xb) ∧ w'.cell? ⟨w.heap.size, 3, none⟩ = some (.string (bs xt)) ∧ w'.cell? ⟨w.heap.size, 4, none⟩ = some (.string (bs xc)) ∧ w'.cell? ⟨w.heap.size, 5, none⟩ = some (.string (bs xn)))
    (go_keep)
    (first
      | (refine step_ins rfl (.tmp 26) (.tmp 27) rfl w3.heap.size (.slice (some ⟨w3.heap.size, 0, none⟩) 0 0) [] l l.length rfl (by simp [Act.eval, Act.put]) (own_drew (ins_none w3 _ (Nat.le_refl _))) _ _ _ (by simp [Act.eval, Act.put]) (HR.out.below (bnext HL3.out (al1 w3 (.cells #[] 27)))).drew HA.out (by simp; omega) (by simp <;> omega) ?_
         intro A4 c4 w4 hv4 hr4 hb4 hg4
         have HB4 := Lib.hid ((below_drew (al1 w3 (.cells #[] 27))).trans hb4)
         have HO4 := Lib.hid hv4
         have HLit := Lib.hid (trivial)
         have BX4 := Lib.hid (BX3.out.below HB4.out)
         have hs4 := HB4.out.size
         clear hv4 hr4 hb4 hg4
         obtain ⟨q0, q1, q2, q3, q4, q5, q6⟩ := BX4.out)
      | (refine step_ins rfl (.tmp 26) (.tmp 27) rfl w3.heap.size (.slice (some ⟨w3.heap.size, 0, none⟩) 0 0) [] l l.length rfl (by simp [Act.eval, Act.put]) (own_drew ((ins_none w3 _ (Nat.le_refl _)).alloc (.cells #[.int .i64 xo, .int .i64 xa, .int .i64 xb, .string (bs xt), .string (bs xc), .string (bs xn)] 27))) _ _ _ (by simp [Act.eval, Act.put]) ((HR.out.below (bnext HL3.out (al1 w3 (.cells #[] 27)))).alloc (.cells #[.int .i64 xo, .int .i64 xa, .int .i64 xb, .string (bs xt), .string (bs xc), .string (bs xn)] 27)).drew HA.out (by simp; omega) (by simp <;> omega) ?_
         intro A4 c4 w4 hv4 hr4 hb4 hg4
         have HB4 := Lib.hid ((below_drew (bnext (al1 w3 (.cells #[] 27)) (al1 _ (.cells #[.int .i64 xo, .int .i64 xa, .int .i64 xb, .string (bs xt), .string (bs xc), .string (bs xn)] 27)))).trans hb4)
         have HO4 := Lib.hid hv4
         have HLit := Lib.hid ((lit_two w3 (.cells #[] 27) ⟨xo, xa, xb, xt, xc, xn⟩ 27 (0, 0)).drew.grown hg4 (fun a ha => by obtain rfl := Option.some.inj ha; intro h; have := Option.some.inj h; simp at this))
         have BX4 := Lib.hid (BX3.out.below HB4.out)
         have hs4 := HB4.out.size
         clear hv4 hr4 hb4 hg4
         obtain ⟨q0, q1, q2, q3, q4, q5, q6⟩ := BX4.out)
      | (refine step_ins rfl (.tmp 26) (.tmp 27) rfl w3.heap.size (.slice (some ⟨w3.heap.size + 1, 0, none⟩) 0 0) [] l l.length rfl (by simp [Act.eval, Act.put]) (own_drew (ins_none2 w3 (.cells #[.int .i64 xo, .int .i64 xa, .int .i64 xb, .string (bs xt), .string (bs xc), .string (bs xn)] 27) _ (Nat.le_refl _))) _ _ _ (by simp [Act.eval, Act.put]) ((HR.out.below (bnext HL3.out (al1 w3 (.cells #[.int .i64 xo, .int .i64 xa, .int .i64 xb, .string (bs xt), .string (bs xc), .string (bs xn)] 27)))).alloc (.cells #[] 27)).drew HA.out (by simp; omega) (by simp <;> omega) ?_
         intro A4 c4 w4 hv4 hr4 hb4 hg4
         have HB4 := Lib.hid ((below_drew (bnext (al1 w3 (.cells #[.int .i64 xo, .int .i64 xa, .int .i64 xb, .string (bs xt), .string (bs xc), .string (bs xn)] 27)) (al1 _ (.cells #[] 27)))).trans hb4)
         have HO4 := Lib.hid hv4
         have HLit := Lib.hid (((InsRow.lit w3 ⟨xo, xa, xb, xt, xc, xn⟩ 27 (0, 0)).alloc (.cells #[] 27)).drew.grown hg4 (fun a ha => by obtain rfl := Option.some.inj ha; intro h; have := Option.some.inj h; simp at this))
         have BX4 := Lib.hid (BX3.out.below HB4.out)
         have hs4 := HB4.out.size
         clear hv4 hr4 hb4 hg4
         obtain ⟨q0, q1, q2, q3, q4, q5, q6⟩ := BX4.out)
      | (refine step_ins rfl (.tmp 28) (.tmp 30) rfl w3.heap.size (.slice A4 l.length c4) l [⟨xo, xa, xb, xt, xc, xn⟩] (l.length + 1) (by simp) (by simp [Act.eval, Act.put]) (HO4.out.alloc _) _ 1 1 (by simp [Act.eval, Act.put]) (InsRow.lit w4 ⟨xo, xa, xb, xt, xc, xn⟩ 27 (0, 0)) (fun h => by cases h) (by omega) (by simp; omega) ?_
         intro A5 c5 w5 hv5 hr5 hb5 hg5
         have HR5 := Lib.hid hr5
         have HB5 := Lib.hid ((HB4.out.alloc hs4 (.cells #[.int .i64 xo, .int .i64 xa, .int .i64 xb, .string (bs xt), .string (bs xc), .string (bs xn)] 27)).trans hb5)
         have BX5 := Lib.hid (BX3.out.below HB5.out)
         clear hv5 hr5 hb5 hg5
         obtain ⟨q0, q1, q2, q3, q4, q5, q6⟩ := BX5.out)
      | (refine step_ins rfl (.tmp 28) (.tmp 30) rfl w3.heap.size (.slice A4 l.length c4) l [⟨xo, xa, xb, xt, xc, xn⟩] (l.length + 1) (by simp) (by simp [Act.eval, Act.put]) HO4.out _ 1 1 (by simp [Act.eval, Act.put]) HLit.out (fun h => by cases h) (by omega) hs4 ?_
         intro A5 c5 w5 hv5 hr5 hb5 hg5
         have HR5 := Lib.hid hr5
         have HB5 := Lib.hid (HB4.out.trans hb5)
         have BX5 := Lib.hid (BX3.out.below HB5.out)
         clear hv5 hr5 hb5 hg5
         obtain ⟨q0, q1, q2, q3, q4, q5, q6⟩ := BX5.out)
      | (go_at_call 10; (with_reducible refine (HM.out _ _ _ (HT.out.below (bnext HL3.out HB5.out)) (HP.out.below (bnext HL3.out HB5.out)) HR5.out).mono ?_); rintro e w6 ⟨rfl, hb⟩
         have HL6 := Lib.hid (bnext (bnext HL3.out HB5.out) hb)
         have BX6 := Lib.hid (BX5.out.below hb)
         clear hb
         obtain ⟨q0, q1, q2, q3, q4, q5, q6⟩ := BX6.out)) | fail
  all_goals
    go_wp2
    all_goals
      go_ret
      exact ⟨rfl, HL6.out⟩
end Go.Proofs.YthnilohilbacpaaDoor
