/- The walk of coffeehouselaw6.CodeLonger where the longer list has a form; the whole. -/
import Derived.Test.YthnilohilbacpaaDoorCoL6
namespace Go.Proofs.YthnilohilbacpaaDoor
open Go.ChangeShapes Go.WideShapes Go.ChangeAt Go.RowKit
set_option linter.unusedVariables false
set_option linter.unusedSimpArgs false
attribute [local go_sem] eqGuard_errV_nil eqGuard_errV_iface eql_errV_nil neq_errV_nil eql_errV_form

theorem below_drewN {w a : World} {B : Nat} (h : Below B w a) (n : Nat) : Below B w (a.drewN n) := ⟨h.os, h.tape, h.output, h.size, h.block⟩
set_option maxRecDepth 20000 in
set_option maxHeartbeats 8000000 in
theorem longer_good (l : List InsD) (x : InsD) (A : Option Addr) (n c : Nat) (w : World) (T : Tab w) (P : Pow w) (R : InsRow w A n c l) (hA : A = none → n = 0 ∧ c = 0) (hw : ∀ x ∈ l, x.wf) (hf : ∀ x ∈ l, x.fits) (hn : n * 72 ≤ 140737488351232) (hxw : x.wf) (hxf : x.fits) (h0 : codeF l = 0) (hx0 : insF x = 0) (h40 : ¬ 40 ≤ n) :
    Calls Tryd.prog 7 #[.slice A n c, insV x] w fun e w' => e = .returned (.bool true) ∧ Below w.heap.size w w' := by
  have hln : l.length = n := R.1
  subst hln
  have hl := (codeF_right hw).1 h0
  have hlx := right_more hl ⟨hxw, hx0⟩ (by omega)
  have hG : codeF (l ++ [x]) = 0 := (codeF_right (fun y hy => (hlx.2 y hy).1)).2 hlx
  obtain ⟨k, hk⟩ : ∃ k, (codeL l).length = k + 1 := ⟨_, rfl⟩
  have hkx : (codeL (l ++ [x])).length = k + 1 + 1 + (textM x).length := by
    have e : (codeL l).length = (bodyL l).length + 1 := rfl
    have e2 : (codeL (l ++ [x])).length = (bodyL (l ++ [x])).length + 1 := rfl
    rw [e2, bodyL_append, bodyL_cons, bodyL_nil, List.append_nil, List.length_append, item_len]
    omega
  have hkb := code_len hl
  have htb := text_byte ⟨hxw, hx0⟩
  rw [hk] at hkb
  have htx : textR x = textM x := by unfold textR; rw [if_pos hx0]
  have HN := (fun W T P R => (encode_any l A l.length c W T P R hw hf).mono fun _ _ h => enc_gives h h0)
  have HX := fun W T P => text_any x hxw hxf W T P
  have HM := (fun W A c T P R => (encode_any (l ++ [x]) A (l.length + 1) c W T P R (fun y hy => by rcases List.mem_append.1 hy with h | h; exact hw y h; obtain rfl := List.mem_singleton.1 h; exact hxw) (fun y hy => by rcases List.mem_append.1 hy with h | h; exact hf y h; obtain rfl := List.mem_singleton.1 h; exact hxf)).mono fun _ _ h => enc_gives h hG)
  rw [hk] at HN
  rw [hkx] at HM
  replace HN := Lib.hid HN
  replace HM := Lib.hid HM
  rw [hx0, htx] at HX
  have HK := Lib.hid hk
  have HKX := Lib.hid hkx
  have HT := Lib.hid T
  have HP := Lib.hid P
  have HR := Lib.hid R
  have HA := Lib.hid hA
  clear T P R hA hw hf hxw hxf h0 hx0 hG hl hlx hk hkx htx
  generalize htx : textM x = tx at *
  have HTX := Lib.hid htx
  clear htx
  have hz : (bs tx).size = tx.length := rfl
  obtain ⟨xo, xa, xb, xt, xc, xn⟩ := x
  unfold insV at *
  replace HX := Lib.hid HX
  go_enter Tryd.func7, Tryd.ntmps7
  go_wp2_with (first
    | (go_at_call 16; (with_reducible refine (named_any _).mono ?_); rintro e w1 ⟨rfl, hw1⟩
       have HX1 := box_eq hw1
       have BX := Lib.hid HX1.1
       have HL1 := Lib.hid HX1.2
       clear hw1 HX1)
    | (go_at_call 10; (with_reducible refine (HN.out _ (HT.out.below HL1.out) (HP.out.below HL1.out) (HR.out.below HL1.out)).mono ?_); rintro e w2 ⟨A2, c2, rfl, hr, hb⟩
       have HR2 := Lib.hid hr
       clear hr
       have BX2 := Lib.hid (BX.out.below hb)
       have HL2 := Lib.hid (bnext HL1.out hb)
       clear hb
       obtain ⟨p0, p1, p2, p3, p4, p5, p6⟩ := BX2.out)
    | (go_at_call 17; (with_reducible refine (HX.out _ (HT.out.below HL2.out) (HP.out.below HL2.out)).mono ?_); rintro e w3 ⟨rfl, hb⟩
       have H23 := Lib.hid hb
       have BX3 := Lib.hid (BX2.out.below hb)
       have HL3 := Lib.hid (bnext HL2.out hb)
       clear hb p0 p1 p2 p3 p4 p5 p6
       obtain ⟨p0, p1, p2, p3, p4, p5, p6⟩ := BX3.out))
  have HW3 := HL3.out.size
  first | go_region_held_law (fun w' => w'.cell? ⟨w.heap.size, 0, none⟩ = some (.int .i64 xo) ∧ w'.cell? ⟨w.heap.size, 1, none⟩ = some (.int .i64 xa) ∧ w'.cell? ⟨w.heap.size, 2, none⟩ = some (.int .i64 xb) ∧ w'.cell? ⟨w.heap.size, 3, none⟩ = some (.string (bs xt)) ∧ w'.cell? ⟨w.heap.size, 4, none⟩ = some (.string (bs xc)) ∧ w'.cell? ⟨w.heap.size, 5, none⟩ = some (.string (bs xn)))
    (go_keep)
    (first
      | (refine step_ins rfl (.tmp 26) (.tmp 27) rfl w3.heap.size (.slice (some ⟨w3.heap.size, 0, none⟩) 0 0) [] l l.length rfl (by simp [Act.eval, Act.put]) (own_drew (ins_none w3 _ (Nat.le_refl _))) _ _ _ (by simp [Act.eval, Act.put]) (HR.out.below (bnext HL3.out (al1 w3 (.cells #[] 27)))).drew HA.out (by simp; omega) (by simp <;> omega) ?_
         intro A4 c4 w4 hv4 hr4 hb4 hg4
         have HB4 := Lib.hid ((below_drew (al1 w3 (.cells #[] 27))).trans hb4)
         have HO4 := Lib.hid hv4
         have HLit := Lib.hid (trivial)
         have BX4 := Lib.hid (BX3.out.below HB4.out)
         have hs4 := HB4.out.size
         clear hv4 hr4 hb4 hg4
         obtain ⟨q0, q1, q2, q3, q4, q5, q6⟩ := BX4.out)
      | (refine step_ins rfl (.tmp 26) (.tmp 27) rfl w3.heap.size (.slice (some ⟨w3.heap.size, 0, none⟩) 0 0) [] l l.length rfl (by simp [Act.eval, Act.put]) (own_drew ((ins_none w3 _ (Nat.le_refl _)).alloc (.cells #[.int .i64 xo, .int .i64 xa, .int .i64 xb, .string (bs xt), .string (bs xc), .string (bs xn)] 27))) _ _ _ (by simp [Act.eval, Act.put]) ((HR.out.below (bnext HL3.out (al1 w3 (.cells #[] 27)))).alloc (.cells #[.int .i64 xo, .int .i64 xa, .int .i64 xb, .string (bs xt), .string (bs xc), .string (bs xn)] 27)).drew HA.out (by simp; omega) (by simp <;> omega) ?_
         intro A4 c4 w4 hv4 hr4 hb4 hg4
         have HB4 := Lib.hid ((below_drew (bnext (al1 w3 (.cells #[] 27)) (al1 _ (.cells #[.int .i64 xo, .int .i64 xa, .int .i64 xb, .string (bs xt), .string (bs xc), .string (bs xn)] 27)))).trans hb4)
         have HO4 := Lib.hid hv4
         have HLit := Lib.hid ((lit_two w3 (.cells #[] 27) ⟨xo, xa, xb, xt, xc, xn⟩ 27 (0, 0)).drew.grown hg4 (fun a ha => by obtain rfl := Option.some.inj ha; intro h; have := Option.some.inj h; simp at this))
         have BX4 := Lib.hid (BX3.out.below HB4.out)
         have hs4 := HB4.out.size
         clear hv4 hr4 hb4 hg4
         obtain ⟨q0, q1, q2, q3, q4, q5, q6⟩ := BX4.out)
      | (refine step_ins rfl (.tmp 26) (.tmp 27) rfl w3.heap.size (.slice (some ⟨w3.heap.size + 1, 0, none⟩) 0 0) [] l l.length rfl (by simp [Act.eval, Act.put]) (own_drew (ins_none2 w3 (.cells #[.int .i64 xo, .int .i64 xa, .int .i64 xb, .string (bs xt), .string (bs xc), .string (bs xn)] 27) _ (Nat.le_refl _))) _ _ _ (by simp [Act.eval, Act.put]) ((HR.out.below (bnext HL3.out (al1 w3 (.cells #[.int .i64 xo, .int .i64 xa, .int .i64 xb, .string (bs xt), .string (bs xc), .string (bs xn)] 27)))).alloc (.cells #[] 27)).drew HA.out (by simp; omega) (by simp <;> omega) ?_
         intro A4 c4 w4 hv4 hr4 hb4 hg4
         have HB4 := Lib.hid ((below_drew (bnext (al1 w3 (.cells #[.int .i64 xo, .int .i64 xa, .int .i64 xb, .string (bs xt), .string (bs xc), .string (bs xn)] 27)) (al1 _ (.cells #[] 27)))).trans hb4)
         have HO4 := Lib.hid hv4
         have HLit := Lib.hid (((InsRow.lit w3 ⟨xo, xa, xb, xt, xc, xn⟩ 27 (0, 0)).alloc (.cells #[] 27)).drew.grown hg4 (fun a ha => by obtain rfl := Option.some.inj ha; intro h; have := Option.some.inj h; simp at this))
         have BX4 := Lib.hid (BX3.out.below HB4.out)
         have hs4 := HB4.out.size
         clear hv4 hr4 hb4 hg4
         obtain ⟨q0, q1, q2, q3, q4, q5, q6⟩ := BX4.out)
      | (refine step_ins rfl (.tmp 28) (.tmp 30) rfl w3.heap.size (.slice A4 l.length c4) l [⟨xo, xa, xb, xt, xc, xn⟩] (l.length + 1) (by simp) (by simp [Act.eval, Act.put]) (HO4.out.alloc _) _ 1 1 (by simp [Act.eval, Act.put]) (InsRow.lit w4 ⟨xo, xa, xb, xt, xc, xn⟩ 27 (0, 0)) (fun h => by cases h) (by omega) (by simp; omega) ?_
         intro A5 c5 w5 hv5 hr5 hb5 hg5
         have HR5 := Lib.hid hr5
         have HB5 := Lib.hid ((HB4.out.alloc hs4 (.cells #[.int .i64 xo, .int .i64 xa, .int .i64 xb, .string (bs xt), .string (bs xc), .string (bs xn)] 27)).trans hb5)
         have BX5 := Lib.hid (BX3.out.below HB5.out)
         clear hv5 hr5 hb5 hg5
         obtain ⟨q0, q1, q2, q3, q4, q5, q6⟩ := BX5.out)
      | (refine step_ins rfl (.tmp 28) (.tmp 30) rfl w3.heap.size (.slice A4 l.length c4) l [⟨xo, xa, xb, xt, xc, xn⟩] (l.length + 1) (by simp) (by simp [Act.eval, Act.put]) HO4.out _ 1 1 (by simp [Act.eval, Act.put]) HLit.out (fun h => by cases h) (by omega) hs4 ?_
         intro A5 c5 w5 hv5 hr5 hb5 hg5
         have HR5 := Lib.hid hr5
         have HB5 := Lib.hid (HB4.out.trans hb5)
         have BX5 := Lib.hid (BX3.out.below HB5.out)
         clear hv5 hr5 hb5 hg5
         obtain ⟨q0, q1, q2, q3, q4, q5, q6⟩ := BX5.out)
      | (go_at_call 10; (with_reducible refine (HM.out _ _ _ (HT.out.below (bnext HL3.out HB5.out)) (HP.out.below (bnext HL3.out HB5.out)) HR5.out).mono ?_); rintro e w6 ⟨A6, c6, rfl, hr, hb⟩
         have HR6 := Lib.hid hr
         have HR26 := Lib.hid (((HR2.out.below H23.out).below HB5.out).below hb)
         clear hr
         have HL6 := Lib.hid (bnext (bnext HL3.out HB5.out) hb)
         have BX6 := Lib.hid (BX5.out.below hb)
         clear hb
         obtain ⟨q0, q1, q2, q3, q4, q5, q6⟩ := BX6.out)) | fail
  all_goals
    have hc2 := HR26.out.2.1
    have hc6 := HR6.out.2.1
    have hcutb := fun W => cut_mid W A6 (k + 1 + 1 + tx.length) c6 k (by omega)
    have hcuta := fun W => cut_tail W A2 k c2 (by omega)
    have hw1 : IntKind.i64.wrap ((k : Int) + 1 + 1) = (k : Int) + 1 + 1 := by rw [IntKind.wrap_i64]; omega
    have hw2 : IntKind.i64.wrap ((k : Int) + 1 + 1 + (tx.length : Int)) = (k : Int) + 1 + 1 + (tx.length : Int) := by rw [IntKind.wrap_i64]; omega
    have hcvb := fun q => conv_row ((mid_row HK.out HR6.out (by omega)).drewN q)
    have hcva := fun q => conv_row ((tail_row HK.out HR26.out).drewN q)
    go_wp2
    go_quiet (fail)
    go_wp2
    go_ret
    exact ⟨rfl, below_drewN HL6.out _⟩
theorem codeLonger_walk (l : List InsD) (x : InsD) (A : Option Addr) (n c : Nat) (w : World) (T : Tab w) (P : Pow w) (R : InsRow w A n c l) (hA : A = none → n = 0 ∧ c = 0) (hw : ∀ x ∈ l, x.wf) (hf : ∀ x ∈ l, x.fits) (hn : l.length * 72 ≤ 140737488351232) (hxw : x.wf) (hxf : x.fits) :
    Calls Tryd.prog 7 #[.slice A n c, insV x] w fun e w' => e = .returned (.bool true) ∧ Below w.heap.size w w' := by
  have hln : l.length = n := R.1
  have hw2 : ∀ y ∈ l ++ [x], y.wf := fun y hy => by
    rcases List.mem_append.1 hy with h | h
    · exact hw y h
    · obtain rfl := List.mem_singleton.1 h; exact hxw
  have h40 : 40 ≤ n → codeF (l ++ [x]) ≠ 0 := fun h h0 => by
    have := ((codeF_right hw2).1 h0).1
    rw [List.length_append, List.length_singleton] at this
    omega
  by_cases h0 : codeF l = 0
  · have hl := (codeF_right hw).1 h0
    by_cases hx0 : insF x = 0
    · by_cases hn40 : 40 ≤ n
      · exact longer_full l x A n c w T P R hA hw hf (hln ▸ hn) hxw hxf h0 hx0 hn40
      · exact longer_good l x A n c w T P R hA hw hf (hln ▸ hn) hxw hxf h0 hx0 hn40
    · refine longer_text l x A n c w T P R hA hw hf (hln ▸ hn) hxw hxf h0 hx0 fun hG => hx0 ?_
      exact (((codeF_right hw2).1 hG).2 x (by simp)).2
  · refine longer_bad l x A n c w T P R hA hw hf (hln ▸ hn) hxw hxf h0 fun hG => h0 ?_
    have hr := (codeF_right hw2).1 hG
    refine (codeF_right hw).2 ⟨?_, fun y hy => hr.2 y (List.mem_append_left _ hy)⟩
    have := hr.1
    rw [List.length_append, List.length_singleton] at this
    omega
end Go.Proofs.YthnilohilbacpaaDoor
