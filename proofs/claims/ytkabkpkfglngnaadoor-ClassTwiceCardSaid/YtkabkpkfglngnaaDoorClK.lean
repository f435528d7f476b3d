/- class.Check returns the first fault of every class. -/
import Derived.Test.YtkabkpkfglngnaaDoorClKA
import Derived.Test.YtkabkpkfglngnaaDoorClKB
import Derived.Test.YtkabkpkfglngnaaDoorClKF
import Derived.Test.YtkabkpkfglngnaaDoorClC
import Derived.Laws.Cover1
namespace Go.Proofs.YtkabkpkfglngnaaDoor
open Go.ChangeShapes Go.WideShapes Go.ChangeAt Go.RowKit
set_option linter.unusedVariables false
attribute [local go_sem] eqGuard_errV_nil eqGuard_errV_iface eql_errV_nil neq_errV_nil eql_errV_form

theorem empty_not {l : List UInt8} (h : l ≠ []) : (bs l).toList.isEmpty = false := by
  rw [ByteArray.toList_eq]
  cases l with
  | nil => exact absurd rfl h
  | cons a t => rfl
theorem empty_yes {l : List UInt8} (h : l = []) : (bs l).toList.isEmpty = true := by rw [h, ByteArray.toList_eq]; rfl
set_option maxRecDepth 20000 in
set_option maxHeartbeats 4000000 in
theorem check_head (x : ClassD) (A : Option Addr) (i j : Nat) (B : Option Addr) (k l : Nat) (C : Option Addr) (m n : Nat) (w : World) (hx : x.upto 140737488351232) (h : headB_ x = false) :
    Calls Tryd.prog 8 #[classV x A i j B k l C m n] w fun e w' => e = .returned (errV (classF x)) ∧ Below w.heap.size w w' := by
  rw [classF_name h]
  have hs1 : (bs x.nm).size ≤ maxLen := by rw [bs_size]; have := hx.1; unfold maxLen; omega
  have hs2 : (bs x.su).size ≤ maxLen := by rw [bs_size]; have := hx.2.1; unfold maxLen; omega
  have hc := head_cases (c := x)
  rw [h] at hc
  simp only [Bool.false_eq_true, and_false, or_false, false_or, and_true] at hc
  clear hx h
  unfold classV
  rcases hc with h1 | ⟨h1, h2, h3⟩
  · have HN := Lib.hid (fun w => check_no (bs x.nm) w h1 hs1)
    clear h1
    go_enter Tryd.func8, Tryd.ntmps8
    go_wp2_with (first
      | (go_at_call 11; (with_reducible refine (HN.out _).mono ?_); rintro e w2 ⟨rfl, rfl⟩))
    go_ret
    exact ⟨rfl, al1 _ _⟩
  · have HN := Lib.hid (fun w => check_yes (bs x.nm) w h1 hs1)
    have HM := Lib.hid (fun w => check_no (bs x.su) w h3 hs2)
    have hne := empty_not h2
    clear h1 h2 h3
    go_enter Tryd.func8, Tryd.ntmps8
    go_wp2_with (first
      | (go_at_call 11; (with_reducible refine (HN.out _).mono ?_); rintro e w2 ⟨rfl, rfl⟩)
      | (go_at_call 11; (with_reducible refine (HM.out _).mono ?_); rintro e w2 ⟨rfl, rfl⟩))
    go_ret
    exact ⟨rfl, al1 _ _⟩

theorem rest_cases {x : ClassD} {i k m : Nat} (h : headB_ x = true) (hi : x.faces.length = i) (hk : x.fields.length = k) (hm : x.meths.length = m) :
    (firstAt faceF x.faces ≠ 0 ∧ classF x = firstAt faceF x.faces) ∨ (firstAt faceF x.faces = 0 ∧ (8 < i ∨ 8 < k ∨ 8 < m) ∧ classF x = 4) ∨
    (firstAt faceF x.faces = 0 ∧ (i ≤ 8 ∧ k ≤ 8 ∧ m ≤ 8) ∧ firstAt fieldF x.fields ≠ 0 ∧ classF x = firstAt fieldF x.fields) ∨
    (firstAt faceF x.faces = 0 ∧ (i ≤ 8 ∧ k ≤ 8 ∧ m ≤ 8) ∧ firstAt fieldF x.fields = 0 ∧ firstAt mtdF x.meths ≠ 0 ∧ classF x = firstAt mtdF x.meths) ∨
    (firstAt faceF x.faces = 0 ∧ (i ≤ 8 ∧ k ≤ 8 ∧ m ≤ 8) ∧ firstAt fieldF x.fields = 0 ∧ firstAt mtdF x.meths = 0 ∧ ((x.face = false ∧ classF x = 0) ∨ (x.face = true ∧ k = 0 ∧ classF x = 0) ∨ (x.face = true ∧ 0 < k ∧ classF x = 8))) := by
  by_cases h1 : firstAt faceF x.faces = 0
  · by_cases h2 : 8 < i ∨ 8 < k ∨ 8 < m
    · exact .inr (.inl ⟨h1, h2, classF_full h h1 (by rw [hi, hk, hm]; exact h2)⟩)
    · have h2' : ¬ (8 < x.faces.length ∨ 8 < x.fields.length ∨ 8 < x.meths.length) := by rw [hi, hk, hm]; exact h2
      have h2'' : i ≤ 8 ∧ k ≤ 8 ∧ m ≤ 8 := by omega
      by_cases h3 : firstAt fieldF x.fields = 0
      · by_cases h4 : firstAt mtdF x.meths = 0
        · refine .inr (.inr (.inr (.inr ⟨h1, h2'', h3, h4, ?_⟩)))
          rw [classF_end h h1 h2' h3 h4, hk]
          cases x.face with
          | false => exact .inl ⟨rfl, rfl⟩
          | true =>
            rcases Nat.eq_zero_or_pos k with h | h
            · exact .inr (.inl ⟨rfl, h, by rw [h]; rfl⟩)
            · exact .inr (.inr ⟨rfl, h, by have : k ≠ 0 := by omega
                                           simp [this]⟩)
        · exact .inr (.inr (.inr (.inl ⟨h1, h2'', h3, h4, classF_meth h h1 h2' h3 h4⟩)))
      · exact .inr (.inr (.inl ⟨h1, h2'', h3, classF_field h h1 h2' h3⟩))
  · exact .inl ⟨h1, classF_face h h1⟩
theorem err_zero {P : Program} {f : FuncId} {args : Array Value} {w : World} {q : Nat} (h0 : q = 0) (h : Calls P f args w fun e w' => e = .returned (errV q) ∧ Below w.heap.size w w') : Calls P f args w fun e w' => e = .returned .nilIface ∧ Below w.heap.size w w' := by
  subst h0; exact h
set_option maxRecDepth 20000 in
set_option maxHeartbeats 16000000 in
theorem check_rest (x : ClassD) (A : Option Addr) (i j : Nat) (B : Option Addr) (k l : Nat) (C : Option Addr) (m n : Nat) (w : World) (T : Tab w) (RA : StrRow w A i j x.faces) (RB : FieldRow w B k l x.fields) (RC : MethRow w C m n x.meths) (hx : x.upto 140737488351232) (hw : x.wf) (h : headB_ x = true) :
    Calls Tryd.prog 8 #[classV x A i j B k l C m n] w fun e w' => e = .returned (errV (classF x)) ∧ Below w.heap.size w w' := by
  have hli : x.faces.length = i := RA.1
  have hlk : x.fields.length = k := RB.1
  have hlm : x.meths.length = m := RC.1
  have hi2 : i ≤ 140737488351232 := by have := hx.2.2.1.2; omega
  have hk2 : k ≤ 140737488351232 := by have := hx.2.2.2.1.2; omega
  have hm2 : m ≤ 140737488351232 := by have := hx.2.2.2.2.2; omega
  have hs1 : (bs x.nm).size ≤ maxLen := by rw [bs_size]; have := hx.1; unfold maxLen; omega
  have hs2 : (bs x.su).size ≤ maxLen := by rw [bs_size]; have := hx.2.1; unfold maxLen; omega
  have hc := head_cases (c := x)
  rw [h] at hc
  simp only [Bool.true_eq_false, and_false, false_or, and_true] at hc
  have hr := rest_cases h hli hlk hlm
  have HFa := fun W R => faces_any x.faces A i j W R hi2 hx.2.2.1.1
  have HFi := fun W R => fields_any x.fields B k l W R hk2 hx.2.2.2.1.1
  have HMe := fun W T R => meths_any x.meths C m n W T R hm2 hx.2.2.2.2.1 hw
  have HB0 := Lib.hid (al1 w (.cells #[.string (bs x.nm), .string (bs x.su), .slice A i j, .bool x.face, .slice B k l, .slice C m n] 26))
  have HCB := Lib.hid (cbox_at w x A i j B k l C m n 26 (0, 0))
  have HT := Lib.hid (T.below HB0.out)
  have HRA := Lib.hid (RA.below HB0.out)
  have HRB := Lib.hid (RB.below HB0.out)
  have HRC := Lib.hid (RC.below HB0.out)
  have HN : Hid (∀ w, Calls Tryd.prog 11 #[.string (bs x.nm)] w fun e w' => e = .returned (errV 0) ∧ w = w') := by
    rcases hc with ⟨h1, _⟩ | ⟨h1, _⟩ <;> exact Lib.hid (fun w => check_yes (bs x.nm) w h1 hs1)
  clear T RA RB RC hx hw h hli hlk hlm
  generalize classF x = q at *
  generalize firstAt faceF x.faces = f1 at *
  generalize firstAt fieldF x.fields = f2 at *
  generalize firstAt mtdF x.meths = f3 at *
  unfold classV
  obtain ⟨fc, hfc⟩ : ∃ fc, fc = x.face := ⟨_, rfl⟩
  rw [← hfc] at hr
  have HFC := hfc.symm
  clear hfc
  rw [HFC] at HB0 HCB HT HRA HRB HRC ⊢
  rcases hc with ⟨h1, h2⟩ | ⟨h1, h2, h3⟩
  all_goals
    first
    | have HS := Lib.hid (fun w => check_yes (bs x.su) w h3 hs2)
    | skip
    first
    | have hne := empty_not h2
    | have hne := empty_yes h2
    clear h2 h1
    try clear h3
    rcases hr with ⟨hf1, hv⟩ | ⟨hf1, hb, hv⟩ | ⟨hf1, hb, hf2, hv⟩ | ⟨hf1, hb, hf2, hf3, hv⟩ | ⟨hf1, hb, hf2, hf3, ht⟩
    · subst hv
      have hn1 : (q != 0) = true := by rw [bne_iff_ne]; exact hf1
      have HF1 := Lib.hid HFa
      clear HFa HFi HMe hf1
      go_enter Tryd.func8, Tryd.ntmps8
      go_wp2_with (first
        | (go_at_call 11; (with_reducible refine (HN.out _).mono ?_); rintro e w9 ⟨rfl, rfl⟩)
        | (go_at_call 11; (with_reducible refine (HS.out _).mono ?_); rintro e w9 ⟨rfl, rfl⟩)
        | (go_at_call 12; (with_reducible refine (HF1.out _ HRA.out).mono ?_); rintro e w1 ⟨rfl, hb⟩
           have HB1 := Lib.hid (bnext HB0.out hb)
           have HCB1 := Lib.hid (HCB.out.below hb)
           obtain ⟨p0, p1, p2, p3, p4, p5, p6⟩ := HCB.out.below hb
           rw [HFC] at p4
           have HT1 := Lib.hid (HT.out.below hb)
           have HRB1 := Lib.hid (HRB.out.below hb)
           have HRC1 := Lib.hid (HRC.out.below hb)
           clear hb)
        | (go_at_call 13; (with_reducible refine (HF2.out _ HRB1.out).mono ?_); rintro e w2 ⟨rfl, hb⟩
           have HB2 := Lib.hid (bnext HB1.out hb)
           have HCB2 := Lib.hid (HCB1.out.below hb)
           obtain ⟨q0, q1, q2, q3, q4, q5, q6⟩ := HCB1.out.below hb
           rw [HFC] at q4
           have HT2 := Lib.hid (HT1.out.below hb)
           have HRC2 := Lib.hid (HRC1.out.below hb)
           clear hb)
        | (go_at_call 14; (with_reducible refine (HF3.out _ HT2.out HRC2.out).mono ?_); rintro e w3 ⟨rfl, hb⟩
           have HB3 := Lib.hid (bnext HB2.out hb)
           obtain ⟨r0, r1, r2, r3, r4, r5, r6⟩ := HCB2.out.below hb
           rw [HFC] at r4
           clear hb))
      go_ret
      exact ⟨rfl, HB1.out⟩
    · subst hv
      have HF1 := Lib.hid (fun W R => err_zero hf1 (HFa W R))
      clear HFa HFi HMe hf1
      rcases hb with hb | hb | hb
      all_goals
        go_enter Tryd.func8, Tryd.ntmps8
        go_wp2_with (first
          | (go_at_call 11; (with_reducible refine (HN.out _).mono ?_); rintro e w9 ⟨rfl, rfl⟩)
          | (go_at_call 11; (with_reducible refine (HS.out _).mono ?_); rintro e w9 ⟨rfl, rfl⟩)
          | (go_at_call 12; (with_reducible refine (HF1.out _ HRA.out).mono ?_); rintro e w1 ⟨rfl, hb⟩
             have HB1 := Lib.hid (bnext HB0.out hb)
             have HCB1 := Lib.hid (HCB.out.below hb)
             obtain ⟨p0, p1, p2, p3, p4, p5, p6⟩ := HCB.out.below hb
             rw [HFC] at p4
             have HT1 := Lib.hid (HT.out.below hb)
             have HRB1 := Lib.hid (HRB.out.below hb)
             have HRC1 := Lib.hid (HRC.out.below hb)
             clear hb)
          | (go_at_call 13; (with_reducible refine (HF2.out _ HRB1.out).mono ?_); rintro e w2 ⟨rfl, hb⟩
             have HB2 := Lib.hid (bnext HB1.out hb)
             have HCB2 := Lib.hid (HCB1.out.below hb)
             obtain ⟨q0, q1, q2, q3, q4, q5, q6⟩ := HCB1.out.below hb
             rw [HFC] at q4
             have HT2 := Lib.hid (HT1.out.below hb)
             have HRC2 := Lib.hid (HRC1.out.below hb)
             clear hb)
          | (go_at_call 14; (with_reducible refine (HF3.out _ HT2.out HRC2.out).mono ?_); rintro e w3 ⟨rfl, hb⟩
             have HB3 := Lib.hid (bnext HB2.out hb)
             obtain ⟨r0, r1, r2, r3, r4, r5, r6⟩ := HCB2.out.below hb
             rw [HFC] at r4
             clear hb))
        all_goals
          go_ret
          exact ⟨rfl, HB1.out⟩
    · subst hv
      have hn2 : (q != 0) = true := by rw [bne_iff_ne]; exact hf2
      have HF1 := Lib.hid (fun W R => err_zero hf1 (HFa W R))
      have HF2 := Lib.hid HFi
      clear HFa HFi HMe hf1 hf2
      obtain ⟨g1, g2, g3⟩ := hb
      go_enter Tryd.func8, Tryd.ntmps8
      go_wp2_with (first
        | (go_at_call 11; (with_reducible refine (HN.out _).mono ?_); rintro e w9 ⟨rfl, rfl⟩)
        | (go_at_call 11; (with_reducible refine (HS.out _).mono ?_); rintro e w9 ⟨rfl, rfl⟩)
        | (go_at_call 12; (with_reducible refine (HF1.out _ HRA.out).mono ?_); rintro e w1 ⟨rfl, hb⟩
           have HB1 := Lib.hid (bnext HB0.out hb)
           have HCB1 := Lib.hid (HCB.out.below hb)
           obtain ⟨p0, p1, p2, p3, p4, p5, p6⟩ := HCB.out.below hb
           rw [HFC] at p4
           have HT1 := Lib.hid (HT.out.below hb)
           have HRB1 := Lib.hid (HRB.out.below hb)
           have HRC1 := Lib.hid (HRC.out.below hb)
           clear hb)
        | (go_at_call 13; (with_reducible refine (HF2.out _ HRB1.out).mono ?_); rintro e w2 ⟨rfl, hb⟩
           have HB2 := Lib.hid (bnext HB1.out hb)
           have HCB2 := Lib.hid (HCB1.out.below hb)
           obtain ⟨q0, q1, q2, q3, q4, q5, q6⟩ := HCB1.out.below hb
           rw [HFC] at q4
           have HT2 := Lib.hid (HT1.out.below hb)
           have HRC2 := Lib.hid (HRC1.out.below hb)
           clear hb)
        | (go_at_call 14; (with_reducible refine (HF3.out _ HT2.out HRC2.out).mono ?_); rintro e w3 ⟨rfl, hb⟩
           have HB3 := Lib.hid (bnext HB2.out hb)
           obtain ⟨r0, r1, r2, r3, r4, r5, r6⟩ := HCB2.out.below hb
           rw [HFC] at r4
           clear hb))
      all_goals
        go_ret
        exact ⟨rfl, HB2.out⟩
    · subst hv
      have hn3 : (q != 0) = true := by rw [bne_iff_ne]; exact hf3
      have HF1 := Lib.hid (fun W R => err_zero hf1 (HFa W R))
      have HF2 := Lib.hid (fun W R => err_zero hf2 (HFi W R))
      have HF3 := Lib.hid HMe
      clear HFa HFi HMe hf1 hf2 hf3
      obtain ⟨g1, g2, g3⟩ := hb
      go_enter Tryd.func8, Tryd.ntmps8
      go_wp2_with (first
        | (go_at_call 11; (with_reducible refine (HN.out _).mono ?_); rintro e w9 ⟨rfl, rfl⟩)
        | (go_at_call 11; (with_reducible refine (HS.out _).mono ?_); rintro e w9 ⟨rfl, rfl⟩)
        | (go_at_call 12; (with_reducible refine (HF1.out _ HRA.out).mono ?_); rintro e w1 ⟨rfl, hb⟩
           have HB1 := Lib.hid (bnext HB0.out hb)
           have HCB1 := Lib.hid (HCB.out.below hb)
           obtain ⟨p0, p1, p2, p3, p4, p5, p6⟩ := HCB.out.below hb
           rw [HFC] at p4
           have HT1 := Lib.hid (HT.out.below hb)
           have HRB1 := Lib.hid (HRB.out.below hb)
           have HRC1 := Lib.hid (HRC.out.below hb)
           clear hb)
        | (go_at_call 13; (with_reducible refine (HF2.out _ HRB1.out).mono ?_); rintro e w2 ⟨rfl, hb⟩
           have HB2 := Lib.hid (bnext HB1.out hb)
           have HCB2 := Lib.hid (HCB1.out.below hb)
           obtain ⟨q0, q1, q2, q3, q4, q5, q6⟩ := HCB1.out.below hb
           rw [HFC] at q4
           have HT2 := Lib.hid (HT1.out.below hb)
           have HRC2 := Lib.hid (HRC1.out.below hb)
           clear hb)
        | (go_at_call 14; (with_reducible refine (HF3.out _ HT2.out HRC2.out).mono ?_); rintro e w3 ⟨rfl, hb⟩
           have HB3 := Lib.hid (bnext HB2.out hb)
           obtain ⟨r0, r1, r2, r3, r4, r5, r6⟩ := HCB2.out.below hb
           rw [HFC] at r4
           clear hb))
      all_goals
        go_ret
        exact ⟨rfl, HB3.out⟩
    · have HF1 := Lib.hid (fun W R => err_zero hf1 (HFa W R))
      have HF2 := Lib.hid (fun W R => err_zero hf2 (HFi W R))
      have HF3 := Lib.hid (fun W T R => err_zero hf3 (HMe W T R))
      clear HFa HFi HMe hf1 hf2 hf3
      obtain ⟨g1, g2, g3⟩ := hb
      rcases ht with ⟨e1, e2⟩ | ⟨e1, e3, e2⟩ | ⟨e1, e3, e2⟩
      all_goals
        subst e1 e2
        try subst e3
        go_enter Tryd.func8, Tryd.ntmps8
        go_wp2_with (first
          | (go_at_call 11; (with_reducible refine (HN.out _).mono ?_); rintro e w9 ⟨rfl, rfl⟩)
          | (go_at_call 11; (with_reducible refine (HS.out _).mono ?_); rintro e w9 ⟨rfl, rfl⟩)
          | (go_at_call 12; (with_reducible refine (HF1.out _ HRA.out).mono ?_); rintro e w1 ⟨rfl, hb⟩
             have HB1 := Lib.hid (bnext HB0.out hb)
             have HCB1 := Lib.hid (HCB.out.below hb)
             obtain ⟨p0, p1, p2, p3, p4, p5, p6⟩ := HCB.out.below hb
             rw [HFC] at p4
             have HT1 := Lib.hid (HT.out.below hb)
             have HRB1 := Lib.hid (HRB.out.below hb)
             have HRC1 := Lib.hid (HRC.out.below hb)
             clear hb)
          | (go_at_call 13; (with_reducible refine (HF2.out _ HRB1.out).mono ?_); rintro e w2 ⟨rfl, hb⟩
             have HB2 := Lib.hid (bnext HB1.out hb)
             have HCB2 := Lib.hid (HCB1.out.below hb)
             obtain ⟨q0, q1, q2, q3, q4, q5, q6⟩ := HCB1.out.below hb
             rw [HFC] at q4
             have HT2 := Lib.hid (HT1.out.below hb)
             have HRC2 := Lib.hid (HRC1.out.below hb)
             clear hb)
          | (go_at_call 14; (with_reducible refine (HF3.out _ HT2.out HRC2.out).mono ?_); rintro e w3 ⟨rfl, hb⟩
             have HB3 := Lib.hid (bnext HB2.out hb)
             obtain ⟨r0, r1, r2, r3, r4, r5, r6⟩ := HCB2.out.below hb
             rw [HFC] at r4
             clear hb))
        all_goals
          go_ret
          exact ⟨rfl, HB3.out⟩
theorem class_checks : ClassChecks := fun x A i j B k l C m n w T RA RB RC _ _ _ hx hw => by
  cases h : headB_ x with
  | false => exact check_head x A i j B k l C m n w hx h
  | true => exact check_rest x A i j B k l C m n w T RA RB RC hx hw h
end Go.Proofs.YtkabkpkfglngnaaDoor
