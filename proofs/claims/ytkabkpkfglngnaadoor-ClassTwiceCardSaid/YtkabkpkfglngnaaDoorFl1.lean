/- The contracts of package flow: jumps, goesOn, Check. -/
import Derived.Test.YtkabkpkfglngnaaDoorFlM
import Derived.Test.YtkabkpkfglngnaaDoorCoR
import Derived.Test.YtkabkpkfglngnaaDoorIn2
namespace Go.Proofs.YtkabkpkfglngnaaDoor
open Go.ChangeShapes Go.WideShapes Go.ChangeAt Go.RowKit
set_option linter.unusedVariables false
attribute [local go_sem] eqGuard_errV_nil eqGuard_errV_iface eql_errV_nil neq_errV_nil eql_errV_form

theorem fjumps_any (x : InsD) (w : World) : Calls Tryd.prog 51 #[insV x] w fun e w' => e = .returned (.bool (jumpB x.op)) ∧ Below w.heap.size w w' := by
  obtain ⟨op, a, b, ty, cl, nm⟩ := x
  unfold insV
  go_enter Tryd.func51, Tryd.ntmps51
  go_wp2
  all_goals
    go_ret
    exact ⟨ret_bool (by simp only [jumpB]; first | (symm; apply decide_eq_true; omega) | (symm; apply decide_eq_false; omega) | (rw [Bool.eq_iff_iff]; simp; omega)), al1 _ _⟩
theorem fgoes_any (x : InsD) (w : World) : Calls Tryd.prog 52 #[insV x] w fun e w' => e = .returned (.bool (goesB x.op)) ∧ Below w.heap.size w w' := by
  obtain ⟨op, a, b, ty, cl, nm⟩ := x
  unfold insV
  simp only
  have hcase : op = 14 ∨ op = 26 ∨ op = 27 ∨ op = 28 ∨ (¬ op = 14 ∧ ¬ op = 26 ∧ ¬ op = 27 ∧ ¬ op = 28) := by omega
  rcases hcase with rfl | rfl | rfl | rfl | ⟨h1, h2, h3, h4⟩
  iterate 4
    · go_enter Tryd.func52, Tryd.ntmps52
      go_wp2
      go_ret
      exact ⟨rfl, al1 _ _⟩
  · have hg : goesB op = true := by simp [goesB, h1, h2, h3, h4]
    have e1 : (op == 14) = false := by simpa using h1
    have e2 : (op == 26) = false := by simpa using h2
    have e3 : (op == 27) = false := by simpa using h3
    have e4 : (op == 28) = false := by simpa using h4
    rw [hg]
    clear h1 h2 h3 h4 hg
    go_enter Tryd.func52, Tryd.ntmps52
    go_wp2
    go_ret
    exact ⟨rfl, al1 _ _⟩

theorem flowF_full {l : List InsD} (h : 40 < l.length) : flowF l = 4 := by unfold flowF; rw [if_pos h]
theorem flowF_bad {l : List InsD} (h : ¬ 40 < l.length) {j : Nat} (hj : j < l.length) (ht : ∀ x ∈ l.take j, insF x = 0) (hf : insF l[j] ≠ 0) : flowF l = insF l[j] := by
  have e := firstF_at hj ht hf
  unfold flowF
  rw [if_neg h, if_pos (by rw [e]; exact hf), e]
theorem flowF_far {l : List InsD} (h : ¬ 40 < l.length) (h0 : ∀ x ∈ l, insF x = 0) {j : Nat} (hj : j < l.length) (hf : farB l.length l[j] = true) : flowF l = 2 := by
  unfold flowF
  rw [if_neg h, if_neg (by rw [firstF_nil h0]; simp), if_pos (List.any_eq_true.2 ⟨_, List.getElem_mem hj, hf⟩)]
theorem flowF_last {l : List InsD} (h : ¬ 40 < l.length) (h0 : ∀ x ∈ l, insF x = 0) (hf : ∀ x ∈ l, farB l.length x = false) : flowF l = if lastGoesB l then 8 else 0 := by
  unfold flowF
  rw [if_neg h, if_neg (by rw [firstF_nil h0]; simp), if_neg]
  rw [Bool.not_eq_true, List.any_eq_false]
  intro x hx
  rw [hf x hx]; simp
theorem lastGoes_at {l : List InsD} {k : Nat} (hk : l.length = k) (h0 : ¬ k = 0) (h : k - 1 < l.length) : lastGoesB l = goesB l[k - 1].op := by
  subst hk
  unfold lastGoesB
  rw [List.getD_eq_getElem?_getD, List.getElem?_eq_getElem h, show (l.length == 0) = false by simpa using h0]
  rfl
theorem take_next {l : List InsD} {j : Nat} {p : InsD → Prop} (hj : j < l.length) (h : ∀ x ∈ l.take j, p x) (hg : p l[j]) : ∀ x ∈ l.take (j + 1), p x := by
  rw [List.take_succ_eq_append_getElem hj]
  intro x hx
  rcases List.mem_append.1 hx with hx | hx
  · exact h x hx
  · obtain rfl := List.mem_singleton.1 hx
    exact hg

set_option maxRecDepth 20000 in
set_option maxHeartbeats 4000000 in
theorem fcheck_any (l : List InsD) (A : Option Addr) (n c : Nat) (w : World) (T : Tab w) (R : InsRow w A n c l) (hw : ∀ x ∈ l, x.wf) (hf : ∀ x ∈ l, x.fits) :
    Calls Tryd.prog 40 #[.slice A n c] w fun e w' => e = .returned (errV (flowF l)) ∧ Below w.heap.size w w' := by
  have hl : l.length = n := R.1
  by_cases h40 : 40 < n
  · have HC := Lib.hid (flowF_full (l := l) (by omega))
    clear hl
    go_enter Tryd.func40, Tryd.ntmps40
    go_wp2
    go_ret
    exact ⟨ret_err (by rw [HC.out]; rfl), Below.refl _ _⟩
  · have HL := Lib.hid hl
    have HR := Lib.hid R
    have HT := Lib.hid T
    have HW := Lib.hid hw
    have HF := Lib.hid hf
    have H40 := Lib.hid (show ¬ 40 < l.length by omega)
    clear hl R T hw hf
    go_enter Tryd.func40, Tryd.ntmps40
    go_wp2_with fail
    go_loopw [4, 5, 14] (fun _ _ i wr => ∃ j : Nat, j ≤ n ∧ i = .int .i64 j ∧ Hid (∀ x ∈ l.take j, insF x = 0) ∧ Hid (Below w.heap.size w wr)) (fun _ _ i _ => n - (intOf i).toNat)
    case atStart => exact ⟨0, Nat.zero_le _, rfl, Lib.hid (fun x hx => by cases hx), Lib.hid (Below.refl _ _)⟩
    case round =>
      obtain ⟨j, hj, rfl, HG, HB⟩ := hrel
      by_cases hlt : j < n
      · obtain ⟨b1, o1, rfl, hb1, hx1⟩ := (HR.out.below HB.out).at_ hlt
        have hj1 : j < l.length := by rw [HL.out]; exact hlt
        have hfx := HF.out l[j] (List.getElem_mem _)
        have HX := fun w T => ins_check l[j] w T hfx.1 hfx.2.1 hfx.2.2
        clear hfx
        by_cases h0 : insF l[j] = 0
        · have HG2 := Lib.hid (take_next hj1 HG.out h0)
          rw [h0] at HX
          clear h0
          generalize l[j] = x at *
          obtain ⟨xo, xa, xb, xt, xc, xn⟩ := x
          obtain ⟨c0, c1, c2, c3, c4, c5⟩ := hx1
          unfold insV at HX
          replace HX := Lib.hid HX
          go_wp2_with (first
            | (go_at_call 50; (with_reducible refine (HX.out _ (HT.out.below (bnext HB.out (al1 _ _)))).mono ?_); rintro e w1 ⟨rfl, b1⟩
               have HB1 := Lib.hid (bnext (bnext HB.out (al1 _ _)) b1)
               clear b1))
          go_round
          case rel => exact ⟨j + 1, by omega, by go_num, HG2, HB1⟩
          case measure => first | (simp [intOf]; omega) | simp [intOf]
        · have HC := Lib.hid (flowF_bad H40.out hj1 HG.out h0)
          have hne : (insF l[j] != 0) = true := by rw [bne_iff_ne]; exact h0
          clear h0
          generalize insF l[j] = f at *
          generalize l[j] = x at *
          obtain ⟨xo, xa, xb, xt, xc, xn⟩ := x
          obtain ⟨c0, c1, c2, c3, c4, c5⟩ := hx1
          unfold insV at HX
          replace HX := Lib.hid HX
          go_wp2_with (first
            | (go_at_call 50; (with_reducible refine (HX.out _ (HT.out.below (bnext HB.out (al1 _ _)))).mono ?_); rintro e w1 ⟨rfl, b1⟩
               have HB1 := Lib.hid (bnext (bnext HB.out (al1 _ _)) b1)
               clear b1))
          go_ret
          exact ⟨ret_err (by rw [HC.out]; rfl), HB1.out⟩
      · obtain rfl : j = n := by omega
        have HG0 := HG.out
        rw [List.take_of_length_le (by rw [HL.out]; exact Nat.le_refl _)] at HG0
        replace HG0 := Lib.hid HG0
        clear HG hlt hj
        go_wp2_with fail
        go_loopw [7, 26] (fun _ i wr => ∃ k : Nat, k ≤ j ∧ i = .int .i64 k ∧ Hid (∀ x ∈ l.take k, farB j x = false) ∧ Hid (Below w.heap.size w wr)) (fun _ i _ => j - (intOf i).toNat)
        case atStart => exact ⟨0, Nat.zero_le _, rfl, Lib.hid (fun x hx => by cases hx), HB⟩
        case round =>
          obtain ⟨k, hk, rfl, HG, HB⟩ := hrel
          by_cases hlt : k < j
          · obtain ⟨b1, o1, rfl, hb1, hx1⟩ := (HR.out.below HB.out).at_ hlt
            have hj1 : k < l.length := by rw [HL.out]; exact hlt
            have HJ := fun w => fjumps_any l[k] w
            have HFar := Lib.hid (show farB l.length l[k] = true → flowF l = 2 from fun h => flowF_far H40.out HG0.out hj1 h)
            have HG2 := Lib.hid (show farB j l[k] = false → _ from fun h => take_next hj1 HG.out h)
            rw [HL.out] at HFar
            unfold farB at HFar
            generalize l[k] = x at *
            obtain ⟨xo, xa, xb, xt, xc, xn⟩ := x
            obtain ⟨c0, c1, c2, c3, c4, c5⟩ := hx1
            unfold insV at HJ
            have hsz := HB.out.size
            have hcase : (jumpB xo = false ∧ Hid (∀ x ∈ l.take (k + 1), farB j x = false)) ∨ (jumpB xo = true ∧ ¬ (j : Int) ≤ xa ∧ Hid (∀ x ∈ l.take (k + 1), farB j x = false)) ∨ (jumpB xo = true ∧ (j : Int) ≤ xa ∧ Hid (flowF l = 2)) := by
              cases hjb : jumpB xo with
              | false => exact .inl ⟨rfl, Lib.hid (HG2.out (by simp [farB, hjb]))⟩
              | true =>
                by_cases hna : (j : Int) ≤ xa
                · exact .inr (.inr ⟨rfl, hna, Lib.hid (HFar.out (by simp [hjb, hna]))⟩)
                · exact .inr (.inl ⟨rfl, hna, Lib.hid (HG2.out (by simp [farB, hjb, hna]))⟩)
            clear HFar HG2
            rcases hcase with ⟨hjb, HH⟩ | ⟨hjb, hna, HH⟩ | ⟨hjb, hna, HH⟩
            all_goals
              simp only [hjb] at HJ
              replace HJ := Lib.hid HJ
            · go_wp2_with (first
                | (go_at_call 51; (with_reducible refine (HJ.out _).mono ?_); rintro e w1 ⟨rfl, b1⟩
                   have HB1 := Lib.hid (bnext (bnext HB.out (al1 _ _)) b1)
                   clear b1))
              go_round
              case rel => exact ⟨k + 1, by omega, by go_num, HH, HB1⟩
              case measure => first | (simp [intOf]; omega) | simp [intOf]
            · go_wp2_with (first
                | (go_at_call 51; (with_reducible refine (HJ.out _).mono ?_); rintro e w1 ⟨rfl, b1⟩
                   have BX := box_new ⟨xo, xa, xb, xt, xc, xn⟩ _ _ rfl b1
                   obtain ⟨q0, q1, q2, q3, q4, q5, q6⟩ := BX.1
                   have HB1 := Lib.hid (bnext (bnext HB.out (al1 _ _)) b1)
                   clear b1 BX))
              go_round
              case rel => exact ⟨k + 1, by omega, by go_num, HH, HB1⟩
              case measure => first | (simp [intOf]; omega) | simp [intOf]
            · go_wp2_with (first
                | (go_at_call 51; (with_reducible refine (HJ.out _).mono ?_); rintro e w1 ⟨rfl, b1⟩
                   have BX := box_new ⟨xo, xa, xb, xt, xc, xn⟩ _ _ rfl b1
                   obtain ⟨q0, q1, q2, q3, q4, q5, q6⟩ := BX.1
                   have HB1 := Lib.hid (bnext (bnext HB.out (al1 _ _)) b1)
                   clear b1 BX))
              go_ret
              exact ⟨ret_err (by rw [HH.out]; rfl), HB1.out⟩
          · obtain rfl : k = j := by omega
            have HE := flowF_last H40.out HG0.out (by
              have h := HG.out
              rw [List.take_of_length_le (by rw [HL.out]; exact Nat.le_refl _)] at h
              rw [HL.out]; exact h)
            replace HE := Lib.hid HE
            clear HG
            by_cases h0 : k = 0
            · have hz : ((k : Int) == 0) = true := by simp [h0]
              have HZ := Lib.hid (show lastGoesB l = true by unfold lastGoesB; rw [HL.out, h0]; rfl)
              go_wp2
              go_ret
              exact ⟨ret_err (by rw [HE.out, HZ.out]; rfl), HB.out⟩
            · have hz : ((k : Int) == 0) = false := by rw [beq_eq_false_iff_ne]; omega
              obtain ⟨b1, o1, rfl, hb1, hx1⟩ := (HR.out.below HB.out).at_ (k := k - 1) (by omega)
              have HJ := fun w => fgoes_any (l[k - 1]'(by rw [HL.out]; omega)) w
              have HZ : lastGoesB l = goesB (l[k - 1]'(by rw [HL.out]; omega)).op := lastGoes_at HL.out h0 _
              generalize (l[k - 1]'(by rw [HL.out]; omega)) = x at *
              obtain ⟨xo, xa, xb, xt, xc, xn⟩ := x
              obtain ⟨c0, c1, c2, c3, c4, c5⟩ := hx1
              unfold insV at HJ
              simp only at HZ HJ
              have hk1 : IntKind.i64.wrap ((k : Int) - 1) = ((k - 1 : Nat) : Int) := by rw [IntKind.wrap_i64]; omega
              cases hgb : goesB xo
              all_goals
                rw [hgb] at HZ
                simp only [hgb] at HJ
                replace HZ := Lib.hid HZ
                replace HJ := Lib.hid HJ
                go_wp2_with (first
                  | (go_at_call 52; (with_reducible refine (HJ.out _).mono ?_); rintro e w1 ⟨rfl, b1⟩
                     have HB1 := Lib.hid (bnext HB.out b1)
                     clear b1))
                go_ret
                exact ⟨ret_err (by rw [HE.out, HZ.out]; rfl), HB1.out⟩
end Go.Proofs.YtkabkpkfglngnaaDoor
