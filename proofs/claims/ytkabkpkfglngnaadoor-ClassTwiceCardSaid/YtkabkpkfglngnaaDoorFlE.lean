/- The contracts of the reference's Ends, Jumps and CodeFault. -/
import Derived.Test.YtkabkpkfglngnaaDoorFl1
import Derived.Test.YtkabkpkfglngnaaDoorInR
import Derived.Test.YtkabkpkfglngnaaDoorInG
namespace Go.Proofs.YtkabkpkfglngnaaDoor
open Go.ChangeShapes Go.WideShapes Go.ChangeAt Go.RowKit
set_option linter.unusedVariables false
attribute [local go_sem] eqGuard_errV_nil eqGuard_errV_iface eql_errV_nil neq_errV_nil eql_errV_form

theorem rends_any (op : Int) (w : World) : Calls Tryd.prog 45 #[.int .i64 op] w fun e w' => e = .returned (.bool (!goesB op)) ∧ w = w' := by
  have hcase : op = 14 ∨ op = 26 ∨ op = 27 ∨ op = 28 ∨ (¬ op = 14 ∧ ¬ op = 26 ∧ ¬ op = 27 ∧ ¬ op = 28) := by omega
  rcases hcase with rfl | rfl | rfl | rfl | ⟨h1, h2, h3, h4⟩
  iterate 4
    · go_enter Tryd.func45, Tryd.ntmps45
      go_wp2
      go_ret
      exact ⟨rfl, rfl⟩
  · have hg : (!goesB op) = false := by simp [goesB, h1, h2, h3, h4]
    have e1 : (op == 14) = false := by simpa using h1
    have e2 : (op == 26) = false := by simpa using h2
    have e3 : (op == 27) = false := by simpa using h3
    have e4 : (op == 28) = false := by simpa using h4
    rw [hg]
    clear h1 h2 h3 h4 hg
    go_enter Tryd.func45, Tryd.ntmps45
    go_wp2
    go_ret
    exact ⟨rfl, rfl⟩
theorem rjumps_any (op : Int) (w : World) : Calls Tryd.prog 44 #[.int .i64 op] w fun e w' => e = .returned (.bool (jumpB op)) ∧ w = w' := jumps_any op w

def InsD.small (x : InsD) : Prop := x.ty.length ≤ 1048576 ∧ x.cl.length ≤ 1048576 ∧ x.nm.length ≤ 1048576
set_option maxRecDepth 20000 in
set_option maxHeartbeats 4000000 in
theorem rfault_any (l : List InsD) (A : Option Addr) (n c : Nat) (w : World) (R : InsRow w A n c l) (hs : ∀ x ∈ l, x.small) (hn : n ≤ 1048576) :
    Calls Tryd.prog 32 #[.slice A n c] w fun e w' => e = .returned (.int .i64 (flowF l : Int)) ∧ Below w.heap.size w w' := by
  have hl : l.length = n := R.1
  by_cases h40 : 40 < n
  · have HC := Lib.hid (flowF_full (l := l) (by omega))
    clear hl
    go_enter Tryd.func32, Tryd.ntmps32
    go_wp2
    go_ret
    exact ⟨ret_int (by rw [HC.out]; rfl), Below.refl _ _⟩
  · have HL := Lib.hid hl
    have HR := Lib.hid R
    have HS := Lib.hid hs
    have H40 := Lib.hid (show ¬ 40 < l.length by omega)
    clear hl R hs
    go_enter Tryd.func32, Tryd.ntmps32
    go_wp2_with fail
    go_loopw [3, 4] (fun i _ wr => ∃ j : Nat, j ≤ n ∧ i = .int .i64 j ∧ Hid (∀ x ∈ l.take j, insF x = 0) ∧ Hid (Below w.heap.size w wr)) (fun i _ _ => n - (intOf i).toNat)
    case atStart => exact ⟨0, Nat.zero_le _, rfl, Lib.hid (fun x hx => by cases hx), Lib.hid (Below.refl _ _)⟩
    case round =>
      obtain ⟨j, hj, rfl, HG, HB⟩ := hrel
      by_cases hlt : j < n
      · obtain ⟨b1, o1, rfl, hb1, hx1⟩ := (HR.out.below HB.out).at_ hlt
        have hj1 : j < l.length := by rw [HL.out]; exact hlt
        have hfx := HS.out l[j] (List.getElem_mem _)
        have HX := fun w => fault_any l[j] w hfx.1 hfx.2.1 hfx.2.2
        clear hfx
        by_cases h0 : insF l[j] = 0
        · have HG2 := Lib.hid (take_next hj1 HG.out h0)
          rw [h0] at HX
          clear h0
          generalize l[j] = x at *
          obtain ⟨xo, xa, xb, xt, xc, xn⟩ := x
          obtain ⟨c0, c1, c2, c3, c4, c5⟩ := hx1
          unfold insV at HX
          replace HX := Lib.hid HX
          go_wp2_with (first
            | (go_at_call 43; (with_reducible refine (HX.out _).mono ?_); rintro e w1 ⟨rfl, b1⟩
               have HB1 := Lib.hid (bnext HB.out b1)
               clear b1))
          go_round
          case rel => exact ⟨j + 1, by omega, by go_num, HG2, HB1⟩
          case measure => first | (simp [intOf]; omega) | simp [intOf]
        · have HC := Lib.hid (flowF_bad H40.out hj1 HG.out h0)
          have hne : ((insF l[j] : Int) != 0) = true := by rw [bne_iff_ne]; omega
          clear h0
          generalize insF l[j] = f at *
          generalize l[j] = x at *
          obtain ⟨xo, xa, xb, xt, xc, xn⟩ := x
          obtain ⟨c0, c1, c2, c3, c4, c5⟩ := hx1
          unfold insV at HX
          replace HX := Lib.hid HX
          go_wp2_with (first
            | (go_at_call 43; (with_reducible refine (HX.out _).mono ?_); rintro e w1 ⟨rfl, b1⟩
               have HB1 := Lib.hid (bnext HB.out b1)
               clear b1))
          go_ret
          exact ⟨ret_int (by rw [HC.out]), HB1.out⟩
      · obtain rfl : j = n := by omega
        have HG0 := HG.out
        rw [List.take_of_length_le (by rw [HL.out]; exact Nat.le_refl _)] at HG0
        replace HG0 := Lib.hid HG0
        clear HG hlt hj
        go_wp2_with fail
        go_loopw [5] (fun i wr => ∃ k : Nat, k ≤ j ∧ i = .int .i64 k ∧ Hid (∀ x ∈ l.take k, farB j x = false) ∧ Hid (Below w.heap.size w wr)) (fun i _ => j - (intOf i).toNat)
        case atStart => exact ⟨0, Nat.zero_le _, rfl, Lib.hid (fun x hx => by cases hx), HB⟩
        case round =>
          obtain ⟨k, hk, rfl, HG, HB⟩ := hrel
          by_cases hlt : k < j
          · obtain ⟨b1, o1, rfl, hb1, hx1⟩ := (HR.out.below HB.out).at_ hlt
            have hj1 : k < l.length := by rw [HL.out]; exact hlt
            have HJ := fun w => rjumps_any l[k].op w
            have HFar := Lib.hid (show farB l.length l[k] = true → flowF l = 2 from fun h => flowF_far H40.out HG0.out hj1 h)
            have HG2 := Lib.hid (show farB j l[k] = false → _ from fun h => take_next hj1 HG.out h)
            rw [HL.out] at HFar
            unfold farB at HFar
            generalize l[k] = x at *
            obtain ⟨xo, xa, xb, xt, xc, xn⟩ := x
            obtain ⟨c0, c1, c2, c3, c4, c5⟩ := hx1
            have hcase : (jumpB xo = false ∧ Hid (∀ x ∈ l.take (k + 1), farB j x = false)) ∨ (jumpB xo = true ∧ ¬ (j : Int) ≤ xa ∧ Hid (∀ x ∈ l.take (k + 1), farB j x = false)) ∨ (jumpB xo = true ∧ (j : Int) ≤ xa ∧ Hid (flowF l = 2)) := by
              cases hjb : jumpB xo with
              | false => exact .inl ⟨rfl, Lib.hid (HG2.out (by simp [farB, hjb]))⟩
              | true =>
                by_cases hna : (j : Int) ≤ xa
                · exact .inr (.inr ⟨rfl, hna, Lib.hid (HFar.out (by simp [hjb, hna]))⟩)
                · exact .inr (.inl ⟨rfl, hna, Lib.hid (HG2.out (by simp [farB, hjb, hna]))⟩)
            clear HFar HG2
            rcases hcase with ⟨hjb, HH⟩ | ⟨hjb, hna, HH⟩ | ⟨hjb, hna, HH⟩
            all_goals
              simp only [hjb] at HJ
              replace HJ := Lib.hid HJ
            · go_wp2_with (first
                | (go_at_call 44; (with_reducible refine (HJ.out _).mono ?_); rintro e w1 ⟨rfl, rfl⟩))
              go_round
              case rel => exact ⟨k + 1, by omega, by go_num, HH, HB⟩
              case measure => first | (simp [intOf]; omega) | simp [intOf]
            · go_wp2_with (first
                | (go_at_call 44; (with_reducible refine (HJ.out _).mono ?_); rintro e w1 ⟨rfl, rfl⟩))
              go_round
              case rel => exact ⟨k + 1, by omega, by go_num, HH, HB⟩
              case measure => first | (simp [intOf]; omega) | simp [intOf]
            · go_wp2_with (first
                | (go_at_call 44; (with_reducible refine (HJ.out _).mono ?_); rintro e w1 ⟨rfl, rfl⟩))
              go_ret
              exact ⟨ret_int (by rw [HH.out]; rfl), HB.out⟩
          · obtain rfl : k = j := by omega
            have HE := flowF_last H40.out HG0.out (by
              have h := HG.out
              rw [List.take_of_length_le (by rw [HL.out]; exact Nat.le_refl _)] at h
              rw [HL.out]; exact h)
            replace HE := Lib.hid HE
            clear HG
            by_cases h0 : k = 0
            · have hz : ((k : Int) == 0) = true := by simp [h0]
              have HZ := Lib.hid (show lastGoesB l = true by unfold lastGoesB; rw [HL.out, h0]; rfl)
              go_wp2
              go_ret
              exact ⟨ret_int (by rw [HE.out, HZ.out]; rfl), HB.out⟩
            · have hz : ((k : Int) == 0) = false := by rw [beq_eq_false_iff_ne]; omega
              obtain ⟨b1, o1, rfl, hb1, hx1⟩ := (HR.out.below HB.out).at_ (k := k - 1) (by omega)
              have HJ := fun w => rends_any (l[k - 1]'(by rw [HL.out]; omega)).op w
              have HZ : lastGoesB l = goesB (l[k - 1]'(by rw [HL.out]; omega)).op := lastGoes_at HL.out h0 _
              generalize (l[k - 1]'(by rw [HL.out]; omega)) = x at *
              obtain ⟨xo, xa, xb, xt, xc, xn⟩ := x
              obtain ⟨c0, c1, c2, c3, c4, c5⟩ := hx1
              simp only at HZ HJ
              have hk1 : IntKind.i64.wrap ((k : Int) - 1) = ((k - 1 : Nat) : Int) := by rw [IntKind.wrap_i64]; omega
              cases hgb : goesB xo
              all_goals
                rw [hgb] at HZ
                simp only [hgb] at HJ
                replace HZ := Lib.hid HZ
                replace HJ := Lib.hid HJ
                go_wp2_with (first
                  | (go_at_call 45; (with_reducible refine (HJ.out _).mono ?_); rintro e w1 ⟨rfl, rfl⟩))
                go_ret
                exact ⟨ret_int (by rw [HE.out, HZ.out]; rfl), HB.out⟩
end Go.Proofs.YtkabkpkfglngnaaDoor
