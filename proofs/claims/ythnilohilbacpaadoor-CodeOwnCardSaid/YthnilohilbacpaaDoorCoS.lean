/- Two lists of instructions compared (coffeehousesame.Code). -/
import Derived.Test.YthnilohilbacpaaDoorCoR
import Derived.Test.YthnilohilbacpaaDoorInE
namespace Go.Proofs.YthnilohilbacpaaDoor
open Go.ChangeShapes Go.WideShapes Go.ChangeAt Go.RowKit
set_option linter.unusedVariables false
attribute [local go_sem] eqGuard_errV_nil eqGuard_errV_iface eql_errV_nil neq_errV_nil eql_errV_form eqGuard_ins

theorem take_same2 {α : Type} {l m : List α} (hl : l.length = m.length) {k : Nat} (h : k < l.length) (h' : k < m.length) (hk : l.take k = m.take k) (he : l[k] = m[k]) : l.take (k + 1) = m.take (k + 1) := by
  rw [List.take_succ_eq_append_getElem h, List.take_succ_eq_append_getElem h', hk, he]
set_option maxRecDepth 20000 in
set_option maxHeartbeats 2000000 in
theorem sameCode_any (A B : Option Addr) (n m c d : Nat) (xs ys : List InsD) (w : World) (ha : InsRow w A n c xs) (hb : InsRow w B m d ys) (hm : n < 4611686018427387904) :
    Calls Tryd.prog 14 #[.slice A n c, .slice B m d] w fun e w' => e = .returned (.bool (decide (xs = ys))) ∧ ∃ k, w' = w.drewN k := by
  have hx : xs.length = n := ha.1
  have hy : ys.length = m := hb.1
  by_cases hnm : n = m
  · subst hnm
    have HX := Lib.hid hx
    have HY := Lib.hid hy
    have HA := Lib.hid ha
    have HB := Lib.hid hb
    clear hx hy ha hb
    go_enter Tryd.func14, Tryd.ntmps14
    go_wp2
    go_loopw [5] (fun i wr => ∃ k j : Nat, k ≤ n ∧ i = .int .i64 k ∧ Hid (xs.take k = ys.take k) ∧ wr = w.drewN j) (fun i _ => n - (intOf i).toNat)
    case atStart => exact ⟨0, 0, Nat.zero_le _, rfl, Lib.hid (by simp), rfl⟩
    case round =>
      obtain ⟨k, j, hk, rfl, HT, rfl⟩ := hrel
      by_cases hlt : k < n
      · obtain ⟨b1, o1, rfl, hb1, hx1⟩ := HA.out.at_ hlt
        obtain ⟨b2, o2, rfl, hb2, hx2⟩ := HB.out.at_ hlt
        have h1 : k < xs.length := by rw [HX.out]; exact hlt
        have h2 : k < ys.length := by rw [HY.out]; exact hlt
        have HT2 := Lib.hid (fun he => take_same2 (by rw [HX.out, HY.out]) h1 h2 HT.out he)
        have HN := Lib.hid (fun he : xs[k] ≠ ys[k] => (show decide (xs = ys) = false from decide_eq_false (fun h => he (by subst h; rfl))))
        generalize xs[k] = x at *
        generalize ys[k] = y at *
        obtain ⟨xo, xa, xb, xt, xc, xn⟩ := x
        obtain ⟨yo, ya, yb, yt, yc, yn⟩ := y
        obtain ⟨p0, p1, p2, p3, p4, p5⟩ := hx1
        obtain ⟨q0, q1, q2, q3, q4, q5⟩ := hx2
        by_cases he : (⟨xo, xa, xb, xt, xc, xn⟩ : InsD) = ⟨yo, ya, yb, yt, yc, yn⟩
        · have HT3 := Lib.hid (HT2.out he)
          have hne := fun w => neq_ins w xo xa xb yo ya yb xt xc xn yt yc yn
          rw [decide_eq_true he] at hne
          rw [Bool.not_true] at hne
          clear HT2 HN he
          go_wp2
          go_quiet (fail)
          go_wp2
          go_roundw
          case rel => exact ⟨k + 1, _, by omega, by go_num, HT3, rfl⟩
          case measure => first | (simp [intOf]; omega) | simp [intOf]
        · have HN2 := Lib.hid (HN.out he)
          have hne := fun w => neq_ins w xo xa xb yo ya yb xt xc xn yt yc yn
          rw [decide_eq_false he] at hne
          rw [Bool.not_false] at hne
          clear HT2 HN he
          go_wp2
          go_quiet (fail)
          go_wp2
          go_ret
          exact ⟨ret_bool HN2.out.symm, _, World.drewN_drewN ..⟩
      · obtain rfl : k = n := by omega
        go_wp2
        go_ret
        refine ⟨ret_bool ?_, ⟨_, rfl⟩⟩
        have h := HT.out
        rw [List.take_of_length_le (by rw [HX.out]; exact Nat.le_refl _), List.take_of_length_le (by rw [HY.out]; exact Nat.le_refl _)] at h
        simp [h]
  · have hne : ((n : Int) != m) = true := by rw [bne_iff_ne]; omega
    have HN := Lib.hid (show decide (xs = ys) = false from decide_eq_false (fun h => hnm (by rw [← hx, ← hy, h])))
    clear hx hy hnm ha hb
    go_enter Tryd.func14, Tryd.ntmps14
    go_wp2
    go_ret
    exact ⟨ret_bool HN.out.symm, 0, rfl⟩
end Go.Proofs.YthnilohilbacpaaDoor
