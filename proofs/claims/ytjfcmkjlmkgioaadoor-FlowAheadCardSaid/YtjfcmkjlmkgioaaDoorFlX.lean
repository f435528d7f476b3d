/- The contracts of the reference's Ends and After; of law1.reached; the reference's rounds on lists. -/
import Derived.Test.YtjfcmkjlmkgioaaDoorFl4
import Derived.Test.YtjfcmkjlmkgioaaDoorInR
namespace Go.Proofs.YtjfcmkjlmkgioaaDoor
open Go.ChangeShapes Go.WideShapes Go.ChangeAt Go.RowKit
set_option linter.unusedVariables false
attribute [local go_sem] eqGuard_errV_nil eqGuard_errV_iface eql_errV_nil neq_errV_nil eql_errV_form

theorem rends_any (op : Int) (w : World) : Calls Tryd.prog 22 #[.int .i64 op] w fun e w' => e = .returned (.bool (!goesB op)) ∧ w = w' := by
  have hcase : op = 14 ∨ op = 26 ∨ op = 27 ∨ op = 28 ∨ (¬ op = 14 ∧ ¬ op = 26 ∧ ¬ op = 27 ∧ ¬ op = 28) := by omega
  rcases hcase with rfl | rfl | rfl | rfl | ⟨h1, h2, h3, h4⟩
  iterate 4
    · go_enter Tryd.func22, Tryd.ntmps22
      go_wp2
      go_ret
      exact ⟨rfl, rfl⟩
  · have hg : (!goesB op) = false := by simp [goesB, h1, h2, h3, h4]
    have e1 : (op == 14) = false := by simpa using h1
    have e2 : (op == 26) = false := by simpa using h2
    have e3 : (op == 27) = false := by simpa using h3
    have e4 : (op == 28) = false := by simpa using h4
    rw [hg]
    clear h1 h2 h3 h4 hg
    go_enter Tryd.func22, Tryd.ntmps22
    go_wp2
    go_ret
    exact ⟨rfl, rfl⟩
theorem rjumps_any (op : Int) (w : World) : Calls Tryd.prog 20 #[.int .i64 op] w fun e w' => e = .returned (.bool (jumpB op)) ∧ w = w' := jumps_any op w

theorem own_natI (w : World) {z : Int} {k : Nat} (hz : z = (k : Int)) (base : Nat) (hb : base ≤ w.heap.size) (e : TypeId) : (w.alloc (.cells #[.int .i64 z] e)).ownsRow base e 1 (.slice (some ⟨w.heap.size, 0, none⟩) 1 1) [k].length ([k].map natV) := by
  subst hz; exact own_nat1 w k base hb e
theorem own_natI2 (w : World) {z y : Int} {k j : Nat} (hz : z = (k : Int)) (hy : y = (j : Int)) (base : Nat) (hb : base ≤ w.heap.size) (e : TypeId) : (w.alloc (.cells #[.int .i64 z, .int .i64 y] e)).ownsRow base e 1 (.slice (some ⟨w.heap.size, 0, none⟩) 2 2) [k, j].length ([k, j].map natV) := by
  subst hz hy; exact own_nat2 w k j base hb e

theorem own_second (w : World) (o : Obj) {z : Int} {k : Nat} (hz : z = (k : Int)) (e : TypeId) : ((w.alloc o).alloc (.cells #[.int .i64 z] e)).ownsRow w.heap.size e 1 (.slice (some ⟨w.heap.size + 1, 0, none⟩) 1 1) [k].length ([k].map natV) := by
  have h := own_natI (w.alloc o) hz w.heap.size (al1 w o).size e
  rwa [show (w.alloc o).heap.size = w.heap.size + 1 by simp] at h
theorem own_second2 (w : World) (o : Obj) {z y : Int} {k j : Nat} (hz : z = (k : Int)) (hy : y = (j : Int)) (e : TypeId) : ((w.alloc o).alloc (.cells #[.int .i64 z, .int .i64 y] e)).ownsRow w.heap.size e 1 (.slice (some ⟨w.heap.size + 1, 0, none⟩) 2 2) [k, j].length ([k, j].map natV) := by
  have h := own_natI2 (w.alloc o) hz hy w.heap.size (al1 w o).size e
  rwa [show (w.alloc o).heap.size = w.heap.size + 1 by simp] at h
set_option maxRecDepth 20000 in
set_option maxHeartbeats 4000000 in
theorem rafter_any (l : List InsD) (A : Option Addr) (n c k : Nat) (w : World) (R : InsRow w A n c l) (hk : k < n) (hn : n ≤ 40) (hj : ∀ x ∈ l, jumpB x.op = true → 0 ≤ x.a ∧ x.a ≤ 40) :
    Calls Tryd.prog 14 #[.slice A n c, .int .i64 (k : Int)] w (AfterSays w (aftM l k)) := by
  have hl : l.length = n := R.1
  subst hl
  obtain ⟨b1, o1, rfl, hb1, hx1⟩ := R.at_ hk
  have hjx := hj _ (List.getElem_mem hk)
  have HE := fun w => rends_any l[k].op w
  have HJ := fun w => rjumps_any l[k].op w
  rw [aft_at hk]
  clear hj
  generalize l[k] = x at *
  obtain ⟨xo, xa, xb, xt, xc, xn⟩ := x
  simp only at HE HJ hjx
  obtain ⟨c0, c1, c2, c3, c4, c5⟩ := hx1
  have hwr : IntKind.i64.wrap ((k : Int) + 1) = (k : Int) + 1 := by rw [IntKind.wrap_i64]; omega
  by_cases h14 : xo = 14
  · subst h14
    obtain ⟨ha0, ha40⟩ := hjx rfl
    obtain ⟨t, rfl⟩ : ∃ t : Nat, xa = (t : Int) := ⟨xa.toNat, by omega⟩
    rw [show nextM ⟨14, (t : Int), xb, xt, xc, xn⟩ k = [t] by simp [nextM, goesB, jumpB]]
    clear hjx HE HJ
    go_enter Tryd.func14, Tryd.ntmps14
    go_wp2
    go_ret
    exact ⟨_, rfl, own_second w _ rfl _, al2 _ _ _⟩
  · have e14 : (xo == 14) = false := by simpa using h14
    cases hg : goesB xo
    · rw [hg] at HE
      have hjb : jumpB xo = false := by
        unfold goesB at hg
        unfold jumpB
        simp at hg ⊢
        omega
      rw [show nextM ⟨xo, xa, xb, xt, xc, xn⟩ k = [] by simp [nextM, hg, hjb]]
      replace HE := Lib.hid HE
      clear hjx HJ
      go_enter Tryd.func14, Tryd.ntmps14
      go_wp2_with (first
        | (go_at_call 22; (with_reducible refine (HE.out _).mono ?_); rintro e w1 ⟨rfl, rfl⟩))
      go_ret
      exact ⟨_, rfl, World.ownsRow_nil _ _ _ _, al1 _ _⟩
    · rw [hg] at HE
      replace HE := Lib.hid HE
      cases hjb : jumpB xo
      · rw [hjb] at HJ
        replace HJ := Lib.hid HJ
        rw [show nextM ⟨xo, xa, xb, xt, xc, xn⟩ k = [k + 1] by simp [nextM, hg, hjb]]
        clear hjx
        go_enter Tryd.func14, Tryd.ntmps14
        go_wp2_with (first
          | (go_at_call 22; (with_reducible refine (HE.out _).mono ?_); rintro e w1 ⟨rfl, rfl⟩)
          | (go_at_call 20; (with_reducible refine (HJ.out _).mono ?_); rintro e w1 ⟨rfl, rfl⟩))
        go_ret
        refine ⟨_, rfl, own_second w _ ?_ _, al2 _ _ _⟩
        omega
      · rw [hjb] at HJ
        replace HJ := Lib.hid HJ
        obtain ⟨ha0, ha40⟩ := hjx hjb
        obtain ⟨t, rfl⟩ : ∃ t : Nat, xa = (t : Int) := ⟨xa.toNat, by omega⟩
        clear hjx
        by_cases ht : t = k + 1
        · rw [show nextM ⟨xo, (t : Int), xb, xt, xc, xn⟩ k = [k + 1] by simp [nextM, hg, hjb, ht]]
          have hne : ((t : Int) != (k : Int) + 1) = false := by simp [ht]
          clear ht
          go_enter Tryd.func14, Tryd.ntmps14
          go_wp2_with (first
            | (go_at_call 22; (with_reducible refine (HE.out _).mono ?_); rintro e w1 ⟨rfl, rfl⟩)
            | (go_at_call 20; (with_reducible refine (HJ.out _).mono ?_); rintro e w1 ⟨rfl, rfl⟩))
          go_ret
          refine ⟨_, rfl, own_second w _ ?_ _, al2 _ _ _⟩
          omega
        · rw [show nextM ⟨xo, (t : Int), xb, xt, xc, xn⟩ k = [k + 1, t] by simp [nextM, hg, hjb]; omega]
          have hne : ((t : Int) != (k : Int) + 1) = true := by simp; omega
          clear ht
          go_enter Tryd.func14, Tryd.ntmps14
          go_wp2_with (first
            | (go_at_call 22; (with_reducible refine (HE.out _).mono ?_); rintro e w1 ⟨rfl, rfl⟩)
            | (go_at_call 20; (with_reducible refine (HJ.out _).mono ?_); rintro e w1 ⟨rfl, rfl⟩))
          go_ret
          refine ⟨_, rfl, own_second2 w _ ?_ rfl _, al2 _ _ _⟩
          omega

set_option maxRecDepth 20000 in
set_option maxHeartbeats 4000000 in
theorem reached_any (g n : Nat) (f : Nat → Bool) (w : World) (hF : Found w g n f) (hn : n ≤ 40) :
    Calls Tryd.prog 15 #[.slice (some ⟨g, 0, none⟩) n n] w (AfterSays w ((List.range n).filter f)) := by
  have HF := Lib.hid hF
  have hg := hF.lt
  clear hF
  go_enter Tryd.func15, Tryd.ntmps15
  go_wp2_with fail
  go_loopw [3, 4] (fun v i wr => ∃ j : Nat, j ≤ n ∧ i = .int .i64 j ∧ Hid (wr.ownsRow w.heap.size 3 1 v ((List.range j).filter f).length (((List.range j).filter f).map natV)) ∧ Hid (Below w.heap.size w wr)) (fun _ i _ => n - (intOf i).toNat)
  case atStart => exact ⟨0, Nat.zero_le _, rfl, Lib.hid (World.ownsRow_nil _ _ _ _), Lib.hid (Below.refl _ _)⟩
  case round =>
    obtain ⟨j, hj, rfl, HV, HB⟩ := hrel
    by_cases hlt : j < n
    · have hct := (HF.out.below HB.out).cell hlt
      have HN := Lib.hid (filter_next f j)
      have hlen := filter_len f j
      have hsz := HB.out.size
      generalize hP : (List.range j).filter f = ps at *
      cases hfc : f j with
      | true =>
        rw [hfc] at hct HN
        replace HN := HN.out
        rw [if_pos rfl] at HN
        replace HN := Lib.hid HN
        clear hfc hP
        go_wp2_with (first
          | (at_builtin; refine wpList_nats rfl _ _ rfl w.heap.size _ ps [j] rfl (HV.out.alloc _) _ 1 1 rfl (Row.nat1 _ j _ _) (by decide) (by omega) (by simp; omega) ?_
             intro v3 w3 hv hb
             rw [← HN.out] at hv
             have HV3 := Lib.hid hv
             have HB3 := Lib.hid ((HB.out.alloc hsz _).trans hb)
             clear hv hb))
        go_round
        case rel => exact ⟨j + 1, by omega, by go_num, HV3, HB3⟩
        case measure => first | (simp [intOf]; omega) | simp [intOf]
      | false =>
        rw [hfc] at hct HN
        replace HN := HN.out
        rw [if_neg (by simp), List.append_nil] at HN
        have HV3 := HV.out
        rw [← HN] at HV3
        replace HV3 := Lib.hid HV3
        clear hfc hP HN
        go_wp2_with fail
        go_round
        case rel => exact ⟨j + 1, by omega, by go_num, HV3, HB⟩
        case measure => first | (simp [intOf]; omega) | simp [intOf]
    · obtain rfl : j = n := by omega
      go_wp2
      go_ret
      exact ⟨_, rfl, HV.out, HB.out⟩
end Go.Proofs.YtjfcmkjlmkgioaaDoor
