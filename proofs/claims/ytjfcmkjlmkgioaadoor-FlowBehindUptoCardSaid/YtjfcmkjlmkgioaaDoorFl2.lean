/- The contracts of package flow: after, and mark, which calls itself. -/
import Derived.Test.YtjfcmkjlmkgioaaDoorFl1
import Derived.Test.YtjfcmkjlmkgioaaDoorFlR
namespace Go.Proofs.YtjfcmkjlmkgioaaDoor
open Go.ChangeShapes Go.WideShapes Go.ChangeAt Go.RowKit
set_option linter.unusedVariables false
attribute [local go_sem] eqGuard_errV_nil eqGuard_errV_iface eql_errV_nil neq_errV_nil eql_errV_form

theorem InsAt.below {w w' : World} {b o : Nat} {x : InsD} (h : InsAt w b o x) (hb : b < w.heap.size) (hB : Below w.heap.size w w') : InsAt w' b o x := h.kept fun p hp => hB.cell (by rw [hp]; exact hb)
theorem InsRow.only {w w' : World} {A : Option Addr} {n c g : Nat} {l : List InsD} (R : InsRow w A n c l) (hA : ∀ a, A = some a → a.block ≠ g) (h : Only g w w') : InsRow w' A n c l :=
  ⟨R.1, R.2.1, fun hn => by
    obtain ⟨b, o, e, hb, hc⟩ := R.2.2 hn
    have hne : b ≠ g := hA _ e
    exact ⟨b, o, e, Nat.lt_of_lt_of_le hb h.1.size, fun j x hx => (hc j x hx).kept fun p hp => h.cell (by rw [hp]; exact hb) (by rw [hp]; exact hne)⟩⟩
theorem Row.natI (w : World) {z : Int} {k : Nat} (hz : z = (k : Int)) (t : TypeId) (x : Nat × Nat) : Row (w.alloc (.cells #[.int .i64 z] t x)) (some ⟨w.heap.size, 0, none⟩) 1 1 ([k].map natV) := by
  subst hz; exact Row.nat1 w k t x
theorem al2 (w : World) (o p : Obj) : Below w.heap.size w ((w.alloc o).alloc p) := (al1 w o).alloc (al1 w o).size p
/-- What after says. -/
def AfterSays (w : World) (xs : List Nat) (e : Ending) (w' : World) : Prop := ∃ v, e = .returned v ∧ w'.ownsRow w.heap.size 3 1 v xs.length (xs.map natV) ∧ Below w.heap.size w w'

set_option maxRecDepth 20000 in
set_option maxHeartbeats 4000000 in
theorem fafter_any (l : List InsD) (A : Option Addr) (n c k : Nat) (w : World) (R : InsRow w A n c l) (hk : k < n) (hn : n ≤ 40) (hj : ∀ x ∈ l, jumpB x.op = true → 0 ≤ x.a ∧ x.a ≤ 40) :
    Calls Tryd.prog 27 #[.slice A n c, .int .i64 (k : Int)] w (AfterSays w (aftM l k)) := by
  have hl : l.length = n := R.1
  subst hl
  obtain ⟨b1, o1, rfl, hb1, hx1⟩ := R.at_ hk
  have HX : ∀ w', Below w.heap.size w w' → InsAt w' b1 (o1 + k * 6) l[k] := fun w' h => hx1.below hb1 h
  have hjx := hj _ (List.getElem_mem hk)
  have HG := fun w => fgoes_any l[k] w
  have HJ := fun w => fjumps_any l[k] w
  rw [aft_at hk]
  clear R hj hx1
  generalize l[k] = x at *
  obtain ⟨xo, xa, xb, xt, xc, xn⟩ := x
  unfold insV at HG HJ
  simp only at HG HJ hjx
  obtain ⟨c0, c1, c2, c3, c4, c5⟩ := HX w (Below.refl _ _)
  have hwr : IntKind.i64.wrap ((k : Int) + 1) = (k : Int) + 1 := by rw [IntKind.wrap_i64]; omega
  replace HX := Lib.hid HX
  cases hg : goesB xo
  all_goals
    cases hjb : jumpB xo
    all_goals
      simp only [hg] at HG
      simp only [hjb] at HJ
      replace HG := Lib.hid HG
      replace HJ := Lib.hid HJ
  · rw [show nextM ⟨xo, xa, xb, xt, xc, xn⟩ k = [] by simp [nextM, hg, hjb]]
    clear hjx
    go_enter Tryd.func27, Tryd.ntmps27
    go_wp2_with (first
      | (go_at_call 25; (with_reducible refine (HG.out _).mono ?_); rintro e w1 ⟨rfl, b1⟩
         have HB1 := Lib.hid b1
         obtain ⟨p0, p1, p2, p3, p4, p5⟩ := HX.out w1 b1
         clear b1)
      | (go_at_call 24; (with_reducible refine (HJ.out _).mono ?_); rintro e w2 ⟨rfl, b2⟩
         have HB2 := Lib.hid (bnext HB1.out b2)
         clear b2))
    go_ret
    exact ⟨_, rfl, World.ownsRow_nil _ _ _ _, HB2.out⟩
  · obtain ⟨ha0, ha40⟩ := hjx hjb
    obtain ⟨t, rfl⟩ : ∃ t : Nat, xa = (t : Int) := ⟨xa.toNat, by omega⟩
    rw [show nextM ⟨xo, (t : Int), xb, xt, xc, xn⟩ k = [t] by simp [nextM, hg, hjb]]
    clear hjx
    have HC := fun w => contains_row none 0 0 [] (t : Int) w (Row.nil_ _ _ _) (by decide)
    simp only [List.any_nil] at HC
    replace HC := Lib.hid HC
    go_enter Tryd.func27, Tryd.ntmps27
    go_wp2_with (first
      | (go_at_call 25; (with_reducible refine (HG.out _).mono ?_); rintro e w1 ⟨rfl, b1⟩
         have HB1 := Lib.hid b1
         obtain ⟨p0, p1, p2, p3, p4, p5⟩ := HX.out w1 b1
         clear b1)
      | (go_at_call 24; (with_reducible refine (HJ.out _).mono ?_); rintro e w2 ⟨rfl, b2⟩
         have HB2 := Lib.hid (bnext HB1.out b2)
         obtain ⟨q0, q1, q2, q3, q4, q5⟩ := HX.out w2 HB2.out
         clear b2)
      | (go_at_call 37; (with_reducible refine (HC.out _).mono ?_); rintro e w3 ⟨rfl, rfl⟩)
      | (at_builtin; refine wpList_nats rfl _ _ rfl w.heap.size _ [] [t] rfl (World.ownsRow_nil _ _ _ _) _ 1 1 rfl (Row.nat1 _ t _ _) (by decide) (by decide) (by have := HB2.out.size; simp; omega) ?_
         intro v4 w4 hv hb
         have HV := Lib.hid hv
         have HB4 := Lib.hid ((HB2.out.alloc HB2.out.size _).trans hb)
         clear hv hb))
    go_ret
    exact ⟨_, rfl, HV.out, HB4.out⟩
  · rw [show nextM ⟨xo, xa, xb, xt, xc, xn⟩ k = [k + 1] by simp [nextM, hg, hjb]]
    clear hjx
    go_enter Tryd.func27, Tryd.ntmps27
    go_wp2_with (first
      | (go_at_call 25; (with_reducible refine (HG.out _).mono ?_); rintro e w1 ⟨rfl, b1⟩
         have HB1 := Lib.hid b1
         obtain ⟨p0, p1, p2, p3, p4, p5⟩ := HX.out w1 b1
         clear b1)
      | (at_builtin; refine wpList_nats rfl _ _ rfl w.heap.size _ [] [k + 1] rfl (World.ownsRow_nil _ _ _ _) _ 1 1 rfl (Row.natI _ (by omega) _ _) (by decide) (by decide) (by have := HB1.out.size; simp; omega) ?_
         intro v2 w2 hv hb
         have HV := Lib.hid hv
         have HB2 := Lib.hid ((HB1.out.alloc HB1.out.size _).trans hb)
         obtain ⟨q0, q1, q2, q3, q4, q5⟩ := HX.out w2 HB2.out
         clear hv hb)
      | (go_at_call 24; (with_reducible refine (HJ.out _).mono ?_); rintro e w3 ⟨rfl, b3⟩
         have HB3 := Lib.hid (bnext HB2.out b3)
         have HV3 := Lib.hid (own_below HV.out b3)
         clear b3))
    go_ret
    exact ⟨_, rfl, HV3.out, HB3.out⟩
  · obtain ⟨ha0, ha40⟩ := hjx hjb
    obtain ⟨t, rfl⟩ : ∃ t : Nat, xa = (t : Int) := ⟨xa.toNat, by omega⟩
    clear hjx
    have HC := fun B d w R => contains_row B 1 d [k + 1] (t : Int) w R (by decide)
    simp only [List.any_cons, List.any_nil, Bool.or_false] at HC
    by_cases ht : t = k + 1
    · rw [show nextM ⟨xo, (t : Int), xb, xt, xc, xn⟩ k = [k + 1] by simp [nextM, hg, hjb, ht]]
      rw [show (((k + 1 : Nat) : Int) == (t : Int)) = true by simp [ht]] at HC
      replace HC := Lib.hid HC
      clear ht
      go_enter Tryd.func27, Tryd.ntmps27
      go_wp2_with (first
        | (go_at_call 25; (with_reducible refine (HG.out _).mono ?_); rintro e w1 ⟨rfl, b1⟩
           have HB1 := Lib.hid b1
           obtain ⟨p0, p1, p2, p3, p4, p5⟩ := HX.out w1 b1
           clear b1)
        | (at_builtin; refine wpList_nats rfl _ _ rfl w.heap.size _ [] [k + 1] rfl (World.ownsRow_nil _ _ _ _) _ 1 1 rfl (Row.natI _ (by omega) _ _) (by decide) (by decide) (by have := HB1.out.size; simp; omega) ?_
           intro v2 w2 hv hb
           obtain ⟨A2, d2, rfl, hr2, _⟩ := own_row hv
           have HV := Lib.hid hv
           have HR2 := Lib.hid hr2
           have HB2 := Lib.hid ((HB1.out.alloc HB1.out.size _).trans hb)
           obtain ⟨q0, q1, q2, q3, q4, q5⟩ := HX.out w2 HB2.out
           clear hv hb hr2)
        | (go_at_call 24; (with_reducible refine (HJ.out _).mono ?_); rintro e w3 ⟨rfl, b3⟩
           have HB3 := Lib.hid (bnext HB2.out b3)
           have HV3 := Lib.hid (own_below HV.out b3)
           have HR3 := Lib.hid (HR2.out.below b3)
           obtain ⟨r0, r1, r2, r3, r4, r5⟩ := HX.out w3 HB3.out
           clear b3)
        | (go_at_call 37; (with_reducible refine (HC.out _ _ _ HR3.out).mono ?_); rintro e w4 ⟨rfl, rfl⟩))
      go_ret
      exact ⟨_, rfl, HV3.out, HB3.out⟩
    · rw [show nextM ⟨xo, (t : Int), xb, xt, xc, xn⟩ k = [k + 1, t] by simp [nextM, hg, hjb]; omega]
      rw [show (((k + 1 : Nat) : Int) == (t : Int)) = false by rw [beq_eq_false_iff_ne]; omega] at HC
      replace HC := Lib.hid HC
      clear ht
      go_enter Tryd.func27, Tryd.ntmps27
      go_wp2_with (first
        | (go_at_call 25; (with_reducible refine (HG.out _).mono ?_); rintro e w1 ⟨rfl, b1⟩
           have HB1 := Lib.hid b1
           obtain ⟨p0, p1, p2, p3, p4, p5⟩ := HX.out w1 b1
           clear b1)
        | (at_builtin; refine wpList_nats rfl (.tmp 11) (.tmp 14) rfl w.heap.size _ [] [k + 1] rfl (World.ownsRow_nil _ _ _ _) _ 1 1 rfl (Row.natI _ (by omega) _ _) (by decide) (by decide) (by have := HB1.out.size; simp; omega) ?_
           intro v2 w2 hv hb
           obtain ⟨A2, d2, rfl, hr2, _⟩ := own_row hv
           have HV := Lib.hid hv
           have HR2 := Lib.hid hr2
           have HB2 := Lib.hid ((HB1.out.alloc HB1.out.size _).trans hb)
           obtain ⟨q0, q1, q2, q3, q4, q5⟩ := HX.out w2 HB2.out
           clear hv hb hr2)
        | (go_at_call 24; (with_reducible refine (HJ.out _).mono ?_); rintro e w3 ⟨rfl, b3⟩
           have HB3 := Lib.hid (bnext HB2.out b3)
           have HV3 := Lib.hid (own_below HV.out b3)
           have HR3 := Lib.hid (HR2.out.below b3)
           obtain ⟨r0, r1, r2, r3, r4, r5⟩ := HX.out w3 HB3.out
           clear b3)
        | (go_at_call 37; (with_reducible refine (HC.out _ _ _ HR3.out).mono ?_); rintro e w4 ⟨rfl, rfl⟩)
        | (at_builtin; refine wpList_nats rfl (.tmp 31) (.tmp 37) rfl w.heap.size _ [k + 1] [t] rfl (HV3.out.alloc _) _ 1 1 rfl (Row.nat1 _ t _ _) (by decide) (by simp) (by have := HB3.out.size; simp; omega) ?_
           intro v5 w5 hv hb
           have HV5 := Lib.hid hv
           have HB5 := Lib.hid ((HB3.out.alloc HB3.out.size _).trans hb)
           clear hv hb))
      go_ret
      exact ⟨_, rfl, HV5.out, HB5.out⟩
end Go.Proofs.YtjfcmkjlmkgioaaDoor
