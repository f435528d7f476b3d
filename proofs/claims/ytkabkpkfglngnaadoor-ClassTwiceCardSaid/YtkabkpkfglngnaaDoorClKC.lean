/- The search of class.checkMethods: a closure, IndexFunc, ContainsFunc. -/
import Derived.Test.YtkabkpkfglngnaaDoorClF
import Derived.Test.YtkabkpkfglngnaaDoorClB
namespace Go.Proofs.YtkabkpkfglngnaaDoor
open Go.ChangeShapes Go.WideShapes Go.ChangeAt Go.RowKit
set_option linter.unusedVariables false
attribute [local go_sem] eqGuard_errV_nil eqGuard_errV_iface eql_errV_nil neq_errV_nil eql_errV_form

/-- Do two methods have the same name and type? -/
def twinB (y x : MethD) : Bool := x.nm == y.nm && x.ty == y.ty
set_option maxHeartbeats 2000000 in
theorem msame_any (x y : MethD) (A : Option Addr) (i j : Nat) (B : Option Addr) (k l : Nat) (b : Nat) (w : World) (h : w.cell? ⟨b, 0, none⟩ = some (.string (bs y.nm))) (h' : w.cell? ⟨b, 1, none⟩ = some (.string (bs y.ty))) (hb : b < w.heap.size) :
    Calls Tryd.prog 25 #[methV x A i j B k l, .pointer (some ⟨b, 0, none⟩)] w fun e w' => e = .returned (.bool (twinB y x)) ∧ Below w.heap.size w w' := by
  unfold methV
  by_cases he : x.nm = y.nm
  · by_cases hf : x.ty = y.ty
    · have e : twinB y x = true := by simp [twinB, he, hf]
      rw [e]
      rw [← he] at h
      rw [← hf] at h'
      clear e he hf
      go_enter Tryd.func25, Tryd.ntmps25
      go_wp2
      go_ret
      exact ⟨rfl, al1 _ _⟩
    · have e : twinB y x = false := by simp [twinB, hf]
      rw [e]
      rw [← he] at h
      have hne := str_ne hf
      clear e he hf
      go_enter Tryd.func25, Tryd.ntmps25
      go_wp2
      go_ret
      exact ⟨rfl, al1 _ _⟩
  · have e : twinB y x = false := by simp [twinB, he]
    rw [e]
    have hne := str_ne he
    clear e he
    go_enter Tryd.func25, Tryd.ntmps25
    go_wp2
    go_ret
    exact ⟨rfl, al1 _ _⟩

set_option maxRecDepth 20000 in
set_option maxHeartbeats 2000000 in
theorem mindex_any (xs : List MethD) (y : MethD) (b : Nat) (A : Option Addr) (n c : Nat) (w : World) (R : MethRow w A n c xs) (hn : n ≤ 140737488351232) (h : w.cell? ⟨b, 0, none⟩ = some (.string (bs y.nm))) (h' : w.cell? ⟨b, 1, none⟩ = some (.string (bs y.ty))) (hb : b < w.heap.size) :
    Calls Tryd.prog 39 #[.slice A n c, .func (.func 25) #[] #[.pointer (some ⟨b, 0, none⟩)]] w
      fun e w' => ∃ k : Int, e = .returned (.int .i64 k) ∧ (xs.any (twinB y) = true → ∃ m : Nat, k = m) ∧ (xs.any (twinB y) = false → k = -1) ∧ Below w.heap.size w w' := by
  have hl : xs.length = n := R.1
  have HL := Lib.hid hl
  have HR := Lib.hid R
  have HC := Lib.hid (fun (W : World) (x : MethD) A i j B k l (hB : Below w.heap.size w W) => msame_any x y A i j B k l b W ((hB.cell (p := ⟨b, 0, none⟩) hb).trans h) ((hB.cell (p := ⟨b, 1, none⟩) hb).trans h') (Nat.lt_of_lt_of_le hb hB.size))
  clear hl R h hb h'
  go_enter Tryd.func39, Tryd.ntmps39
  go_wp2
  go_loopw [5, 8] (fun _ i wr => ∃ k : Nat, k ≤ n ∧ i = .int .i64 k ∧ Hid ((xs.take k).any (twinB y) = false) ∧ Hid (Below w.heap.size w wr)) (fun _ i _ => n - (intOf i).toNat)
  case atStart => exact ⟨0, Nat.zero_le _, rfl, Lib.hid rfl, Lib.hid (Below.refl _ _)⟩
  case round =>
    obtain ⟨k, hk, rfl, HT, HB⟩ := hrel
    by_cases hlt : k < n
    · obtain ⟨b1, o1, rfl, hb1, hx1⟩ := (MethRow.below HR.out HB.out).at_ hlt
      have hk1 : k < xs.length := by rw [HL.out]; exact hlt
      have HX := HC.out wr xs[k]
      have HTN := Lib.hid (show twinB y xs[k] = false → _ from fun h => any_take (p := twinB y) hk1 HT.out h)
      have HTA := Lib.hid (show twinB y xs[k] = true → _ from fun h => any_at (p := twinB y) hk1 h)
      generalize xs[k] = x at *
      obtain ⟨c0, c1, c2, c3, c4, c5, ⟨A1, n1, m1, c6, _⟩, ⟨A2, n2, m2, c7, _⟩⟩ := hx1
      replace HX := HX A1 n1 m1 A2 n2 m2
      unfold methV at HX
      cases he : twinB y x with
      | true =>
        rw [he] at HX
        replace HX := Lib.hid HX
        have HA := Lib.hid (HTA.out he)
        clear HTN HTA he
        go_wp2_with (first
          | (go_at_call 25; (with_reducible refine (HX.out HB.out).mono ?_); rintro e w1 ⟨rfl, hb⟩
             have HB1 := Lib.hid (bnext HB.out hb)
             clear hb))
        go_ret
        exact ⟨_, rfl, fun _ => ⟨k, rfl⟩, fun h => absurd (HA.out.symm.trans h) (by simp), HB1.out⟩
      | false =>
        rw [he] at HX
        replace HX := Lib.hid HX
        have HA := Lib.hid (HTN.out he)
        clear HTN HTA he
        go_wp2_with (first
          | (go_at_call 25; (with_reducible refine (HX.out HB.out).mono ?_); rintro e w1 ⟨rfl, hb⟩
             have HB1 := Lib.hid (bnext HB.out hb)
             clear hb))
        go_roundw
        case rel => exact ⟨k + 1, by omega, by go_num, HA, HB1⟩
        case measure => first | (simp [intOf]; omega) | simp [intOf]
    · obtain rfl : k = n := by omega
      have h := HT.out
      rw [List.take_of_length_le (by rw [HL.out]; exact Nat.le_refl _)] at h
      replace h := Lib.hid h
      go_wp2
      go_ret
      exact ⟨_, rfl, fun h' => absurd (h.out.symm.trans h') (by simp), fun _ => rfl, HB.out⟩
set_option maxHeartbeats 1000000 in
theorem mhas_any (xs : List MethD) (y : MethD) (b : Nat) (A : Option Addr) (n c : Nat) (w : World) (R : MethRow w A n c xs) (hn : n ≤ 140737488351232) (h : w.cell? ⟨b, 0, none⟩ = some (.string (bs y.nm))) (h' : w.cell? ⟨b, 1, none⟩ = some (.string (bs y.ty))) (hb : b < w.heap.size) :
    Calls Tryd.prog 26 #[.slice A n c, .func (.func 25) #[] #[.pointer (some ⟨b, 0, none⟩)]] w
      fun e w' => e = .returned (.bool (xs.any (twinB y))) ∧ Below w.heap.size w w' := by
  have H := Lib.hid (mindex_any xs y b A n c w R hn h h' hb)
  clear R h hb h'
  generalize xs.any (twinB y) = q at *
  cases q with
  | true =>
    go_enter Tryd.func26, Tryd.ntmps26
    go_wp2_with (first
      | (go_at_call 39; (with_reducible refine H.out.mono ?_); rintro e w1 ⟨k, rfl, h1, _, hb⟩
         obtain ⟨m, rfl⟩ := h1 rfl
         have HB1 := Lib.hid hb
         clear hb h1))
    go_ret
    exact ⟨ret_bool (by simp), HB1.out⟩
  | false =>
    go_enter Tryd.func26, Tryd.ntmps26
    go_wp2_with (first
      | (go_at_call 39; (with_reducible refine H.out.mono ?_); rintro e w1 ⟨k, rfl, _, h2, hb⟩
         obtain rfl := h2 rfl
         have HB1 := Lib.hid hb
         clear hb h2))
    go_ret
    exact ⟨ret_bool (by simp), HB1.out⟩
end Go.Proofs.YtkabkpkfglngnaaDoor
