/- The walks of the laws of package utf. -/
import Derived.Test.YtekpinicfgofgaaUt5
import Derived.Test.YtekpinicfgofgaaSame
namespace Go.Proofs.Ytekpinicfgofgaa
open Go.ChangeShapes Go.WideShapes Go.ChangeAt Go.RowKit
set_option linter.unusedVariables false
attribute [local go_sem] eqGuard_errV_nil eqGuard_errV_iface eql_errV_nil neq_errV_nil eql_errV_form

theorem own_row {w : World} {base : Nat} {v : Value} {xs : List UInt8} (h : w.ownsRow base 5 1 v xs.length (xs.map byteV)) : ∃ A c, v = .slice A xs.length c ∧ Row w A xs.length c (xs.map byteV) := by
  obtain ⟨A, c, rfl⟩ := own_form h
  exact ⟨A, c, rfl, Row.own h⟩
def euroB : List UInt8 := [226, 130, 172, 192, 128]
theorem euro_is : encL [0x20ac, 0] = euroB := by decide +kernel
def bytesO : Obj := .cells #[.int .u8 226, .int .u8 130, .int .u8 172, .int .u8 192, .int .u8 128] 5
def unitsO : Obj := .cells #[.int .u16 8364, .int .u16 0] 33
theorem euro_row (W : World) (n : Nat) (hn : W.heap.size = n) : Row (W.alloc bytesO) (some ⟨n, 0, none⟩) 5 5 (euroB.map byteV) := by subst hn; exact Row.lit W _ _ _
theorem euro_list (W : World) (n : Nat) (hn : W.heap.size = n) : Row (W.alloc unitsO) (some ⟨n, 0, none⟩) 2 2 (([0x20ac, 0] : List UInt16).map unitV) := by subst hn; exact Row.lit W _ _ _
def EuroSays (W : World) (e : Ending) (w' : World) : Prop := ∃ A c, e = .returned (.slice A euroB.length c) ∧ Row w' A euroB.length c (euroB.map byteV) ∧ Below W.heap.size W w'
theorem euro_enc (W : World) (A : Option Addr) (c : Nat) (R : Row W A 2 c (([0x20ac, 0] : List UInt16).map unitV)) : Calls Try.prog 11 #[.slice A 2 c] W (EuroSays W) := by
  refine (encode_any [0x20ac, 0] A 2 c W R (by decide)).mono ?_
  rintro e w' ⟨v, rfl, hv, hb⟩
  rw [euro_is] at hv
  obtain ⟨A, c, rfl, hR⟩ := own_row hv
  exact ⟨A, c, rfl, hR, hb⟩
theorem below_behind {w a : World} (h : Below w.drew.heap.size w.drew a) : Below w.heap.size w a := ⟨h.os, h.tape, h.output, h.size, h.block⟩
set_option maxRecDepth 20000 in
set_option maxHeartbeats 8000000 in
theorem euro_any (w : World) : Calls Try.prog 7 #[] w fun e w' => e = .returned (.bool true) ∧ Below w.heap.size w w' := by
  have hA1 := Lib.hid (euro_enc (w.alloc unitsO).drew _ _ (Row.drew (euro_list w _ rfl)))
  have hA2 := Lib.hid (euro_enc ((w.alloc unitsO).alloc bytesO).drew _ _ (Row.drew (Row.alloc (euro_list w _ rfl) _)))
  have hA3 := Lib.hid (euro_enc ((w.alloc bytesO).alloc unitsO).drew _ _ (Row.drew (euro_list (w.alloc bytesO) (w.heap.size + 1) (by simp))))
  have R2 := Lib.hid (Row.drew (euro_row (w.alloc unitsO) (w.heap.size + 1) (by simp)))
  have R3 := Lib.hid (Row.drew (Row.alloc (euro_row w _ rfl) unitsO))
  have e1 := conv_row (Row.drew (euro_row w _ rfl))
  have e2 := conv_row R2.out
  have e3 := conv_row R3.out
  have er := fun w => conv_row (euro_row w _ rfl)
  unfold bytesO unitsO at *
  have HB := Lib.hid (Below.refl w.heap.size w)
  go_enter Try.func7, Try.ntmps7
  go_wp2_with fail
  go_region_with (first
    | (go_at_call 11; (with_reducible refine hA1.out.mono ?_); rintro e w1 ⟨A1, c1, rfl, hv, hb⟩; have h1 := conv_row hv; have h2 := fun o => conv_row (hv.alloc o); have HW := Lib.hid ((HB.out.alloc (Nat.le_refl _) _).trans ((below_behind hb).mono (by simp))); clear hv hb)
    | (go_at_call 11; (with_reducible refine hA2.out.mono ?_); rintro e w1 ⟨A1, c1, rfl, hv, hb⟩; have h1 := conv_row hv; have h2 := conv_row (R2.out.below hb); have HW := Lib.hid (((HB.out.alloc (Nat.le_refl _) _).alloc (by simp) _).trans ((below_behind hb).mono (by simp; omega))); clear hv hb)
    | (go_at_call 11; (with_reducible refine hA3.out.mono ?_); rintro e w1 ⟨A1, c1, rfl, hv, hb⟩; have h1 := conv_row hv; have h2 := conv_row (R3.out.below hb); have HW := Lib.hid (((HB.out.alloc (Nat.le_refl _) _).alloc (by simp) _).trans ((below_behind hb).mono (by simp; omega))); clear hv hb))
  all_goals
    have hw1 := HW.out.size
    go_wp2
    go_ret
    exact ⟨ret_bool (by simp), by first | exact HW.out | exact HW.out.alloc hw1 _⟩
end Go.Proofs.Ytekpinicfgofgaa
