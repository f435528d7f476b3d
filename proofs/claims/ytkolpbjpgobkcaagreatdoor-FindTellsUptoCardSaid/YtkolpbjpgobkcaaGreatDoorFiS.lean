/- Two methods without code and handlers compared (coffeehousesame.Method). -/
import Derived.Test.YtkolpbjpgobkcaaGreatDoorFiC
import Derived.Test.YtkolpbjpgobkcaaGreatDoorSame
namespace Go.Proofs.YtkolpbjpgobkcaaGreatDoor
open Go.ChangeShapes Go.WideShapes Go.ChangeAt Go.RowKit
set_option linter.unusedVariables false

set_option maxRecDepth 20000 in
set_option maxHeartbeats 2000000 in
theorem codeNone (A B : Option Addr) (c d : Nat) (w : World) :
    Calls Tryz.prog 24 #[.slice A 0 c, .slice B 0 d] w fun e w' => e = .returned (.bool true) ∧ w = w' := by
  go_enter Tryz.func24, Tryz.ntmps24
  go_wp2
  go_loop [5] (fun i => i = .int .i64 0) (fun i => 0)
  case atStart => rfl
  case round =>
    subst hrel
    go_wp2
    go_ret
    exact ⟨rfl, rfl⟩
set_option maxRecDepth 20000 in
set_option maxHeartbeats 2000000 in
theorem handsNone (A B : Option Addr) (c d : Nat) (w : World) :
    Calls Tryz.prog 25 #[.slice A 0 c, .slice B 0 d] w fun e w' => e = .returned (.bool true) ∧ w = w' := by
  go_enter Tryz.func25, Tryz.ntmps25
  go_wp2
  go_loop [5] (fun i => i = .int .i64 0) (fun i => 0)
  case atStart => rfl
  case round =>
    subst hrel
    go_wp2
    go_ret
    exact ⟨rfl, rfl⟩
set_option maxRecDepth 20000 in
set_option maxHeartbeats 2000000 in
theorem methNone (m : MethD) (v u : Value) (hv : MethBare m v) (hu : MethBare m u) (w : World) :
    Calls Tryz.prog 11 #[v, u] w fun e w' => e = .returned (.bool true) ∧ Below w.heap.size w w' := by
  obtain ⟨A, c, B, d, rfl⟩ := hv
  obtain ⟨A', c', B', d', rfl⟩ := hu
  obtain ⟨nm, ty, st, ab, pr, lo, _, _⟩ := m
  have H1 := Lib.hid (fun A B c d w => codeNone A B c d w)
  have H2 := Lib.hid (fun A B c d w => handsNone A B c d w)
  have e1 : ((bs nm).toList == (bs nm).toList) = true := by simp
  have e2 : ((bs ty).toList == (bs ty).toList) = true := by simp
  cases st <;> cases ab <;> cases pr
  all_goals
    go_enter Tryz.func11, Tryz.ntmps11
    go_wp2_with (first
      | (go_at_call 24; (with_reducible refine (H1.out _ _ _ _ _).mono ?_); rintro e w1 ⟨rfl, rfl⟩)
      | (go_at_call 25; (with_reducible refine (H2.out _ _ _ _ _).mono ?_); rintro e w1 ⟨rfl, rfl⟩))
    go_ret
    exact ⟨rfl, by repeat (first | exact Below.refl _ _ | exact bal_ (bal_ (Below.refl _ _) (by simp)) (by simp) | refine bal_ ?_ (by simp; omega) | refine bal_ ?_ (by simp))⟩
/-- No class has too many members. -/
theorem classD_len {l : List ClassD} (hu : ∀ x ∈ l, x.upto 1048576) (x : List UInt8) : (classD l x).fields.length ≤ 1000000000 ∧ (classD l x).meths.length ≤ 1000000000 := by
  unfold classD
  cases h : classOf l x with
  | none => exact ⟨by decide, by decide⟩
  | some c =>
    rcases classOf_in h with ⟨_, rfl⟩ | ⟨_, rfl⟩ | ⟨hm, _⟩
    · exact ⟨by decide, by decide⟩
    · exact ⟨by decide, by decide⟩
    · have := hu _ hm
      unfold ClassD.upto at this
      exact ⟨by show c.fields.length ≤ _; omega, by show c.meths.length ≤ _; omega⟩
end Go.Proofs.YtkolpbjpgobkcaaGreatDoor
