/- The reference's answer on any instruction. -/
import Derived.Test.YtdpkjmdmmhnfnaaGreatDoorInF
namespace Go.Proofs.YtdpkjmdmmhnfnaaGreatDoor
open Go.ChangeShapes Go.WideShapes Go.ChangeAt Go.RowKit
set_option linter.unusedVariables false
set_option linter.unusedSimpArgs false

theorem fault_out (k : Int) (h : k ≤ 0 ∨ 28 < k) (a b : Int) (ty cl nm : List UInt8) (w : World) :
    Calls Tryz.prog 95 #[insV ⟨k, a, b, ty, cl, nm⟩] w fun e w' => e = .returned (.int .i64 1) ∧ Below w.heap.size w w' := by
  unfold insV
  rcases h with h | h
  · have h1 : k < 1 := by omega
    clear h
    go_enter Tryz.func95, Tryz.ntmps95
    go_wp2
    go_ret
    exact ⟨rfl, al0 _ _⟩
  · have h1 : ¬ k < 1 := by omega
    go_enter Tryz.func95, Tryz.ntmps95
    go_wp2
    go_ret
    exact ⟨rfl, al0 _ _⟩
theorem full_1 (a b : Int) (ty cl nm : List UInt8) (w : World) (ht : ty.length ≤ 1048576) (hc : cl.length ≤ 1048576) (hn : nm.length ≤ 1048576) :
    Calls Tryz.prog 95 #[insV ⟨1, a, b, ty, cl, nm⟩] w fun e w' => e = .returned (.int .i64 (insF ⟨1, a, b, ty, cl, nm⟩ : Int)) ∧ Below w.heap.size w w' := by
  by_cases ho : ((a == 0 || false) && (b == 0 || false) && (ty == [] || false) && (cl == [] || false) && (nm == [] || false)) = false
  · rw [insF_at 1 a b ty cl nm false false false false false (by decide) (by decide) (by decide), if_pos ho]
    exact bad_any (by decide) (by decide) needs_1 ho w
  · obtain rfl : a = 0 := Decidable.byContradiction fun h => ho (by simp [h])
    obtain rfl : b = 0 := Decidable.byContradiction fun h => ho (by simp [h])
    obtain rfl : ty = [] := Decidable.byContradiction fun h => ho (by simp [h])
    obtain rfl : cl = [] := Decidable.byContradiction fun h => ho (by simp [h])
    obtain rfl : nm = [] := Decidable.byContradiction fun h => ho (by simp [h])
    exact fault_1  w
theorem full_2 (a b : Int) (ty cl nm : List UInt8) (w : World) (ht : ty.length ≤ 1048576) (hc : cl.length ≤ 1048576) (hn : nm.length ≤ 1048576) :
    Calls Tryz.prog 95 #[insV ⟨2, a, b, ty, cl, nm⟩] w fun e w' => e = .returned (.int .i64 (insF ⟨2, a, b, ty, cl, nm⟩ : Int)) ∧ Below w.heap.size w w' := by
  by_cases ho : ((a == 0 || true) && (b == 0 || false) && (ty == [] || true) && (cl == [] || false) && (nm == [] || false)) = false
  · rw [insF_at 2 a b ty cl nm true false true false false (by decide) (by decide) (by decide), if_pos ho]
    exact bad_any (by decide) (by decide) needs_2 ho w
  · obtain rfl : b = 0 := Decidable.byContradiction fun h => ho (by simp [h])
    obtain rfl : cl = [] := Decidable.byContradiction fun h => ho (by simp [h])
    obtain rfl : nm = [] := Decidable.byContradiction fun h => ho (by simp [h])
    exact fault_2 a ty w ht
theorem full_3 (a b : Int) (ty cl nm : List UInt8) (w : World) (ht : ty.length ≤ 1048576) (hc : cl.length ≤ 1048576) (hn : nm.length ≤ 1048576) :
    Calls Tryz.prog 95 #[insV ⟨3, a, b, ty, cl, nm⟩] w fun e w' => e = .returned (.int .i64 (insF ⟨3, a, b, ty, cl, nm⟩ : Int)) ∧ Below w.heap.size w w' := by
  by_cases ho : ((a == 0 || false) && (b == 0 || false) && (ty == [] || false) && (cl == [] || false) && (nm == [] || false)) = false
  · rw [insF_at 3 a b ty cl nm false false false false false (by decide) (by decide) (by decide), if_pos ho]
    exact bad_any (by decide) (by decide) needs_3 ho w
  · obtain rfl : a = 0 := Decidable.byContradiction fun h => ho (by simp [h])
    obtain rfl : b = 0 := Decidable.byContradiction fun h => ho (by simp [h])
    obtain rfl : ty = [] := Decidable.byContradiction fun h => ho (by simp [h])
    obtain rfl : cl = [] := Decidable.byContradiction fun h => ho (by simp [h])
    obtain rfl : nm = [] := Decidable.byContradiction fun h => ho (by simp [h])
    exact fault_3  w
theorem full_4 (a b : Int) (ty cl nm : List UInt8) (w : World) (ht : ty.length ≤ 1048576) (hc : cl.length ≤ 1048576) (hn : nm.length ≤ 1048576) :
    Calls Tryz.prog 95 #[insV ⟨4, a, b, ty, cl, nm⟩] w fun e w' => e = .returned (.int .i64 (insF ⟨4, a, b, ty, cl, nm⟩ : Int)) ∧ Below w.heap.size w w' := by
  by_cases ho : ((a == 0 || true) && (b == 0 || false) && (ty == [] || false) && (cl == [] || false) && (nm == [] || false)) = false
  · rw [insF_at 4 a b ty cl nm true false false false false (by decide) (by decide) (by decide), if_pos ho]
    exact bad_any (by decide) (by decide) needs_4 ho w
  · obtain rfl : b = 0 := Decidable.byContradiction fun h => ho (by simp [h])
    obtain rfl : ty = [] := Decidable.byContradiction fun h => ho (by simp [h])
    obtain rfl : cl = [] := Decidable.byContradiction fun h => ho (by simp [h])
    obtain rfl : nm = [] := Decidable.byContradiction fun h => ho (by simp [h])
    exact fault_4 a w
theorem full_5 (a b : Int) (ty cl nm : List UInt8) (w : World) (ht : ty.length ≤ 1048576) (hc : cl.length ≤ 1048576) (hn : nm.length ≤ 1048576) :
    Calls Tryz.prog 95 #[insV ⟨5, a, b, ty, cl, nm⟩] w fun e w' => e = .returned (.int .i64 (insF ⟨5, a, b, ty, cl, nm⟩ : Int)) ∧ Below w.heap.size w w' := by
  by_cases ho : ((a == 0 || true) && (b == 0 || false) && (ty == [] || false) && (cl == [] || false) && (nm == [] || false)) = false
  · rw [insF_at 5 a b ty cl nm true false false false false (by decide) (by decide) (by decide), if_pos ho]
    exact bad_any (by decide) (by decide) needs_5 ho w
  · obtain rfl : b = 0 := Decidable.byContradiction fun h => ho (by simp [h])
    obtain rfl : ty = [] := Decidable.byContradiction fun h => ho (by simp [h])
    obtain rfl : cl = [] := Decidable.byContradiction fun h => ho (by simp [h])
    obtain rfl : nm = [] := Decidable.byContradiction fun h => ho (by simp [h])
    exact fault_5 a w
theorem full_6 (a b : Int) (ty cl nm : List UInt8) (w : World) (ht : ty.length ≤ 1048576) (hc : cl.length ≤ 1048576) (hn : nm.length ≤ 1048576) :
    Calls Tryz.prog 95 #[insV ⟨6, a, b, ty, cl, nm⟩] w fun e w' => e = .returned (.int .i64 (insF ⟨6, a, b, ty, cl, nm⟩ : Int)) ∧ Below w.heap.size w w' := by
  by_cases ho : ((a == 0 || false) && (b == 0 || false) && (ty == [] || false) && (cl == [] || false) && (nm == [] || false)) = false
  · rw [insF_at 6 a b ty cl nm false false false false false (by decide) (by decide) (by decide), if_pos ho]
    exact bad_any (by decide) (by decide) needs_6 ho w
  · obtain rfl : a = 0 := Decidable.byContradiction fun h => ho (by simp [h])
    obtain rfl : b = 0 := Decidable.byContradiction fun h => ho (by simp [h])
    obtain rfl : ty = [] := Decidable.byContradiction fun h => ho (by simp [h])
    obtain rfl : cl = [] := Decidable.byContradiction fun h => ho (by simp [h])
    obtain rfl : nm = [] := Decidable.byContradiction fun h => ho (by simp [h])
    exact fault_6  w
theorem full_7 (a b : Int) (ty cl nm : List UInt8) (w : World) (ht : ty.length ≤ 1048576) (hc : cl.length ≤ 1048576) (hn : nm.length ≤ 1048576) :
    Calls Tryz.prog 95 #[insV ⟨7, a, b, ty, cl, nm⟩] w fun e w' => e = .returned (.int .i64 (insF ⟨7, a, b, ty, cl, nm⟩ : Int)) ∧ Below w.heap.size w w' := by
  by_cases ho : ((a == 0 || false) && (b == 0 || false) && (ty == [] || false) && (cl == [] || false) && (nm == [] || false)) = false
  · rw [insF_at 7 a b ty cl nm false false false false false (by decide) (by decide) (by decide), if_pos ho]
    exact bad_any (by decide) (by decide) needs_7 ho w
  · obtain rfl : a = 0 := Decidable.byContradiction fun h => ho (by simp [h])
    obtain rfl : b = 0 := Decidable.byContradiction fun h => ho (by simp [h])
    obtain rfl : ty = [] := Decidable.byContradiction fun h => ho (by simp [h])
    obtain rfl : cl = [] := Decidable.byContradiction fun h => ho (by simp [h])
    obtain rfl : nm = [] := Decidable.byContradiction fun h => ho (by simp [h])
    exact fault_7  w
theorem full_8 (a b : Int) (ty cl nm : List UInt8) (w : World) (ht : ty.length ≤ 1048576) (hc : cl.length ≤ 1048576) (hn : nm.length ≤ 1048576) :
    Calls Tryz.prog 95 #[insV ⟨8, a, b, ty, cl, nm⟩] w fun e w' => e = .returned (.int .i64 (insF ⟨8, a, b, ty, cl, nm⟩ : Int)) ∧ Below w.heap.size w w' := by
  by_cases ho : ((a == 0 || false) && (b == 0 || false) && (ty == [] || false) && (cl == [] || false) && (nm == [] || false)) = false
  · rw [insF_at 8 a b ty cl nm false false false false false (by decide) (by decide) (by decide), if_pos ho]
    exact bad_any (by decide) (by decide) needs_8 ho w
  · obtain rfl : a = 0 := Decidable.byContradiction fun h => ho (by simp [h])
    obtain rfl : b = 0 := Decidable.byContradiction fun h => ho (by simp [h])
    obtain rfl : ty = [] := Decidable.byContradiction fun h => ho (by simp [h])
    obtain rfl : cl = [] := Decidable.byContradiction fun h => ho (by simp [h])
    obtain rfl : nm = [] := Decidable.byContradiction fun h => ho (by simp [h])
    exact fault_8  w
theorem full_9 (a b : Int) (ty cl nm : List UInt8) (w : World) (ht : ty.length ≤ 1048576) (hc : cl.length ≤ 1048576) (hn : nm.length ≤ 1048576) :
    Calls Tryz.prog 95 #[insV ⟨9, a, b, ty, cl, nm⟩] w fun e w' => e = .returned (.int .i64 (insF ⟨9, a, b, ty, cl, nm⟩ : Int)) ∧ Below w.heap.size w w' := by
  by_cases ho : ((a == 0 || true) && (b == 0 || false) && (ty == [] || true) && (cl == [] || false) && (nm == [] || false)) = false
  · rw [insF_at 9 a b ty cl nm true false true false false (by decide) (by decide) (by decide), if_pos ho]
    exact bad_any (by decide) (by decide) needs_9 ho w
  · obtain rfl : b = 0 := Decidable.byContradiction fun h => ho (by simp [h])
    obtain rfl : cl = [] := Decidable.byContradiction fun h => ho (by simp [h])
    obtain rfl : nm = [] := Decidable.byContradiction fun h => ho (by simp [h])
    exact fault_9 a ty w ht
theorem full_10 (a b : Int) (ty cl nm : List UInt8) (w : World) (ht : ty.length ≤ 1048576) (hc : cl.length ≤ 1048576) (hn : nm.length ≤ 1048576) :
    Calls Tryz.prog 95 #[insV ⟨10, a, b, ty, cl, nm⟩] w fun e w' => e = .returned (.int .i64 (insF ⟨10, a, b, ty, cl, nm⟩ : Int)) ∧ Below w.heap.size w w' := by
  by_cases ho : ((a == 0 || false) && (b == 0 || false) && (ty == [] || true) && (cl == [] || false) && (nm == [] || false)) = false
  · rw [insF_at 10 a b ty cl nm false false true false false (by decide) (by decide) (by decide), if_pos ho]
    exact bad_any (by decide) (by decide) needs_10 ho w
  · obtain rfl : a = 0 := Decidable.byContradiction fun h => ho (by simp [h])
    obtain rfl : b = 0 := Decidable.byContradiction fun h => ho (by simp [h])
    obtain rfl : cl = [] := Decidable.byContradiction fun h => ho (by simp [h])
    obtain rfl : nm = [] := Decidable.byContradiction fun h => ho (by simp [h])
    exact fault_10 ty w ht
theorem full_11 (a b : Int) (ty cl nm : List UInt8) (w : World) (ht : ty.length ≤ 1048576) (hc : cl.length ≤ 1048576) (hn : nm.length ≤ 1048576) :
    Calls Tryz.prog 95 #[insV ⟨11, a, b, ty, cl, nm⟩] w fun e w' => e = .returned (.int .i64 (insF ⟨11, a, b, ty, cl, nm⟩ : Int)) ∧ Below w.heap.size w w' := by
  by_cases ho : ((a == 0 || false) && (b == 0 || false) && (ty == [] || false) && (cl == [] || false) && (nm == [] || false)) = false
  · rw [insF_at 11 a b ty cl nm false false false false false (by decide) (by decide) (by decide), if_pos ho]
    exact bad_any (by decide) (by decide) needs_11 ho w
  · obtain rfl : a = 0 := Decidable.byContradiction fun h => ho (by simp [h])
    obtain rfl : b = 0 := Decidable.byContradiction fun h => ho (by simp [h])
    obtain rfl : ty = [] := Decidable.byContradiction fun h => ho (by simp [h])
    obtain rfl : cl = [] := Decidable.byContradiction fun h => ho (by simp [h])
    obtain rfl : nm = [] := Decidable.byContradiction fun h => ho (by simp [h])
    exact fault_11  w
theorem full_12 (a b : Int) (ty cl nm : List UInt8) (w : World) (ht : ty.length ≤ 1048576) (hc : cl.length ≤ 1048576) (hn : nm.length ≤ 1048576) :
    Calls Tryz.prog 95 #[insV ⟨12, a, b, ty, cl, nm⟩] w fun e w' => e = .returned (.int .i64 (insF ⟨12, a, b, ty, cl, nm⟩ : Int)) ∧ Below w.heap.size w w' := by
  by_cases ho : ((a == 0 || true) && (b == 0 || true) && (ty == [] || false) && (cl == [] || false) && (nm == [] || false)) = false
  · rw [insF_at 12 a b ty cl nm true true false false false (by decide) (by decide) (by decide), if_pos ho]
    exact bad_any (by decide) (by decide) needs_12 ho w
  · obtain rfl : ty = [] := Decidable.byContradiction fun h => ho (by simp [h])
    obtain rfl : cl = [] := Decidable.byContradiction fun h => ho (by simp [h])
    obtain rfl : nm = [] := Decidable.byContradiction fun h => ho (by simp [h])
    exact fault_12 a b w
theorem full_13 (a b : Int) (ty cl nm : List UInt8) (w : World) (ht : ty.length ≤ 1048576) (hc : cl.length ≤ 1048576) (hn : nm.length ≤ 1048576) :
    Calls Tryz.prog 95 #[insV ⟨13, a, b, ty, cl, nm⟩] w fun e w' => e = .returned (.int .i64 (insF ⟨13, a, b, ty, cl, nm⟩ : Int)) ∧ Below w.heap.size w w' := by
  by_cases ho : ((a == 0 || true) && (b == 0 || false) && (ty == [] || false) && (cl == [] || false) && (nm == [] || false)) = false
  · rw [insF_at 13 a b ty cl nm true false false false false (by decide) (by decide) (by decide), if_pos ho]
    exact bad_any (by decide) (by decide) needs_13 ho w
  · obtain rfl : b = 0 := Decidable.byContradiction fun h => ho (by simp [h])
    obtain rfl : ty = [] := Decidable.byContradiction fun h => ho (by simp [h])
    obtain rfl : cl = [] := Decidable.byContradiction fun h => ho (by simp [h])
    obtain rfl : nm = [] := Decidable.byContradiction fun h => ho (by simp [h])
    exact fault_13 a w
theorem full_14 (a b : Int) (ty cl nm : List UInt8) (w : World) (ht : ty.length ≤ 1048576) (hc : cl.length ≤ 1048576) (hn : nm.length ≤ 1048576) :
    Calls Tryz.prog 95 #[insV ⟨14, a, b, ty, cl, nm⟩] w fun e w' => e = .returned (.int .i64 (insF ⟨14, a, b, ty, cl, nm⟩ : Int)) ∧ Below w.heap.size w w' := by
  by_cases ho : ((a == 0 || true) && (b == 0 || false) && (ty == [] || false) && (cl == [] || false) && (nm == [] || false)) = false
  · rw [insF_at 14 a b ty cl nm true false false false false (by decide) (by decide) (by decide), if_pos ho]
    exact bad_any (by decide) (by decide) needs_14 ho w
  · obtain rfl : b = 0 := Decidable.byContradiction fun h => ho (by simp [h])
    obtain rfl : ty = [] := Decidable.byContradiction fun h => ho (by simp [h])
    obtain rfl : cl = [] := Decidable.byContradiction fun h => ho (by simp [h])
    obtain rfl : nm = [] := Decidable.byContradiction fun h => ho (by simp [h])
    exact fault_14 a w
theorem full_15 (a b : Int) (ty cl nm : List UInt8) (w : World) (ht : ty.length ≤ 1048576) (hc : cl.length ≤ 1048576) (hn : nm.length ≤ 1048576) :
    Calls Tryz.prog 95 #[insV ⟨15, a, b, ty, cl, nm⟩] w fun e w' => e = .returned (.int .i64 (insF ⟨15, a, b, ty, cl, nm⟩ : Int)) ∧ Below w.heap.size w w' := by
  by_cases ho : ((a == 0 || false) && (b == 0 || false) && (ty == [] || false) && (cl == [] || true) && (nm == [] || false)) = false
  · rw [insF_at 15 a b ty cl nm false false false true false (by decide) (by decide) (by decide), if_pos ho]
    exact bad_any (by decide) (by decide) needs_15 ho w
  · obtain rfl : a = 0 := Decidable.byContradiction fun h => ho (by simp [h])
    obtain rfl : b = 0 := Decidable.byContradiction fun h => ho (by simp [h])
    obtain rfl : ty = [] := Decidable.byContradiction fun h => ho (by simp [h])
    obtain rfl : nm = [] := Decidable.byContradiction fun h => ho (by simp [h])
    exact fault_15 cl w hc
theorem full_16 (a b : Int) (ty cl nm : List UInt8) (w : World) (ht : ty.length ≤ 1048576) (hc : cl.length ≤ 1048576) (hn : nm.length ≤ 1048576) :
    Calls Tryz.prog 95 #[insV ⟨16, a, b, ty, cl, nm⟩] w fun e w' => e = .returned (.int .i64 (insF ⟨16, a, b, ty, cl, nm⟩ : Int)) ∧ Below w.heap.size w w' := by
  by_cases ho : ((a == 0 || false) && (b == 0 || false) && (ty == [] || false) && (cl == [] || true) && (nm == [] || true)) = false
  · rw [insF_at 16 a b ty cl nm false false false true true (by decide) (by decide) (by decide), if_pos ho]
    exact bad_any (by decide) (by decide) needs_16 ho w
  · obtain rfl : a = 0 := Decidable.byContradiction fun h => ho (by simp [h])
    obtain rfl : b = 0 := Decidable.byContradiction fun h => ho (by simp [h])
    obtain rfl : ty = [] := Decidable.byContradiction fun h => ho (by simp [h])
    exact fault_16 cl nm w hc hn
theorem full_17 (a b : Int) (ty cl nm : List UInt8) (w : World) (ht : ty.length ≤ 1048576) (hc : cl.length ≤ 1048576) (hn : nm.length ≤ 1048576) :
    Calls Tryz.prog 95 #[insV ⟨17, a, b, ty, cl, nm⟩] w fun e w' => e = .returned (.int .i64 (insF ⟨17, a, b, ty, cl, nm⟩ : Int)) ∧ Below w.heap.size w w' := by
  by_cases ho : ((a == 0 || false) && (b == 0 || false) && (ty == [] || false) && (cl == [] || true) && (nm == [] || true)) = false
  · rw [insF_at 17 a b ty cl nm false false false true true (by decide) (by decide) (by decide), if_pos ho]
    exact bad_any (by decide) (by decide) needs_17 ho w
  · obtain rfl : a = 0 := Decidable.byContradiction fun h => ho (by simp [h])
    obtain rfl : b = 0 := Decidable.byContradiction fun h => ho (by simp [h])
    obtain rfl : ty = [] := Decidable.byContradiction fun h => ho (by simp [h])
    exact fault_17 cl nm w hc hn
theorem full_18 (a b : Int) (ty cl nm : List UInt8) (w : World) (ht : ty.length ≤ 1048576) (hc : cl.length ≤ 1048576) (hn : nm.length ≤ 1048576) :
    Calls Tryz.prog 95 #[insV ⟨18, a, b, ty, cl, nm⟩] w fun e w' => e = .returned (.int .i64 (insF ⟨18, a, b, ty, cl, nm⟩ : Int)) ∧ Below w.heap.size w w' := by
  by_cases ho : ((a == 0 || false) && (b == 0 || false) && (ty == [] || true) && (cl == [] || false) && (nm == [] || false)) = false
  · rw [insF_at 18 a b ty cl nm false false true false false (by decide) (by decide) (by decide), if_pos ho]
    exact bad_any (by decide) (by decide) needs_18 ho w
  · obtain rfl : a = 0 := Decidable.byContradiction fun h => ho (by simp [h])
    obtain rfl : b = 0 := Decidable.byContradiction fun h => ho (by simp [h])
    obtain rfl : cl = [] := Decidable.byContradiction fun h => ho (by simp [h])
    obtain rfl : nm = [] := Decidable.byContradiction fun h => ho (by simp [h])
    exact fault_18 ty w ht
theorem full_19 (a b : Int) (ty cl nm : List UInt8) (w : World) (ht : ty.length ≤ 1048576) (hc : cl.length ≤ 1048576) (hn : nm.length ≤ 1048576) :
    Calls Tryz.prog 95 #[insV ⟨19, a, b, ty, cl, nm⟩] w fun e w' => e = .returned (.int .i64 (insF ⟨19, a, b, ty, cl, nm⟩ : Int)) ∧ Below w.heap.size w w' := by
  by_cases ho : ((a == 0 || false) && (b == 0 || false) && (ty == [] || false) && (cl == [] || false) && (nm == [] || false)) = false
  · rw [insF_at 19 a b ty cl nm false false false false false (by decide) (by decide) (by decide), if_pos ho]
    exact bad_any (by decide) (by decide) needs_19 ho w
  · obtain rfl : a = 0 := Decidable.byContradiction fun h => ho (by simp [h])
    obtain rfl : b = 0 := Decidable.byContradiction fun h => ho (by simp [h])
    obtain rfl : ty = [] := Decidable.byContradiction fun h => ho (by simp [h])
    obtain rfl : cl = [] := Decidable.byContradiction fun h => ho (by simp [h])
    obtain rfl : nm = [] := Decidable.byContradiction fun h => ho (by simp [h])
    exact fault_19  w
theorem full_20 (a b : Int) (ty cl nm : List UInt8) (w : World) (ht : ty.length ≤ 1048576) (hc : cl.length ≤ 1048576) (hn : nm.length ≤ 1048576) :
    Calls Tryz.prog 95 #[insV ⟨20, a, b, ty, cl, nm⟩] w fun e w' => e = .returned (.int .i64 (insF ⟨20, a, b, ty, cl, nm⟩ : Int)) ∧ Below w.heap.size w w' := by
  by_cases ho : ((a == 0 || false) && (b == 0 || false) && (ty == [] || true) && (cl == [] || false) && (nm == [] || false)) = false
  · rw [insF_at 20 a b ty cl nm false false true false false (by decide) (by decide) (by decide), if_pos ho]
    exact bad_any (by decide) (by decide) needs_20 ho w
  · obtain rfl : a = 0 := Decidable.byContradiction fun h => ho (by simp [h])
    obtain rfl : b = 0 := Decidable.byContradiction fun h => ho (by simp [h])
    obtain rfl : cl = [] := Decidable.byContradiction fun h => ho (by simp [h])
    obtain rfl : nm = [] := Decidable.byContradiction fun h => ho (by simp [h])
    exact fault_20 ty w ht
theorem full_21 (a b : Int) (ty cl nm : List UInt8) (w : World) (ht : ty.length ≤ 1048576) (hc : cl.length ≤ 1048576) (hn : nm.length ≤ 1048576) :
    Calls Tryz.prog 95 #[insV ⟨21, a, b, ty, cl, nm⟩] w fun e w' => e = .returned (.int .i64 (insF ⟨21, a, b, ty, cl, nm⟩ : Int)) ∧ Below w.heap.size w w' := by
  by_cases ho : ((a == 0 || false) && (b == 0 || false) && (ty == [] || true) && (cl == [] || false) && (nm == [] || false)) = false
  · rw [insF_at 21 a b ty cl nm false false true false false (by decide) (by decide) (by decide), if_pos ho]
    exact bad_any (by decide) (by decide) needs_21 ho w
  · obtain rfl : a = 0 := Decidable.byContradiction fun h => ho (by simp [h])
    obtain rfl : b = 0 := Decidable.byContradiction fun h => ho (by simp [h])
    obtain rfl : cl = [] := Decidable.byContradiction fun h => ho (by simp [h])
    obtain rfl : nm = [] := Decidable.byContradiction fun h => ho (by simp [h])
    exact fault_21 ty w ht
theorem full_22 (a b : Int) (ty cl nm : List UInt8) (w : World) (ht : ty.length ≤ 1048576) (hc : cl.length ≤ 1048576) (hn : nm.length ≤ 1048576) :
    Calls Tryz.prog 95 #[insV ⟨22, a, b, ty, cl, nm⟩] w fun e w' => e = .returned (.int .i64 (insF ⟨22, a, b, ty, cl, nm⟩ : Int)) ∧ Below w.heap.size w w' := by
  by_cases ho : ((a == 0 || false) && (b == 0 || false) && (ty == [] || true) && (cl == [] || false) && (nm == [] || false)) = false
  · rw [insF_at 22 a b ty cl nm false false true false false (by decide) (by decide) (by decide), if_pos ho]
    exact bad_any (by decide) (by decide) needs_22 ho w
  · obtain rfl : a = 0 := Decidable.byContradiction fun h => ho (by simp [h])
    obtain rfl : b = 0 := Decidable.byContradiction fun h => ho (by simp [h])
    obtain rfl : cl = [] := Decidable.byContradiction fun h => ho (by simp [h])
    obtain rfl : nm = [] := Decidable.byContradiction fun h => ho (by simp [h])
    exact fault_22 ty w ht
theorem full_23 (a b : Int) (ty cl nm : List UInt8) (w : World) (ht : ty.length ≤ 1048576) (hc : cl.length ≤ 1048576) (hn : nm.length ≤ 1048576) :
    Calls Tryz.prog 95 #[insV ⟨23, a, b, ty, cl, nm⟩] w fun e w' => e = .returned (.int .i64 (insF ⟨23, a, b, ty, cl, nm⟩ : Int)) ∧ Below w.heap.size w w' := by
  by_cases ho : ((a == 0 || false) && (b == 0 || false) && (ty == [] || true) && (cl == [] || false) && (nm == [] || false)) = false
  · rw [insF_at 23 a b ty cl nm false false true false false (by decide) (by decide) (by decide), if_pos ho]
    exact bad_any (by decide) (by decide) needs_23 ho w
  · obtain rfl : a = 0 := Decidable.byContradiction fun h => ho (by simp [h])
    obtain rfl : b = 0 := Decidable.byContradiction fun h => ho (by simp [h])
    obtain rfl : cl = [] := Decidable.byContradiction fun h => ho (by simp [h])
    obtain rfl : nm = [] := Decidable.byContradiction fun h => ho (by simp [h])
    exact fault_23 ty w ht
theorem full_24 (a b : Int) (ty cl nm : List UInt8) (w : World) (ht : ty.length ≤ 1048576) (hc : cl.length ≤ 1048576) (hn : nm.length ≤ 1048576) :
    Calls Tryz.prog 95 #[insV ⟨24, a, b, ty, cl, nm⟩] w fun e w' => e = .returned (.int .i64 (insF ⟨24, a, b, ty, cl, nm⟩ : Int)) ∧ Below w.heap.size w w' := by
  by_cases ho : ((a == 0 || false) && (b == 0 || false) && (ty == [] || true) && (cl == [] || true) && (nm == [] || true)) = false
  · rw [insF_at 24 a b ty cl nm false false true true true (by decide) (by decide) (by decide), if_pos ho]
    exact bad_any (by decide) (by decide) needs_24 ho w
  · obtain rfl : a = 0 := Decidable.byContradiction fun h => ho (by simp [h])
    obtain rfl : b = 0 := Decidable.byContradiction fun h => ho (by simp [h])
    exact fault_24 ty cl nm w ht hc hn
theorem full_25 (a b : Int) (ty cl nm : List UInt8) (w : World) (ht : ty.length ≤ 1048576) (hc : cl.length ≤ 1048576) (hn : nm.length ≤ 1048576) :
    Calls Tryz.prog 95 #[insV ⟨25, a, b, ty, cl, nm⟩] w fun e w' => e = .returned (.int .i64 (insF ⟨25, a, b, ty, cl, nm⟩ : Int)) ∧ Below w.heap.size w w' := by
  by_cases ho : ((a == 0 || false) && (b == 0 || false) && (ty == [] || true) && (cl == [] || true) && (nm == [] || true)) = false
  · rw [insF_at 25 a b ty cl nm false false true true true (by decide) (by decide) (by decide), if_pos ho]
    exact bad_any (by decide) (by decide) needs_25 ho w
  · obtain rfl : a = 0 := Decidable.byContradiction fun h => ho (by simp [h])
    obtain rfl : b = 0 := Decidable.byContradiction fun h => ho (by simp [h])
    exact fault_25 ty cl nm w ht hc hn
theorem full_26 (a b : Int) (ty cl nm : List UInt8) (w : World) (ht : ty.length ≤ 1048576) (hc : cl.length ≤ 1048576) (hn : nm.length ≤ 1048576) :
    Calls Tryz.prog 95 #[insV ⟨26, a, b, ty, cl, nm⟩] w fun e w' => e = .returned (.int .i64 (insF ⟨26, a, b, ty, cl, nm⟩ : Int)) ∧ Below w.heap.size w w' := by
  by_cases ho : ((a == 0 || false) && (b == 0 || false) && (ty == [] || false) && (cl == [] || false) && (nm == [] || false)) = false
  · rw [insF_at 26 a b ty cl nm false false false false false (by decide) (by decide) (by decide), if_pos ho]
    exact bad_any (by decide) (by decide) needs_26 ho w
  · obtain rfl : a = 0 := Decidable.byContradiction fun h => ho (by simp [h])
    obtain rfl : b = 0 := Decidable.byContradiction fun h => ho (by simp [h])
    obtain rfl : ty = [] := Decidable.byContradiction fun h => ho (by simp [h])
    obtain rfl : cl = [] := Decidable.byContradiction fun h => ho (by simp [h])
    obtain rfl : nm = [] := Decidable.byContradiction fun h => ho (by simp [h])
    exact fault_26  w
theorem full_27 (a b : Int) (ty cl nm : List UInt8) (w : World) (ht : ty.length ≤ 1048576) (hc : cl.length ≤ 1048576) (hn : nm.length ≤ 1048576) :
    Calls Tryz.prog 95 #[insV ⟨27, a, b, ty, cl, nm⟩] w fun e w' => e = .returned (.int .i64 (insF ⟨27, a, b, ty, cl, nm⟩ : Int)) ∧ Below w.heap.size w w' := by
  by_cases ho : ((a == 0 || false) && (b == 0 || false) && (ty == [] || false) && (cl == [] || false) && (nm == [] || false)) = false
  · rw [insF_at 27 a b ty cl nm false false false false false (by decide) (by decide) (by decide), if_pos ho]
    exact bad_any (by decide) (by decide) needs_27 ho w
  · obtain rfl : a = 0 := Decidable.byContradiction fun h => ho (by simp [h])
    obtain rfl : b = 0 := Decidable.byContradiction fun h => ho (by simp [h])
    obtain rfl : ty = [] := Decidable.byContradiction fun h => ho (by simp [h])
    obtain rfl : cl = [] := Decidable.byContradiction fun h => ho (by simp [h])
    obtain rfl : nm = [] := Decidable.byContradiction fun h => ho (by simp [h])
    exact fault_27  w
theorem full_28 (a b : Int) (ty cl nm : List UInt8) (w : World) (ht : ty.length ≤ 1048576) (hc : cl.length ≤ 1048576) (hn : nm.length ≤ 1048576) :
    Calls Tryz.prog 95 #[insV ⟨28, a, b, ty, cl, nm⟩] w fun e w' => e = .returned (.int .i64 (insF ⟨28, a, b, ty, cl, nm⟩ : Int)) ∧ Below w.heap.size w w' := by
  by_cases ho : ((a == 0 || false) && (b == 0 || false) && (ty == [] || false) && (cl == [] || false) && (nm == [] || false)) = false
  · rw [insF_at 28 a b ty cl nm false false false false false (by decide) (by decide) (by decide), if_pos ho]
    exact bad_any (by decide) (by decide) needs_28 ho w
  · obtain rfl : a = 0 := Decidable.byContradiction fun h => ho (by simp [h])
    obtain rfl : b = 0 := Decidable.byContradiction fun h => ho (by simp [h])
    obtain rfl : ty = [] := Decidable.byContradiction fun h => ho (by simp [h])
    obtain rfl : cl = [] := Decidable.byContradiction fun h => ho (by simp [h])
    obtain rfl : nm = [] := Decidable.byContradiction fun h => ho (by simp [h])
    exact fault_28  w
theorem fault_any (x : InsD) (w : World) (ht : x.ty.length ≤ 1048576) (hc : x.cl.length ≤ 1048576) (hn : x.nm.length ≤ 1048576) :
    Calls Tryz.prog 95 #[insV x] w fun e w' => e = .returned (.int .i64 (insF x : Int)) ∧ Below w.heap.size w w' := by
  obtain ⟨op, a, b, ty, cl, nm⟩ := x
  by_cases h : op ≤ 0 ∨ 28 < op
  · rw [fault_low op h a b ty cl nm]
    exact fault_out op h a b ty cl nm w
  · have hc' : op = 1 ∨ op = 2 ∨ op = 3 ∨ op = 4 ∨ op = 5 ∨ op = 6 ∨ op = 7 ∨ op = 8 ∨ op = 9 ∨ op = 10 ∨ op = 11 ∨ op = 12 ∨ op = 13 ∨ op = 14 ∨ op = 15 ∨ op = 16 ∨ op = 17 ∨ op = 18 ∨ op = 19 ∨ op = 20 ∨ op = 21 ∨ op = 22 ∨ op = 23 ∨ op = 24 ∨ op = 25 ∨ op = 26 ∨ op = 27 ∨ op = 28 := by omega
    clear h
    rcases hc' with rfl | rfl | rfl | rfl | rfl | rfl | rfl | rfl | rfl | rfl | rfl | rfl | rfl | rfl | rfl | rfl | rfl | rfl | rfl | rfl | rfl | rfl | rfl | rfl | rfl | rfl | rfl | rfl
    · exact full_1 a b ty cl nm w ht hc hn
    · exact full_2 a b ty cl nm w ht hc hn
    · exact full_3 a b ty cl nm w ht hc hn
    · exact full_4 a b ty cl nm w ht hc hn
    · exact full_5 a b ty cl nm w ht hc hn
    · exact full_6 a b ty cl nm w ht hc hn
    · exact full_7 a b ty cl nm w ht hc hn
    · exact full_8 a b ty cl nm w ht hc hn
    · exact full_9 a b ty cl nm w ht hc hn
    · exact full_10 a b ty cl nm w ht hc hn
    · exact full_11 a b ty cl nm w ht hc hn
    · exact full_12 a b ty cl nm w ht hc hn
    · exact full_13 a b ty cl nm w ht hc hn
    · exact full_14 a b ty cl nm w ht hc hn
    · exact full_15 a b ty cl nm w ht hc hn
    · exact full_16 a b ty cl nm w ht hc hn
    · exact full_17 a b ty cl nm w ht hc hn
    · exact full_18 a b ty cl nm w ht hc hn
    · exact full_19 a b ty cl nm w ht hc hn
    · exact full_20 a b ty cl nm w ht hc hn
    · exact full_21 a b ty cl nm w ht hc hn
    · exact full_22 a b ty cl nm w ht hc hn
    · exact full_23 a b ty cl nm w ht hc hn
    · exact full_24 a b ty cl nm w ht hc hn
    · exact full_25 a b ty cl nm w ht hc hn
    · exact full_26 a b ty cl nm w ht hc hn
    · exact full_27 a b ty cl nm w ht hc hn
    · exact full_28 a b ty cl nm w ht hc hn
end Go.Proofs.YtdpkjmdmmhnfnaaGreatDoor
