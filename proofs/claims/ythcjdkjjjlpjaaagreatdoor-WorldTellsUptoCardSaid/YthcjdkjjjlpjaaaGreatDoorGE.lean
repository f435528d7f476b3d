/- The reference's answer on any instruction. The contracts of the reference's Ends, Jumps and CodeFault. The contracts of the reference's In and HandlersFault. The contract of the reference's methodFault. The contract of the reference's ClassFault. -/
import Derived.Test.YthcjdkjjjlpjaaaGreatDoorGD
import Derived.Test.YthcjdkjjjlpjaaaGreatDoorGH
import Derived.Test.YthcjdkjjjlpjaaaGreatDoorGB
import Derived.Deep.RegionHeld
namespace Go.Proofs.YthcjdkjjjlpjaaaGreatDoor
open Go.ChangeShapes Go.WideShapes Go.ChangeAt Go.RowKit
set_option linter.unusedVariables false
set_option linter.unusedSimpArgs false

theorem fault_out (k : Int) (h : k ≤ 0 ∨ 28 < k) (a b : Int) (ty cl nm : List UInt8) (w : World) :
    Calls Tryz.prog 49 #[insV ⟨k, a, b, ty, cl, nm⟩] w fun e w' => e = .returned (.int .i64 1) ∧ Below w.heap.size w w' := by
  unfold insV
  rcases h with h | h
  · have h1 : k < 1 := by omega
    clear h
    go_enter Tryz.func49, Tryz.ntmps49
    go_wp2
    go_ret
    exact ⟨rfl, al0 _ _⟩
  · have h1 : ¬ k < 1 := by omega
    go_enter Tryz.func49, Tryz.ntmps49
    go_wp2
    go_ret
    exact ⟨rfl, al0 _ _⟩
theorem full_1 (a b : Int) (ty cl nm : List UInt8) (w : World) (ht : ty.length ≤ 1048576) (hc : cl.length ≤ 1048576) (hn : nm.length ≤ 1048576) :
    Calls Tryz.prog 49 #[insV ⟨1, a, b, ty, cl, nm⟩] w fun e w' => e = .returned (.int .i64 (insF ⟨1, a, b, ty, cl, nm⟩ : Int)) ∧ Below w.heap.size w w' := by
  by_cases ho : ((a == 0 || false) && (b == 0 || false) && (ty == [] || false) && (cl == [] || false) && (nm == [] || false)) = false
  · rw [insF_at 1 a b ty cl nm false false false false false (by decide) (by decide) (by decide), if_pos ho]
    exact bad_any (by decide) (by decide) needs_1 ho w
  · obtain rfl : a = 0 := Decidable.byContradiction fun h => ho (by simp [h])
    obtain rfl : b = 0 := Decidable.byContradiction fun h => ho (by simp [h])
    obtain rfl : ty = [] := Decidable.byContradiction fun h => ho (by simp [h])
    obtain rfl : cl = [] := Decidable.byContradiction fun h => ho (by simp [h])
    obtain rfl : nm = [] := Decidable.byContradiction fun h => ho (by simp [h])
    exact fault_1  w
theorem full_2 (a b : Int) (ty cl nm : List UInt8) (w : World) (ht : ty.length ≤ 1048576) (hc : cl.length ≤ 1048576) (hn : nm.length ≤ 1048576) :
    Calls Tryz.prog 49 #[insV ⟨2, a, b, ty, cl, nm⟩] w fun e w' => e = .returned (.int .i64 (insF ⟨2, a, b, ty, cl, nm⟩ : Int)) ∧ Below w.heap.size w w' := by
  by_cases ho : ((a == 0 || true) && (b == 0 || false) && (ty == [] || true) && (cl == [] || false) && (nm == [] || false)) = false
  · rw [insF_at 2 a b ty cl nm true false true false false (by decide) (by decide) (by decide), if_pos ho]
    exact bad_any (by decide) (by decide) needs_2 ho w
  · obtain rfl : b = 0 := Decidable.byContradiction fun h => ho (by simp [h])
    obtain rfl : cl = [] := Decidable.byContradiction fun h => ho (by simp [h])
    obtain rfl : nm = [] := Decidable.byContradiction fun h => ho (by simp [h])
    exact fault_2 a ty w ht
theorem full_3 (a b : Int) (ty cl nm : List UInt8) (w : World) (ht : ty.length ≤ 1048576) (hc : cl.length ≤ 1048576) (hn : nm.length ≤ 1048576) :
    Calls Tryz.prog 49 #[insV ⟨3, a, b, ty, cl, nm⟩] w fun e w' => e = .returned (.int .i64 (insF ⟨3, a, b, ty, cl, nm⟩ : Int)) ∧ Below w.heap.size w w' := by
  by_cases ho : ((a == 0 || false) && (b == 0 || false) && (ty == [] || false) && (cl == [] || false) && (nm == [] || false)) = false
  · rw [insF_at 3 a b ty cl nm false false false false false (by decide) (by decide) (by decide), if_pos ho]
    exact bad_any (by decide) (by decide) needs_3 ho w
  · obtain rfl : a = 0 := Decidable.byContradiction fun h => ho (by simp [h])
    obtain rfl : b = 0 := Decidable.byContradiction fun h => ho (by simp [h])
    obtain rfl : ty = [] := Decidable.byContradiction fun h => ho (by simp [h])
    obtain rfl : cl = [] := Decidable.byContradiction fun h => ho (by simp [h])
    obtain rfl : nm = [] := Decidable.byContradiction fun h => ho (by simp [h])
    exact fault_3  w
theorem full_4 (a b : Int) (ty cl nm : List UInt8) (w : World) (ht : ty.length ≤ 1048576) (hc : cl.length ≤ 1048576) (hn : nm.length ≤ 1048576) :
    Calls Tryz.prog 49 #[insV ⟨4, a, b, ty, cl, nm⟩] w fun e w' => e = .returned (.int .i64 (insF ⟨4, a, b, ty, cl, nm⟩ : Int)) ∧ Below w.heap.size w w' := by
  by_cases ho : ((a == 0 || true) && (b == 0 || false) && (ty == [] || false) && (cl == [] || false) && (nm == [] || false)) = false
  · rw [insF_at 4 a b ty cl nm true false false false false (by decide) (by decide) (by decide), if_pos ho]
    exact bad_any (by decide) (by decide) needs_4 ho w
  · obtain rfl : b = 0 := Decidable.byContradiction fun h => ho (by simp [h])
    obtain rfl : ty = [] := Decidable.byContradiction fun h => ho (by simp [h])
    obtain rfl : cl = [] := Decidable.byContradiction fun h => ho (by simp [h])
    obtain rfl : nm = [] := Decidable.byContradiction fun h => ho (by simp [h])
    exact fault_4 a w
theorem full_5 (a b : Int) (ty cl nm : List UInt8) (w : World) (ht : ty.length ≤ 1048576) (hc : cl.length ≤ 1048576) (hn : nm.length ≤ 1048576) :
    Calls Tryz.prog 49 #[insV ⟨5, a, b, ty, cl, nm⟩] w fun e w' => e = .returned (.int .i64 (insF ⟨5, a, b, ty, cl, nm⟩ : Int)) ∧ Below w.heap.size w w' := by
  by_cases ho : ((a == 0 || true) && (b == 0 || false) && (ty == [] || false) && (cl == [] || false) && (nm == [] || false)) = false
  · rw [insF_at 5 a b ty cl nm true false false false false (by decide) (by decide) (by decide), if_pos ho]
    exact bad_any (by decide) (by decide) needs_5 ho w
  · obtain rfl : b = 0 := Decidable.byContradiction fun h => ho (by simp [h])
    obtain rfl : ty = [] := Decidable.byContradiction fun h => ho (by simp [h])
    obtain rfl : cl = [] := Decidable.byContradiction fun h => ho (by simp [h])
    obtain rfl : nm = [] := Decidable.byContradiction fun h => ho (by simp [h])
    exact fault_5 a w
theorem full_6 (a b : Int) (ty cl nm : List UInt8) (w : World) (ht : ty.length ≤ 1048576) (hc : cl.length ≤ 1048576) (hn : nm.length ≤ 1048576) :
    Calls Tryz.prog 49 #[insV ⟨6, a, b, ty, cl, nm⟩] w fun e w' => e = .returned (.int .i64 (insF ⟨6, a, b, ty, cl, nm⟩ : Int)) ∧ Below w.heap.size w w' := by
  by_cases ho : ((a == 0 || false) && (b == 0 || false) && (ty == [] || false) && (cl == [] || false) && (nm == [] || false)) = false
  · rw [insF_at 6 a b ty cl nm false false false false false (by decide) (by decide) (by decide), if_pos ho]
    exact bad_any (by decide) (by decide) needs_6 ho w
  · obtain rfl : a = 0 := Decidable.byContradiction fun h => ho (by simp [h])
    obtain rfl : b = 0 := Decidable.byContradiction fun h => ho (by simp [h])
    obtain rfl : ty = [] := Decidable.byContradiction fun h => ho (by simp [h])
    obtain rfl : cl = [] := Decidable.byContradiction fun h => ho (by simp [h])
    obtain rfl : nm = [] := Decidable.byContradiction fun h => ho (by simp [h])
    exact fault_6  w
theorem full_7 (a b : Int) (ty cl nm : List UInt8) (w : World) (ht : ty.length ≤ 1048576) (hc : cl.length ≤ 1048576) (hn : nm.length ≤ 1048576) :
    Calls Tryz.prog 49 #[insV ⟨7, a, b, ty, cl, nm⟩] w fun e w' => e = .returned (.int .i64 (insF ⟨7, a, b, ty, cl, nm⟩ : Int)) ∧ Below w.heap.size w w' := by
  by_cases ho : ((a == 0 || false) && (b == 0 || false) && (ty == [] || false) && (cl == [] || false) && (nm == [] || false)) = false
  · rw [insF_at 7 a b ty cl nm false false false false false (by decide) (by decide) (by decide), if_pos ho]
    exact bad_any (by decide) (by decide) needs_7 ho w
  · obtain rfl : a = 0 := Decidable.byContradiction fun h => ho (by simp [h])
    obtain rfl : b = 0 := Decidable.byContradiction fun h => ho (by simp [h])
    obtain rfl : ty = [] := Decidable.byContradiction fun h => ho (by simp [h])
    obtain rfl : cl = [] := Decidable.byContradiction fun h => ho (by simp [h])
    obtain rfl : nm = [] := Decidable.byContradiction fun h => ho (by simp [h])
    exact fault_7  w
theorem full_8 (a b : Int) (ty cl nm : List UInt8) (w : World) (ht : ty.length ≤ 1048576) (hc : cl.length ≤ 1048576) (hn : nm.length ≤ 1048576) :
    Calls Tryz.prog 49 #[insV ⟨8, a, b, ty, cl, nm⟩] w fun e w' => e = .returned (.int .i64 (insF ⟨8, a, b, ty, cl, nm⟩ : Int)) ∧ Below w.heap.size w w' := by
  by_cases ho : ((a == 0 || false) && (b == 0 || false) && (ty == [] || false) && (cl == [] || false) && (nm == [] || false)) = false
  · rw [insF_at 8 a b ty cl nm false false false false false (by decide) (by decide) (by decide), if_pos ho]
    exact bad_any (by decide) (by decide) needs_8 ho w
  · obtain rfl : a = 0 := Decidable.byContradiction fun h => ho (by simp [h])
    obtain rfl : b = 0 := Decidable.byContradiction fun h => ho (by simp [h])
    obtain rfl : ty = [] := Decidable.byContradiction fun h => ho (by simp [h])
    obtain rfl : cl = [] := Decidable.byContradiction fun h => ho (by simp [h])
    obtain rfl : nm = [] := Decidable.byContradiction fun h => ho (by simp [h])
    exact fault_8  w
theorem full_9 (a b : Int) (ty cl nm : List UInt8) (w : World) (ht : ty.length ≤ 1048576) (hc : cl.length ≤ 1048576) (hn : nm.length ≤ 1048576) :
    Calls Tryz.prog 49 #[insV ⟨9, a, b, ty, cl, nm⟩] w fun e w' => e = .returned (.int .i64 (insF ⟨9, a, b, ty, cl, nm⟩ : Int)) ∧ Below w.heap.size w w' := by
  by_cases ho : ((a == 0 || true) && (b == 0 || false) && (ty == [] || true) && (cl == [] || false) && (nm == [] || false)) = false
  · rw [insF_at 9 a b ty cl nm true false true false false (by decide) (by decide) (by decide), if_pos ho]
    exact bad_any (by decide) (by decide) needs_9 ho w
  · obtain rfl : b = 0 := Decidable.byContradiction fun h => ho (by simp [h])
    obtain rfl : cl = [] := Decidable.byContradiction fun h => ho (by simp [h])
    obtain rfl : nm = [] := Decidable.byContradiction fun h => ho (by simp [h])
    exact fault_9 a ty w ht
theorem full_10 (a b : Int) (ty cl nm : List UInt8) (w : World) (ht : ty.length ≤ 1048576) (hc : cl.length ≤ 1048576) (hn : nm.length ≤ 1048576) :
    Calls Tryz.prog 49 #[insV ⟨10, a, b, ty, cl, nm⟩] w fun e w' => e = .returned (.int .i64 (insF ⟨10, a, b, ty, cl, nm⟩ : Int)) ∧ Below w.heap.size w w' := by
  by_cases ho : ((a == 0 || false) && (b == 0 || false) && (ty == [] || true) && (cl == [] || false) && (nm == [] || false)) = false
  · rw [insF_at 10 a b ty cl nm false false true false false (by decide) (by decide) (by decide), if_pos ho]
    exact bad_any (by decide) (by decide) needs_10 ho w
  · obtain rfl : a = 0 := Decidable.byContradiction fun h => ho (by simp [h])
    obtain rfl : b = 0 := Decidable.byContradiction fun h => ho (by simp [h])
    obtain rfl : cl = [] := Decidable.byContradiction fun h => ho (by simp [h])
    obtain rfl : nm = [] := Decidable.byContradiction fun h => ho (by simp [h])
    exact fault_10 ty w ht
theorem full_11 (a b : Int) (ty cl nm : List UInt8) (w : World) (ht : ty.length ≤ 1048576) (hc : cl.length ≤ 1048576) (hn : nm.length ≤ 1048576) :
    Calls Tryz.prog 49 #[insV ⟨11, a, b, ty, cl, nm⟩] w fun e w' => e = .returned (.int .i64 (insF ⟨11, a, b, ty, cl, nm⟩ : Int)) ∧ Below w.heap.size w w' := by
  by_cases ho : ((a == 0 || false) && (b == 0 || false) && (ty == [] || false) && (cl == [] || false) && (nm == [] || false)) = false
  · rw [insF_at 11 a b ty cl nm false false false false false (by decide) (by decide) (by decide), if_pos ho]
    exact bad_any (by decide) (by decide) needs_11 ho w
  · obtain rfl : a = 0 := Decidable.byContradiction fun h => ho (by simp [h])
    obtain rfl : b = 0 := Decidable.byContradiction fun h => ho (by simp [h])
    obtain rfl : ty = [] := Decidable.byContradiction fun h => ho (by simp [h])
    obtain rfl : cl = [] := Decidable.byContradiction fun h => ho (by simp [h])
    obtain rfl : nm = [] := Decidable.byContradiction fun h => ho (by simp [h])
    exact fault_11  w
theorem full_12 (a b : Int) (ty cl nm : List UInt8) (w : World) (ht : ty.length ≤ 1048576) (hc : cl.length ≤ 1048576) (hn : nm.length ≤ 1048576) :
    Calls Tryz.prog 49 #[insV ⟨12, a, b, ty, cl, nm⟩] w fun e w' => e = .returned (.int .i64 (insF ⟨12, a, b, ty, cl, nm⟩ : Int)) ∧ Below w.heap.size w w' := by
  by_cases ho : ((a == 0 || true) && (b == 0 || true) && (ty == [] || false) && (cl == [] || false) && (nm == [] || false)) = false
  · rw [insF_at 12 a b ty cl nm true true false false false (by decide) (by decide) (by decide), if_pos ho]
    exact bad_any (by decide) (by decide) needs_12 ho w
  · obtain rfl : ty = [] := Decidable.byContradiction fun h => ho (by simp [h])
    obtain rfl : cl = [] := Decidable.byContradiction fun h => ho (by simp [h])
    obtain rfl : nm = [] := Decidable.byContradiction fun h => ho (by simp [h])
    exact fault_12 a b w
theorem full_13 (a b : Int) (ty cl nm : List UInt8) (w : World) (ht : ty.length ≤ 1048576) (hc : cl.length ≤ 1048576) (hn : nm.length ≤ 1048576) :
    Calls Tryz.prog 49 #[insV ⟨13, a, b, ty, cl, nm⟩] w fun e w' => e = .returned (.int .i64 (insF ⟨13, a, b, ty, cl, nm⟩ : Int)) ∧ Below w.heap.size w w' := by
  by_cases ho : ((a == 0 || true) && (b == 0 || false) && (ty == [] || false) && (cl == [] || false) && (nm == [] || false)) = false
  · rw [insF_at 13 a b ty cl nm true false false false false (by decide) (by decide) (by decide), if_pos ho]
    exact bad_any (by decide) (by decide) needs_13 ho w
  · obtain rfl : b = 0 := Decidable.byContradiction fun h => ho (by simp [h])
    obtain rfl : ty = [] := Decidable.byContradiction fun h => ho (by simp [h])
    obtain rfl : cl = [] := Decidable.byContradiction fun h => ho (by simp [h])
    obtain rfl : nm = [] := Decidable.byContradiction fun h => ho (by simp [h])
    exact fault_13 a w
theorem full_14 (a b : Int) (ty cl nm : List UInt8) (w : World) (ht : ty.length ≤ 1048576) (hc : cl.length ≤ 1048576) (hn : nm.length ≤ 1048576) :
    Calls Tryz.prog 49 #[insV ⟨14, a, b, ty, cl, nm⟩] w fun e w' => e = .returned (.int .i64 (insF ⟨14, a, b, ty, cl, nm⟩ : Int)) ∧ Below w.heap.size w w' := by
  by_cases ho : ((a == 0 || true) && (b == 0 || false) && (ty == [] || false) && (cl == [] || false) && (nm == [] || false)) = false
  · rw [insF_at 14 a b ty cl nm true false false false false (by decide) (by decide) (by decide), if_pos ho]
    exact bad_any (by decide) (by decide) needs_14 ho w
  · obtain rfl : b = 0 := Decidable.byContradiction fun h => ho (by simp [h])
    obtain rfl : ty = [] := Decidable.byContradiction fun h => ho (by simp [h])
    obtain rfl : cl = [] := Decidable.byContradiction fun h => ho (by simp [h])
    obtain rfl : nm = [] := Decidable.byContradiction fun h => ho (by simp [h])
    exact fault_14 a w
theorem full_15 (a b : Int) (ty cl nm : List UInt8) (w : World) (ht : ty.length ≤ 1048576) (hc : cl.length ≤ 1048576) (hn : nm.length ≤ 1048576) :
    Calls Tryz.prog 49 #[insV ⟨15, a, b, ty, cl, nm⟩] w fun e w' => e = .returned (.int .i64 (insF ⟨15, a, b, ty, cl, nm⟩ : Int)) ∧ Below w.heap.size w w' := by
  by_cases ho : ((a == 0 || false) && (b == 0 || false) && (ty == [] || false) && (cl == [] || true) && (nm == [] || false)) = false
  · rw [insF_at 15 a b ty cl nm false false false true false (by decide) (by decide) (by decide), if_pos ho]
    exact bad_any (by decide) (by decide) needs_15 ho w
  · obtain rfl : a = 0 := Decidable.byContradiction fun h => ho (by simp [h])
    obtain rfl : b = 0 := Decidable.byContradiction fun h => ho (by simp [h])
    obtain rfl : ty = [] := Decidable.byContradiction fun h => ho (by simp [h])
    obtain rfl : nm = [] := Decidable.byContradiction fun h => ho (by simp [h])
    exact fault_15 cl w hc
theorem full_16 (a b : Int) (ty cl nm : List UInt8) (w : World) (ht : ty.length ≤ 1048576) (hc : cl.length ≤ 1048576) (hn : nm.length ≤ 1048576) :
    Calls Tryz.prog 49 #[insV ⟨16, a, b, ty, cl, nm⟩] w fun e w' => e = .returned (.int .i64 (insF ⟨16, a, b, ty, cl, nm⟩ : Int)) ∧ Below w.heap.size w w' := by
  by_cases ho : ((a == 0 || false) && (b == 0 || false) && (ty == [] || false) && (cl == [] || true) && (nm == [] || true)) = false
  · rw [insF_at 16 a b ty cl nm false false false true true (by decide) (by decide) (by decide), if_pos ho]
    exact bad_any (by decide) (by decide) needs_16 ho w
  · obtain rfl : a = 0 := Decidable.byContradiction fun h => ho (by simp [h])
    obtain rfl : b = 0 := Decidable.byContradiction fun h => ho (by simp [h])
    obtain rfl : ty = [] := Decidable.byContradiction fun h => ho (by simp [h])
    exact fault_16 cl nm w hc hn
theorem full_17 (a b : Int) (ty cl nm : List UInt8) (w : World) (ht : ty.length ≤ 1048576) (hc : cl.length ≤ 1048576) (hn : nm.length ≤ 1048576) :
    Calls Tryz.prog 49 #[insV ⟨17, a, b, ty, cl, nm⟩] w fun e w' => e = .returned (.int .i64 (insF ⟨17, a, b, ty, cl, nm⟩ : Int)) ∧ Below w.heap.size w w' := by
  by_cases ho : ((a == 0 || false) && (b == 0 || false) && (ty == [] || false) && (cl == [] || true) && (nm == [] || true)) = false
  · rw [insF_at 17 a b ty cl nm false false false true true (by decide) (by decide) (by decide), if_pos ho]
    exact bad_any (by decide) (by decide) needs_17 ho w
  · obtain rfl : a = 0 := Decidable.byContradiction fun h => ho (by simp [h])
    obtain rfl : b = 0 := Decidable.byContradiction fun h => ho (by simp [h])
    obtain rfl : ty = [] := Decidable.byContradiction fun h => ho (by simp [h])
    exact fault_17 cl nm w hc hn
theorem full_18 (a b : Int) (ty cl nm : List UInt8) (w : World) (ht : ty.length ≤ 1048576) (hc : cl.length ≤ 1048576) (hn : nm.length ≤ 1048576) :
    Calls Tryz.prog 49 #[insV ⟨18, a, b, ty, cl, nm⟩] w fun e w' => e = .returned (.int .i64 (insF ⟨18, a, b, ty, cl, nm⟩ : Int)) ∧ Below w.heap.size w w' := by
  by_cases ho : ((a == 0 || false) && (b == 0 || false) && (ty == [] || true) && (cl == [] || false) && (nm == [] || false)) = false
  · rw [insF_at 18 a b ty cl nm false false true false false (by decide) (by decide) (by decide), if_pos ho]
    exact bad_any (by decide) (by decide) needs_18 ho w
  · obtain rfl : a = 0 := Decidable.byContradiction fun h => ho (by simp [h])
    obtain rfl : b = 0 := Decidable.byContradiction fun h => ho (by simp [h])
    obtain rfl : cl = [] := Decidable.byContradiction fun h => ho (by simp [h])
    obtain rfl : nm = [] := Decidable.byContradiction fun h => ho (by simp [h])
    exact fault_18 ty w ht
theorem full_19 (a b : Int) (ty cl nm : List UInt8) (w : World) (ht : ty.length ≤ 1048576) (hc : cl.length ≤ 1048576) (hn : nm.length ≤ 1048576) :
    Calls Tryz.prog 49 #[insV ⟨19, a, b, ty, cl, nm⟩] w fun e w' => e = .returned (.int .i64 (insF ⟨19, a, b, ty, cl, nm⟩ : Int)) ∧ Below w.heap.size w w' := by
  by_cases ho : ((a == 0 || false) && (b == 0 || false) && (ty == [] || false) && (cl == [] || false) && (nm == [] || false)) = false
  · rw [insF_at 19 a b ty cl nm false false false false false (by decide) (by decide) (by decide), if_pos ho]
    exact bad_any (by decide) (by decide) needs_19 ho w
  · obtain rfl : a = 0 := Decidable.byContradiction fun h => ho (by simp [h])
    obtain rfl : b = 0 := Decidable.byContradiction fun h => ho (by simp [h])
    obtain rfl : ty = [] := Decidable.byContradiction fun h => ho (by simp [h])
    obtain rfl : cl = [] := Decidable.byContradiction fun h => ho (by simp [h])
    obtain rfl : nm = [] := Decidable.byContradiction fun h => ho (by simp [h])
    exact fault_19  w
theorem full_20 (a b : Int) (ty cl nm : List UInt8) (w : World) (ht : ty.length ≤ 1048576) (hc : cl.length ≤ 1048576) (hn : nm.length ≤ 1048576) :
    Calls Tryz.prog 49 #[insV ⟨20, a, b, ty, cl, nm⟩] w fun e w' => e = .returned (.int .i64 (insF ⟨20, a, b, ty, cl, nm⟩ : Int)) ∧ Below w.heap.size w w' := by
  by_cases ho : ((a == 0 || false) && (b == 0 || false) && (ty == [] || true) && (cl == [] || false) && (nm == [] || false)) = false
  · rw [insF_at 20 a b ty cl nm false false true false false (by decide) (by decide) (by decide), if_pos ho]
    exact bad_any (by decide) (by decide) needs_20 ho w
  · obtain rfl : a = 0 := Decidable.byContradiction fun h => ho (by simp [h])
    obtain rfl : b = 0 := Decidable.byContradiction fun h => ho (by simp [h])
    obtain rfl : cl = [] := Decidable.byContradiction fun h => ho (by simp [h])
    obtain rfl : nm = [] := Decidable.byContradiction fun h => ho (by simp [h])
    exact fault_20 ty w ht
theorem full_21 (a b : Int) (ty cl nm : List UInt8) (w : World) (ht : ty.length ≤ 1048576) (hc : cl.length ≤ 1048576) (hn : nm.length ≤ 1048576) :
    Calls Tryz.prog 49 #[insV ⟨21, a, b, ty, cl, nm⟩] w fun e w' => e = .returned (.int .i64 (insF ⟨21, a, b, ty, cl, nm⟩ : Int)) ∧ Below w.heap.size w w' := by
  by_cases ho : ((a == 0 || false) && (b == 0 || false) && (ty == [] || true) && (cl == [] || false) && (nm == [] || false)) = false
  · rw [insF_at 21 a b ty cl nm false false true false false (by decide) (by decide) (by decide), if_pos ho]
    exact bad_any (by decide) (by decide) needs_21 ho w
  · obtain rfl : a = 0 := Decidable.byContradiction fun h => ho (by simp [h])
    obtain rfl : b = 0 := Decidable.byContradiction fun h => ho (by simp [h])
    obtain rfl : cl = [] := Decidable.byContradiction fun h => ho (by simp [h])
    obtain rfl : nm = [] := Decidable.byContradiction fun h => ho (by simp [h])
    exact fault_21 ty w ht
theorem full_22 (a b : Int) (ty cl nm : List UInt8) (w : World) (ht : ty.length ≤ 1048576) (hc : cl.length ≤ 1048576) (hn : nm.length ≤ 1048576) :
    Calls Tryz.prog 49 #[insV ⟨22, a, b, ty, cl, nm⟩] w fun e w' => e = .returned (.int .i64 (insF ⟨22, a, b, ty, cl, nm⟩ : Int)) ∧ Below w.heap.size w w' := by
  by_cases ho : ((a == 0 || false) && (b == 0 || false) && (ty == [] || true) && (cl == [] || false) && (nm == [] || false)) = false
  · rw [insF_at 22 a b ty cl nm false false true false false (by decide) (by decide) (by decide), if_pos ho]
    exact bad_any (by decide) (by decide) needs_22 ho w
  · obtain rfl : a = 0 := Decidable.byContradiction fun h => ho (by simp [h])
    obtain rfl : b = 0 := Decidable.byContradiction fun h => ho (by simp [h])
    obtain rfl : cl = [] := Decidable.byContradiction fun h => ho (by simp [h])
    obtain rfl : nm = [] := Decidable.byContradiction fun h => ho (by simp [h])
    exact fault_22 ty w ht
theorem full_23 (a b : Int) (ty cl nm : List UInt8) (w : World) (ht : ty.length ≤ 1048576) (hc : cl.length ≤ 1048576) (hn : nm.length ≤ 1048576) :
    Calls Tryz.prog 49 #[insV ⟨23, a, b, ty, cl, nm⟩] w fun e w' => e = .returned (.int .i64 (insF ⟨23, a, b, ty, cl, nm⟩ : Int)) ∧ Below w.heap.size w w' := by
  by_cases ho : ((a == 0 || false) && (b == 0 || false) && (ty == [] || true) && (cl == [] || false) && (nm == [] || false)) = false
  · rw [insF_at 23 a b ty cl nm false false true false false (by decide) (by decide) (by decide), if_pos ho]
    exact bad_any (by decide) (by decide) needs_23 ho w
  · obtain rfl : a = 0 := Decidable.byContradiction fun h => ho (by simp [h])
    obtain rfl : b = 0 := Decidable.byContradiction fun h => ho (by simp [h])
    obtain rfl : cl = [] := Decidable.byContradiction fun h => ho (by simp [h])
    obtain rfl : nm = [] := Decidable.byContradiction fun h => ho (by simp [h])
    exact fault_23 ty w ht
theorem full_24 (a b : Int) (ty cl nm : List UInt8) (w : World) (ht : ty.length ≤ 1048576) (hc : cl.length ≤ 1048576) (hn : nm.length ≤ 1048576) :
    Calls Tryz.prog 49 #[insV ⟨24, a, b, ty, cl, nm⟩] w fun e w' => e = .returned (.int .i64 (insF ⟨24, a, b, ty, cl, nm⟩ : Int)) ∧ Below w.heap.size w w' := by
  by_cases ho : ((a == 0 || false) && (b == 0 || false) && (ty == [] || true) && (cl == [] || true) && (nm == [] || true)) = false
  · rw [insF_at 24 a b ty cl nm false false true true true (by decide) (by decide) (by decide), if_pos ho]
    exact bad_any (by decide) (by decide) needs_24 ho w
  · obtain rfl : a = 0 := Decidable.byContradiction fun h => ho (by simp [h])
    obtain rfl : b = 0 := Decidable.byContradiction fun h => ho (by simp [h])
    exact fault_24 ty cl nm w ht hc hn
theorem full_25 (a b : Int) (ty cl nm : List UInt8) (w : World) (ht : ty.length ≤ 1048576) (hc : cl.length ≤ 1048576) (hn : nm.length ≤ 1048576) :
    Calls Tryz.prog 49 #[insV ⟨25, a, b, ty, cl, nm⟩] w fun e w' => e = .returned (.int .i64 (insF ⟨25, a, b, ty, cl, nm⟩ : Int)) ∧ Below w.heap.size w w' := by
  by_cases ho : ((a == 0 || false) && (b == 0 || false) && (ty == [] || true) && (cl == [] || true) && (nm == [] || true)) = false
  · rw [insF_at 25 a b ty cl nm false false true true true (by decide) (by decide) (by decide), if_pos ho]
    exact bad_any (by decide) (by decide) needs_25 ho w
  · obtain rfl : a = 0 := Decidable.byContradiction fun h => ho (by simp [h])
    obtain rfl : b = 0 := Decidable.byContradiction fun h => ho (by simp [h])
    exact fault_25 ty cl nm w ht hc hn
theorem full_26 (a b : Int) (ty cl nm : List UInt8) (w : World) (ht : ty.length ≤ 1048576) (hc : cl.length ≤ 1048576) (hn : nm.length ≤ 1048576) :
    Calls Tryz.prog 49 #[insV ⟨26, a, b, ty, cl, nm⟩] w fun e w' => e = .returned (.int .i64 (insF ⟨26, a, b, ty, cl, nm⟩ : Int)) ∧ Below w.heap.size w w' := by
  by_cases ho : ((a == 0 || false) && (b == 0 || false) && (ty == [] || false) && (cl == [] || false) && (nm == [] || false)) = false
  · rw [insF_at 26 a b ty cl nm false false false false false (by decide) (by decide) (by decide), if_pos ho]
    exact bad_any (by decide) (by decide) needs_26 ho w
  · obtain rfl : a = 0 := Decidable.byContradiction fun h => ho (by simp [h])
    obtain rfl : b = 0 := Decidable.byContradiction fun h => ho (by simp [h])
    obtain rfl : ty = [] := Decidable.byContradiction fun h => ho (by simp [h])
    obtain rfl : cl = [] := Decidable.byContradiction fun h => ho (by simp [h])
    obtain rfl : nm = [] := Decidable.byContradiction fun h => ho (by simp [h])
    exact fault_26  w
theorem full_27 (a b : Int) (ty cl nm : List UInt8) (w : World) (ht : ty.length ≤ 1048576) (hc : cl.length ≤ 1048576) (hn : nm.length ≤ 1048576) :
    Calls Tryz.prog 49 #[insV ⟨27, a, b, ty, cl, nm⟩] w fun e w' => e = .returned (.int .i64 (insF ⟨27, a, b, ty, cl, nm⟩ : Int)) ∧ Below w.heap.size w w' := by
  by_cases ho : ((a == 0 || false) && (b == 0 || false) && (ty == [] || false) && (cl == [] || false) && (nm == [] || false)) = false
  · rw [insF_at 27 a b ty cl nm false false false false false (by decide) (by decide) (by decide), if_pos ho]
    exact bad_any (by decide) (by decide) needs_27 ho w
  · obtain rfl : a = 0 := Decidable.byContradiction fun h => ho (by simp [h])
    obtain rfl : b = 0 := Decidable.byContradiction fun h => ho (by simp [h])
    obtain rfl : ty = [] := Decidable.byContradiction fun h => ho (by simp [h])
    obtain rfl : cl = [] := Decidable.byContradiction fun h => ho (by simp [h])
    obtain rfl : nm = [] := Decidable.byContradiction fun h => ho (by simp [h])
    exact fault_27  w
theorem full_28 (a b : Int) (ty cl nm : List UInt8) (w : World) (ht : ty.length ≤ 1048576) (hc : cl.length ≤ 1048576) (hn : nm.length ≤ 1048576) :
    Calls Tryz.prog 49 #[insV ⟨28, a, b, ty, cl, nm⟩] w fun e w' => e = .returned (.int .i64 (insF ⟨28, a, b, ty, cl, nm⟩ : Int)) ∧ Below w.heap.size w w' := by
  by_cases ho : ((a == 0 || false) && (b == 0 || false) && (ty == [] || false) && (cl == [] || false) && (nm == [] || false)) = false
  · rw [insF_at 28 a b ty cl nm false false false false false (by decide) (by decide) (by decide), if_pos ho]
    exact bad_any (by decide) (by decide) needs_28 ho w
  · obtain rfl : a = 0 := Decidable.byContradiction fun h => ho (by simp [h])
    obtain rfl : b = 0 := Decidable.byContradiction fun h => ho (by simp [h])
    obtain rfl : ty = [] := Decidable.byContradiction fun h => ho (by simp [h])
    obtain rfl : cl = [] := Decidable.byContradiction fun h => ho (by simp [h])
    obtain rfl : nm = [] := Decidable.byContradiction fun h => ho (by simp [h])
    exact fault_28  w
theorem fault_any (x : InsD) (w : World) (ht : x.ty.length ≤ 1048576) (hc : x.cl.length ≤ 1048576) (hn : x.nm.length ≤ 1048576) :
    Calls Tryz.prog 49 #[insV x] w fun e w' => e = .returned (.int .i64 (insF x : Int)) ∧ Below w.heap.size w w' := by
  obtain ⟨op, a, b, ty, cl, nm⟩ := x
  by_cases h : op ≤ 0 ∨ 28 < op
  · rw [fault_low op h a b ty cl nm]
    exact fault_out op h a b ty cl nm w
  · have hc' : op = 1 ∨ op = 2 ∨ op = 3 ∨ op = 4 ∨ op = 5 ∨ op = 6 ∨ op = 7 ∨ op = 8 ∨ op = 9 ∨ op = 10 ∨ op = 11 ∨ op = 12 ∨ op = 13 ∨ op = 14 ∨ op = 15 ∨ op = 16 ∨ op = 17 ∨ op = 18 ∨ op = 19 ∨ op = 20 ∨ op = 21 ∨ op = 22 ∨ op = 23 ∨ op = 24 ∨ op = 25 ∨ op = 26 ∨ op = 27 ∨ op = 28 := by omega
    clear h
    rcases hc' with rfl | rfl | rfl | rfl | rfl | rfl | rfl | rfl | rfl | rfl | rfl | rfl | rfl | rfl | rfl | rfl | rfl | rfl | rfl | rfl | rfl | rfl | rfl | rfl | rfl | rfl | rfl | rfl
    · exact full_1 a b ty cl nm w ht hc hn
    · exact full_2 a b ty cl nm w ht hc hn
    · exact full_3 a b ty cl nm w ht hc hn
    · exact full_4 a b ty cl nm w ht hc hn
    · exact full_5 a b ty cl nm w ht hc hn
    · exact full_6 a b ty cl nm w ht hc hn
    · exact full_7 a b ty cl nm w ht hc hn
    · exact full_8 a b ty cl nm w ht hc hn
    · exact full_9 a b ty cl nm w ht hc hn
    · exact full_10 a b ty cl nm w ht hc hn
    · exact full_11 a b ty cl nm w ht hc hn
    · exact full_12 a b ty cl nm w ht hc hn
    · exact full_13 a b ty cl nm w ht hc hn
    · exact full_14 a b ty cl nm w ht hc hn
    · exact full_15 a b ty cl nm w ht hc hn
    · exact full_16 a b ty cl nm w ht hc hn
    · exact full_17 a b ty cl nm w ht hc hn
    · exact full_18 a b ty cl nm w ht hc hn
    · exact full_19 a b ty cl nm w ht hc hn
    · exact full_20 a b ty cl nm w ht hc hn
    · exact full_21 a b ty cl nm w ht hc hn
    · exact full_22 a b ty cl nm w ht hc hn
    · exact full_23 a b ty cl nm w ht hc hn
    · exact full_24 a b ty cl nm w ht hc hn
    · exact full_25 a b ty cl nm w ht hc hn
    · exact full_26 a b ty cl nm w ht hc hn
    · exact full_27 a b ty cl nm w ht hc hn
    · exact full_28 a b ty cl nm w ht hc hn
end Go.Proofs.YthcjdkjjjlpjaaaGreatDoor
namespace Go.Proofs.YthcjdkjjjlpjaaaGreatDoor
open Go.ChangeShapes Go.WideShapes Go.ChangeAt Go.RowKit
set_option linter.unusedVariables false
attribute [local go_sem] eqGuard_errV_nil eqGuard_errV_iface eql_errV_nil neq_errV_nil eql_errV_form

theorem rends_any (op : Int) (w : World) : Calls Tryz.prog 51 #[.int .i64 op] w fun e w' => e = .returned (.bool (!goesB op)) ∧ w = w' := by
  have hcase : op = 14 ∨ op = 26 ∨ op = 27 ∨ op = 28 ∨ (¬ op = 14 ∧ ¬ op = 26 ∧ ¬ op = 27 ∧ ¬ op = 28) := by omega
  rcases hcase with rfl | rfl | rfl | rfl | ⟨h1, h2, h3, h4⟩
  iterate 4
    · go_enter Tryz.func51, Tryz.ntmps51
      go_wp2
      go_ret
      exact ⟨rfl, rfl⟩
  · have hg : (!goesB op) = false := by simp [goesB, h1, h2, h3, h4]
    have e1 : (op == 14) = false := by simpa using h1
    have e2 : (op == 26) = false := by simpa using h2
    have e3 : (op == 27) = false := by simpa using h3
    have e4 : (op == 28) = false := by simpa using h4
    rw [hg]
    clear h1 h2 h3 h4 hg
    go_enter Tryz.func51, Tryz.ntmps51
    go_wp2
    go_ret
    exact ⟨rfl, rfl⟩
theorem rjumps_any (op : Int) (w : World) : Calls Tryz.prog 50 #[.int .i64 op] w fun e w' => e = .returned (.bool (jumpB op)) ∧ w = w' := jumps_any op w

def InsD.small (x : InsD) : Prop := x.ty.length ≤ 1048576 ∧ x.cl.length ≤ 1048576 ∧ x.nm.length ≤ 1048576
set_option maxRecDepth 20000 in
set_option maxHeartbeats 4000000 in
theorem rfault_any (l : List InsD) (A : Option Addr) (n c : Nat) (w : World) (R : InsRow w A n c l) (hs : ∀ x ∈ l, x.small) (hn : n ≤ 1048576) :
    Calls Tryz.prog 41 #[.slice A n c] w fun e w' => e = .returned (.int .i64 (flowF l : Int)) ∧ Below w.heap.size w w' := by
  have hl : l.length = n := R.1
  by_cases h40 : 40 < n
  · have HC := Lib.hid (flowF_full (l := l) (by omega))
    clear hl
    go_enter Tryz.func41, Tryz.ntmps41
    go_wp2
    go_ret
    exact ⟨ret_int (by rw [HC.out]; rfl), Below.refl _ _⟩
  · have HL := Lib.hid hl
    have HR := Lib.hid R
    have HS := Lib.hid hs
    have H40 := Lib.hid (show ¬ 40 < l.length by omega)
    clear hl R hs
    go_enter Tryz.func41, Tryz.ntmps41
    go_wp2_with fail
    go_loopw [3, 4] (fun i _ wr => ∃ j : Nat, j ≤ n ∧ i = .int .i64 j ∧ Hid (∀ x ∈ l.take j, insF x = 0) ∧ Hid (Below w.heap.size w wr)) (fun i _ _ => n - (intOf i).toNat)
    case atStart => exact ⟨0, Nat.zero_le _, rfl, Lib.hid (fun x hx => by cases hx), Lib.hid (Below.refl _ _)⟩
    case round =>
      obtain ⟨j, hj, rfl, HG, HB⟩ := hrel
      by_cases hlt : j < n
      · obtain ⟨b1, o1, rfl, hb1, hx1⟩ := (HR.out.below HB.out).at_ hlt
        have hj1 : j < l.length := by rw [HL.out]; exact hlt
        have hfx := HS.out l[j] (List.getElem_mem _)
        have HX := fun w => fault_any l[j] w hfx.1 hfx.2.1 hfx.2.2
        clear hfx
        by_cases h0 : insF l[j] = 0
        · have HG2 := Lib.hid (take_next hj1 HG.out h0)
          rw [h0] at HX
          clear h0
          generalize l[j] = x at *
          obtain ⟨xo, xa, xb, xt, xc, xn⟩ := x
          obtain ⟨c0, c1, c2, c3, c4, c5⟩ := hx1
          unfold insV at HX
          replace HX := Lib.hid HX
          go_wp2_with (first
            | (go_at_call 49; (with_reducible refine (HX.out _).mono ?_); rintro e w1 ⟨rfl, b1⟩
               have HB1 := Lib.hid (bnext HB.out b1)
               clear b1))
          go_round
          case rel => exact ⟨j + 1, by omega, by go_num, HG2, HB1⟩
          case measure => first | (simp [intOf]; omega) | simp [intOf]
        · have HC := Lib.hid (flowF_bad H40.out hj1 HG.out h0)
          have hne : ((insF l[j] : Int) != 0) = true := by rw [bne_iff_ne]; omega
          clear h0
          generalize insF l[j] = f at *
          generalize l[j] = x at *
          obtain ⟨xo, xa, xb, xt, xc, xn⟩ := x
          obtain ⟨c0, c1, c2, c3, c4, c5⟩ := hx1
          unfold insV at HX
          replace HX := Lib.hid HX
          go_wp2_with (first
            | (go_at_call 49; (with_reducible refine (HX.out _).mono ?_); rintro e w1 ⟨rfl, b1⟩
               have HB1 := Lib.hid (bnext HB.out b1)
               clear b1))
          go_ret
          exact ⟨ret_int (by rw [HC.out]), HB1.out⟩
      · obtain rfl : j = n := by omega
        have HG0 := HG.out
        rw [List.take_of_length_le (by rw [HL.out]; exact Nat.le_refl _)] at HG0
        replace HG0 := Lib.hid HG0
        clear HG hlt hj
        go_wp2_with fail
        go_loopw [5] (fun i wr => ∃ k : Nat, k ≤ j ∧ i = .int .i64 k ∧ Hid (∀ x ∈ l.take k, farB j x = false) ∧ Hid (Below w.heap.size w wr)) (fun i _ => j - (intOf i).toNat)
        case atStart => exact ⟨0, Nat.zero_le _, rfl, Lib.hid (fun x hx => by cases hx), HB⟩
        case round =>
          obtain ⟨k, hk, rfl, HG, HB⟩ := hrel
          by_cases hlt : k < j
          · obtain ⟨b1, o1, rfl, hb1, hx1⟩ := (HR.out.below HB.out).at_ hlt
            have hj1 : k < l.length := by rw [HL.out]; exact hlt
            have HJ := fun w => rjumps_any l[k].op w
            have HFar := Lib.hid (show farB l.length l[k] = true → flowF l = 2 from fun h => flowF_far H40.out HG0.out hj1 h)
            have HG2 := Lib.hid (show farB j l[k] = false → _ from fun h => take_next hj1 HG.out h)
            rw [HL.out] at HFar
            unfold farB at HFar
            generalize l[k] = x at *
            obtain ⟨xo, xa, xb, xt, xc, xn⟩ := x
            obtain ⟨c0, c1, c2, c3, c4, c5⟩ := hx1
            have hcase : (jumpB xo = false ∧ Hid (∀ x ∈ l.take (k + 1), farB j x = false)) ∨ (jumpB xo = true ∧ ¬ (j : Int) ≤ xa ∧ Hid (∀ x ∈ l.take (k + 1), farB j x = false)) ∨ (jumpB xo = true ∧ (j : Int) ≤ xa ∧ Hid (flowF l = 2)) := by
              cases hjb : jumpB xo with
              | false => exact .inl ⟨rfl, Lib.hid (HG2.out (by simp [farB, hjb]))⟩
              | true =>
                by_cases hna : (j : Int) ≤ xa
                · exact .inr (.inr ⟨rfl, hna, Lib.hid (HFar.out (by simp [hjb, hna]))⟩)
                · exact .inr (.inl ⟨rfl, hna, Lib.hid (HG2.out (by simp [farB, hjb, hna]))⟩)
            clear HFar HG2
            rcases hcase with ⟨hjb, HH⟩ | ⟨hjb, hna, HH⟩ | ⟨hjb, hna, HH⟩
            all_goals
              simp only [hjb] at HJ
              replace HJ := Lib.hid HJ
            · go_wp2_with (first
                | (go_at_call 50; (with_reducible refine (HJ.out _).mono ?_); rintro e w1 ⟨rfl, rfl⟩))
              go_round
              case rel => exact ⟨k + 1, by omega, by go_num, HH, HB⟩
              case measure => first | (simp [intOf]; omega) | simp [intOf]
            · go_wp2_with (first
                | (go_at_call 50; (with_reducible refine (HJ.out _).mono ?_); rintro e w1 ⟨rfl, rfl⟩))
              go_round
              case rel => exact ⟨k + 1, by omega, by go_num, HH, HB⟩
              case measure => first | (simp [intOf]; omega) | simp [intOf]
            · go_wp2_with (first
                | (go_at_call 50; (with_reducible refine (HJ.out _).mono ?_); rintro e w1 ⟨rfl, rfl⟩))
              go_ret
              exact ⟨ret_int (by rw [HH.out]; rfl), HB.out⟩
          · obtain rfl : k = j := by omega
            have HE := flowF_last H40.out HG0.out (by
              have h := HG.out
              rw [List.take_of_length_le (by rw [HL.out]; exact Nat.le_refl _)] at h
              rw [HL.out]; exact h)
            replace HE := Lib.hid HE
            clear HG
            by_cases h0 : k = 0
            · have hz : ((k : Int) == 0) = true := by simp [h0]
              have HZ := Lib.hid (show lastGoesB l = true by unfold lastGoesB; rw [HL.out, h0]; rfl)
              go_wp2
              go_ret
              exact ⟨ret_int (by rw [HE.out, HZ.out]; rfl), HB.out⟩
            · have hz : ((k : Int) == 0) = false := by rw [beq_eq_false_iff_ne]; omega
              obtain ⟨b1, o1, rfl, hb1, hx1⟩ := (HR.out.below HB.out).at_ (k := k - 1) (by omega)
              have HJ := fun w => rends_any (l[k - 1]'(by rw [HL.out]; omega)).op w
              have HZ : lastGoesB l = goesB (l[k - 1]'(by rw [HL.out]; omega)).op := lastGoes_at HL.out h0 _
              generalize (l[k - 1]'(by rw [HL.out]; omega)) = x at *
              obtain ⟨xo, xa, xb, xt, xc, xn⟩ := x
              obtain ⟨c0, c1, c2, c3, c4, c5⟩ := hx1
              simp only at HZ HJ
              have hk1 : IntKind.i64.wrap ((k : Int) - 1) = ((k - 1 : Nat) : Int) := by rw [IntKind.wrap_i64]; omega
              cases hgb : goesB xo
              all_goals
                rw [hgb] at HZ
                simp only [hgb] at HJ
                replace HZ := Lib.hid HZ
                replace HJ := Lib.hid HJ
                go_wp2_with (first
                  | (go_at_call 51; (with_reducible refine (HJ.out _).mono ?_); rintro e w1 ⟨rfl, rfl⟩))
                go_ret
                exact ⟨ret_int (by rw [HE.out, HZ.out]; rfl), HB.out⟩
end Go.Proofs.YthcjdkjjjlpjaaaGreatDoor
namespace Go.Proofs.YthcjdkjjjlpjaaaGreatDoor
open Go.ChangeShapes Go.WideShapes Go.ChangeAt Go.RowKit
set_option linter.unusedVariables false
attribute [local go_sem] eqGuard_errV_nil eqGuard_errV_iface eql_errV_nil neq_errV_nil eql_errV_form

theorem str_ne {a b : List UInt8} (h : a ≠ b) : ((bs a).toList == (bs b).toList) = false := by rw [ByteArray.toList_eq, ByteArray.toList_eq, beq_eq_false_iff_ne]; exact h
theorem any_take {α : Type} {p : α → Bool} {l : List α} {j : Nat} (hj : j < l.length) (h : (l.take j).any p = false) (hn : p l[j] = false) : (l.take (j + 1)).any p = false := by
  rw [List.take_succ_eq_append_getElem hj, List.any_append, h, List.any_cons, hn]; rfl
theorem any_at {α : Type} {p : α → Bool} {l : List α} {j : Nat} (hj : j < l.length) (hn : p l[j] = true) : l.any p = true := List.any_eq_true.2 ⟨_, List.getElem_mem hj, hn⟩
set_option maxHeartbeats 1000000 in
theorem rin_any (A : Option Addr) (n c : Nat) (xs : List (List UInt8)) (y : List UInt8) (w : World) (R : StrRow w A n c xs) (hn : n ≤ 1099511627776) :
    Calls Tryz.prog 18 #[.slice A n c, .string (bs y)] w fun e w' => e = .returned (.bool (xs.any (· == y))) ∧ w = w' := by
  have hl : xs.length = n := R.1
  have HL := Lib.hid hl
  have HR := Lib.hid R
  clear hl R
  go_enter Tryz.func18, Tryz.ntmps18
  go_wp2
  go_loop [5] (fun i => ∃ k : Nat, k ≤ n ∧ i = .int .i64 k ∧ Hid ((xs.take k).any (· == y) = false)) (fun i => n - (intOf i).toNat)
  case atStart => exact ⟨0, Nat.zero_le _, rfl, Lib.hid rfl⟩
  case round =>
    obtain ⟨k, hk, rfl, HT⟩ := hrel
    by_cases hlt : k < n
    · obtain ⟨b1, o1, rfl, hb1, hc1⟩ := HR.out.at_ hlt
      have h1 : k < xs.length := by rw [HL.out]; exact hlt
      rw [Nat.mul_one] at hc1
      unfold StrAt at hc1
      by_cases he : xs[k] = y
      · have HA := Lib.hid (any_at (p := (· == y)) h1 (by simp [he]))
        rw [he] at hc1
        clear he
        go_wp2
        go_ret
        exact ⟨ret_bool HA.out.symm, rfl⟩
      · have HT2 := Lib.hid (any_take (p := (· == y)) h1 HT.out (by simpa using he))
        have hne := str_ne he
        clear he
        go_wp2
        go_round
        case rel => exact ⟨k + 1, by omega, by go_num, HT2⟩
        case measure => first | (simp [intOf]; omega) | simp [intOf]
    · obtain rfl : k = n := by omega
      go_wp2
      go_ret
      refine ⟨ret_bool ?_, rfl⟩
      have h := HT.out
      rw [List.take_of_length_le (by rw [HL.out]; exact Nat.le_refl _)] at h
      exact h.symm

theorem span_cases {n : Nat} {x : HandD} (h : spanB n x = false) : x.fr < 0 ∨ (¬ x.fr < 0 ∧ x.tu ≤ x.fr) ∨ (¬ x.fr < 0 ∧ ¬ x.tu ≤ x.fr ∧ (n : Int) < x.tu) ∨ (¬ x.fr < 0 ∧ ¬ x.tu ≤ x.fr ∧ ¬ (n : Int) < x.tu ∧ x.pos < 0) ∨ (¬ x.fr < 0 ∧ ¬ x.tu ≤ x.fr ∧ ¬ (n : Int) < x.tu ∧ ¬ x.pos < 0 ∧ (n : Int) ≤ x.pos) := by
  have := of_decide_eq_false h
  omega
theorem span_true {n : Nat} {x : HandD} (h : spanB n x = true) : ¬ x.fr < 0 ∧ ¬ x.tu ≤ x.fr ∧ ¬ (n : Int) < x.tu ∧ ¬ x.pos < 0 ∧ ¬ (n : Int) ≤ x.pos := by
  have := of_decide_eq_true h
  omega
theorem hand_next {n : Nat} {l : List HandD} {j : Nat} (h : ∀ (i : Nat) (hi : i < l.length), i < j → handF n (l.take i) l[i] = 0) (hj : j < l.length) (h0 : handF n (l.take j) l[j] = 0) : ∀ (i : Nat) (hi : i < l.length), i < j + 1 → handF n (l.take i) l[i] = 0 := fun i hi hij => by
  by_cases e : i = j
  · subst e; exact h0
  · exact h i hi (by omega)
theorem handsF_at {n : Nat} {l : List HandD} {j : Nat} (hj : j < l.length) (h : ∀ (i : Nat) (hi : i < l.length), i < j → handF n (l.take i) l[i] = 0) (hf : handF n (l.take j) l[j] ≠ 0) : handsF l n = handF n (l.take j) l[j] := by
  have e := firstAt_at hj (fun i hi => h i (by omega) hi) hf
  unfold handsF
  rw [e, if_pos hf]
theorem handsF_end {n : Nat} {l : List HandD} (h : ∀ (i : Nat) (hi : i < l.length), i < l.length → handF n (l.take i) l[i] = 0) : handsF l n = if 8 < l.length then 4 else 0 := by
  unfold handsF
  rw [if_neg]
  rw [firstAt_zero fun j hj => h j hj hj]; simp
set_option maxRecDepth 20000 in
set_option maxHeartbeats 4000000 in
theorem rhands_any (l : List HandD) (A : Option Addr) (n c m : Nat) (w : World) (R : HandRow w A n c l) (hn : n ≤ 1099511627776) (hs : ∀ x ∈ l, x.cl.length ≤ 1048576) (hm : m ≤ 1099511627776) :
    Calls Tryz.prog 42 #[.slice A n c, .int .i64 (m : Int)] w fun e w' => e = .returned (.int .i64 (handsF l m : Int)) ∧ Below w.heap.size w w' := by
  have hl : l.length = n := R.1
  have HL := Lib.hid hl
  have HR := Lib.hid R
  have HS := Lib.hid hs
  clear hl R hs
  go_enter Tryz.func42, Tryz.ntmps42
  go_wp2_with fail
  go_loopw [5, 6] (fun i _ wr => ∃ j : Nat, j ≤ n ∧ i = .int .i64 j ∧ Hid (∀ (i : Nat) (hi : i < l.length), i < j → handF m (l.take i) l[i] = 0) ∧ Hid (Below w.heap.size w wr)) (fun i _ _ => n - (intOf i).toNat)
  case atStart => exact ⟨0, Nat.zero_le _, rfl, Lib.hid (fun i hi h => by omega), Lib.hid (Below.refl _ _)⟩
  case round =>
    obtain ⟨j, hj, rfl, HG, HB⟩ := hrel
    by_cases hlt : j < n
    · obtain ⟨b1, o1, rfl, hb1, hx1⟩ := (HR.out.below HB.out).at_ hlt
      have hj1 : j < l.length := by rw [HL.out]; exact hlt
      have hsx := HS.out l[j] (List.getElem_mem _)
      have HN := fun w => isName_any (bs l[j].cl) w (by rw [bs_size]; unfold maxLen; omega)
      have HZ := Lib.hid (show handF m (l.take j) l[j] = 0 → _ from fun h => hand_next HG.out hj1 h)
      have HF := Lib.hid (show handF m (l.take j) l[j] ≠ 0 → _ from fun h => handsF_at hj1 HG.out h)
      unfold handF at HF HZ
      generalize l[j] = x at *
      have hsz := HB.out.size
      cases hsp : spanB m x with
      | false =>
        have HC := Lib.hid (show handsF l m = 2 from by
          have := HF.out
          rw [hsp] at this
          simpa using this)
        have hcase := span_cases hsp
        clear HZ HF HN hsp hsx
        obtain ⟨xf, xt, xp, xc⟩ := x
        obtain ⟨c0, c1, c2, c3⟩ := hx1
        simp only at hcase
        rcases hcase with h1 | ⟨h1, h2⟩ | ⟨h1, h2, h3⟩ | ⟨h1, h2, h3, h4⟩ | ⟨h1, h2, h3, h4, h5⟩
        all_goals
          go_wp2_with fail
          go_ret
          exact ⟨ret_int (by rw [HC.out]; rfl), bnext HB.out (al1 _ _)⟩
      | true =>
        have hcase := span_true hsp
        rw [hsp] at HF HZ
        simp only [Bool.true_eq_false, if_false] at HF HZ
        clear hsp
        obtain ⟨xf, xt, xp, xc⟩ := x
        obtain ⟨c0, c1, c2, c3⟩ := hx1
        simp only at hcase HF HZ HN hsx
        obtain ⟨h1, h2, h3, h4, h5⟩ := hcase
        rw [bs_list] at HN
        cases hnb : nameB xc with
        | false =>
          rw [hnb] at HN HF
          have HC := Lib.hid (show handsF l m = 1 from by simpa using HF.out)
          replace HN := Lib.hid HN
          clear HF HZ hsx hnb
          go_wp2_with (first
            | (go_at_call 26; (with_reducible refine (HN.out _).mono ?_); rintro e w1 ⟨rfl, rfl⟩))
          go_ret
          exact ⟨ret_int (by rw [HC.out]; rfl), bnext HB.out (al1 _ _)⟩
        | true =>
          rw [hnb] at HN HZ
          have HC := Lib.hid (HZ.out (by simp))
          replace HN := Lib.hid HN
          clear HF HZ hsx hnb
          have HB1 := Lib.hid (bnext HB.out (al1 wr (.cells #[.int .i64 xf, .int .i64 xt, .int .i64 xp, .string (bs xc)] 88)))
          go_wp2_with (first
            | (go_at_call 26; (with_reducible refine (HN.out _).mono ?_); rintro e w1 ⟨rfl, rfl⟩))
          go_round
          case rel => exact ⟨j + 1, by omega, by go_num, HC, HB1⟩
          case measure => first | (simp [intOf]; omega) | simp [intOf]
    · obtain rfl : j = n := by omega
      have HE := Lib.hid (handsF_end (n := m) (l := l) (fun i hi h => HG.out i hi (by rw [← HL.out]; exact h)))
      rw [HL.out] at HE
      by_cases h8 : 8 < j
      all_goals
        have HH := Lib.hid HE.out
        first
        | rw [if_pos h8] at HH
        | rw [if_neg h8] at HH
        go_wp2
        go_ret
        exact ⟨ret_int (by rw [HH.out]; rfl), HB.out⟩
end Go.Proofs.YthcjdkjjjlpjaaaGreatDoor
namespace Go.Proofs.YthcjdkjjjlpjaaaGreatDoor
open Go.ChangeShapes Go.WideShapes Go.ChangeAt Go.RowKit
set_option linter.unusedVariables false
attribute [local go_sem] eqGuard_errV_nil eqGuard_errV_iface eql_errV_nil neq_errV_nil eql_errV_form

/-- The value of a method: its texts and numbers, and the slices of its lists. -/
def methV (m : MethD) (A : Option Addr) (i j : Nat) (B : Option Addr) (k l : Nat) : Value := .agg #[.string (bs m.nm), .string (bs m.ty), .bool m.st, .bool m.ab, .bool m.pr, .int .i64 m.lo, .slice A i j, .slice B k l]
/-- A method in a block of its own. -/
def MBox (w : World) (b : Nat) (m : MethD) (A : Option Addr) (i j : Nat) (B : Option Addr) (k l : Nat) : Prop :=
  b < w.heap.size ∧ w.cell? ⟨b, 0, none⟩ = some (.string (bs m.nm)) ∧ w.cell? ⟨b, 1, none⟩ = some (.string (bs m.ty)) ∧ w.cell? ⟨b, 2, none⟩ = some (.bool m.st) ∧ w.cell? ⟨b, 3, none⟩ = some (.bool m.ab) ∧
  w.cell? ⟨b, 4, none⟩ = some (.bool m.pr) ∧ w.cell? ⟨b, 5, none⟩ = some (.int .i64 m.lo) ∧ w.cell? ⟨b, 6, none⟩ = some (.slice A i j) ∧ w.cell? ⟨b, 7, none⟩ = some (.slice B k l)
theorem MBox.below {w w' : World} {b : Nat} {m : MethD} {A : Option Addr} {i j : Nat} {B : Option Addr} {k l : Nat} (h : MBox w b m A i j B k l) (hb : Below w.heap.size w w') : MBox w' b m A i j B k l := by
  obtain ⟨h0, h1, h2, h3, h4, h5, h6, h7, h8⟩ := h
  exact ⟨Nat.lt_of_lt_of_le h0 hb.size, (hb.cell (by exact h0)).trans h1, (hb.cell (by exact h0)).trans h2, (hb.cell (by exact h0)).trans h3, (hb.cell (by exact h0)).trans h4, (hb.cell (by exact h0)).trans h5, (hb.cell (by exact h0)).trans h6, (hb.cell (by exact h0)).trans h7, (hb.cell (by exact h0)).trans h8⟩
theorem MBox.drewN {w : World} {b : Nat} {m : MethD} {A : Option Addr} {i j : Nat} {B : Option Addr} {k l : Nat} (h : MBox w b m A i j B k l) (q : Nat) : MBox (w.drewN q) b m A i j B k l := h
theorem mbox_at (w : World) (m : MethD) (A : Option Addr) (i j : Nat) (B : Option Addr) (k l : Nat) (t : TypeId) (f : Nat × Nat) :
    MBox (w.alloc (.cells #[.string (bs m.nm), .string (bs m.ty), .bool m.st, .bool m.ab, .bool m.pr, .int .i64 m.lo, .slice A i j, .slice B k l] t f)) w.heap.size m A i j B k l :=
  ⟨by simp, World.cell?_alloc_mark .., World.cell?_alloc_mark .., World.cell?_alloc_mark .., World.cell?_alloc_mark .., World.cell?_alloc_mark .., World.cell?_alloc_mark .., World.cell?_alloc_mark .., World.cell?_alloc_mark ..⟩
theorem mbox_new {w w' : World} {o : Obj} (m : MethD) (A : Option Addr) (i j : Nat) (B : Option Addr) (k l : Nat) (t : TypeId) (f : Nat × Nat) (ho : o = .cells #[.string (bs m.nm), .string (bs m.ty), .bool m.st, .bool m.ab, .bool m.pr, .int .i64 m.lo, .slice A i j, .slice B k l] t f)
    (hb : Below (w.alloc o).heap.size (w.alloc o) w') : MBox w' w.heap.size m A i j B k l ∧ Below w.heap.size w w' := by
  subst ho
  exact ⟨(mbox_at w m A i j B k l t f).below hb, bnext (al1 _ _) hb⟩

theorem argsN_methP (l : List UInt8) : (methP l).1.length = argsN l := by
  unfold argsN
  cases h : methodB l with
  | none => rw [methP_none h]; rfl
  | some p => obtain ⟨a, g⟩ := p; rw [methP_some h]
theorem methodOf_row {w w' : World} {l : List UInt8} {e : Ending} (h : MethodSays w l (.bool (methS l)) e w') : ∃ A c t, e = .returned (.tuple #[.slice A (argsN l) c, .string t, .bool (methodB l).isSome]) ∧ Below w.heap.size w w' := by
  obtain ⟨hb, v, rfl, hv⟩ := h
  obtain ⟨A, c, rfl⟩ := own_form hv
  exact ⟨A, c, _, by rw [argsN_methP]; rfl, hb⟩

section
variable {pre : List MethD} {m : MethD}
theorem mtdF_bad (h : (nameB m.nm && (methodB m.ty).isSome) = false) : mtdF pre m = 1 := by unfold mtdF; rw [if_pos h]
theorem mtdF_twice (h : (nameB m.nm && (methodB m.ty).isSome) = true) (ha : pre.any (fun y => y.nm == m.nm && y.ty == m.ty) = true) : mtdF pre m = 5 := by unfold mtdF; rw [h, if_neg (by simp), if_pos ha]
theorem mtdF_range (h : (nameB m.nm && (methodB m.ty).isSome) = true) (ha : pre.any (fun y => y.nm == m.nm && y.ty == m.ty) = false) (hr : m.lo < 0 ∨ 8 < m.lo) : mtdF pre m = 2 := by
  unfold mtdF; rw [h, ha, if_neg (by simp), if_neg (by simp), if_pos hr]
theorem mtdF_rest (h : (nameB m.nm && (methodB m.ty).isSome) = true) (ha : pre.any (fun y => y.nm == m.nm && y.ty == m.ty) = false) (hr : ¬ (m.lo < 0 ∨ 8 < m.lo)) : mtdF pre m = if m.ab = true then bareF m else bodyF m := by
  unfold mtdF; rw [h, ha, if_neg (by simp), if_neg (by simp), if_neg hr]
theorem bodyF_code (h : flowF m.code ≠ 0) : bodyF m = flowF m.code := by unfold bodyF; rw [if_pos h]
theorem bodyF_few (h : flowF m.code = 0) (hw : m.lo < (wantsN m : Int)) : bodyF m = 2 := by unfold bodyF; rw [h, if_neg (by simp), if_pos hw]
theorem bodyF_local (h : flowF m.code = 0) (hw : ¬ m.lo < (wantsN m : Int)) (hl : m.code.any (localB m.lo) = true) : bodyF m = 2 := by unfold bodyF; rw [h, if_neg (by simp), if_neg hw, if_pos hl]
theorem bodyF_hands (h : flowF m.code = 0) (hw : ¬ m.lo < (wantsN m : Int)) (hl : m.code.any (localB m.lo) = false) : bodyF m = handsF m.hs m.code.length := by unfold bodyF; rw [h, if_neg (by simp), if_neg hw, hl, if_neg (by simp)]
end
/-- The first part of what methodFault does: the name, the type, the methods ahead. -/
def Fine (pre : List MethD) (m : MethD) : Prop := (nameB m.nm && (methodB m.ty).isSome) = true ∧ pre.any (fun y => y.nm == m.nm && y.ty == m.ty) = false

set_option maxRecDepth 20000 in
set_option maxHeartbeats 4000000 in
theorem rmeth_bad (m : MethD) (pre : List MethD) (A : Option Addr) (i j : Nat) (B : Option Addr) (k l : Nat) (C : Option Addr) (p q : Nat) (w : World) (hm : m.upto 1048576) (h : (nameB m.nm && (methodB m.ty).isSome) = false) :
    Calls Tryz.prog 28 #[methV m A i j B k l, .slice C p q] w fun e w' => e = .returned (.int .i64 (mtdF pre m : Int)) ∧ Below w.heap.size w w' := by
  have HV := Lib.hid (mtdF_bad (pre := pre) h)
  have HM := Lib.hid (fun w => (methodOf_any (bs m.ty) w (by rw [bs_size]; exact hm.2.1)).mono fun e w' h => methodOf_row h)
  have HN := fun w => isName_any (bs m.nm) w (by rw [bs_size]; have := hm.1; unfold maxLen; omega)
  simp only [bs_list] at HN
  rw [show (bs m.ty).data.toList = m.ty from rfl] at HM
  have hcase : nameB m.nm = false ∨ (nameB m.nm = true ∧ (methodB m.ty).isSome = false) := by
    cases h1 : nameB m.nm with
    | false => exact .inl rfl
    | true => rw [h1, Bool.true_and] at h; exact .inr ⟨rfl, h⟩
  clear hm h
  unfold methV
  rcases hcase with h1 | ⟨h1, h2⟩
  · rw [h1] at HN
    replace HN := Lib.hid HN
    clear h1
    go_enter Tryz.func28, Tryz.ntmps28
    go_wp2_with (first
      | (go_at_call 40; (with_reducible refine (HM.out _).mono ?_); rintro e w1 ⟨A1, c1, t1, rfl, hb⟩
         have BX := mbox_new m A i j B k l _ _ rfl hb
         obtain ⟨q0, q1, q2, q3, q4, q5, q6, q7, q8⟩ := BX.1
         have HB1 := Lib.hid BX.2
         clear BX hb)
      | (go_at_call 26; (with_reducible refine (HN.out _).mono ?_); rintro e w2 ⟨rfl, rfl⟩))
    go_ret
    exact ⟨ret_int (by rw [HV.out]; rfl), HB1.out⟩
  · rw [h1] at HN
    rw [h2] at HM
    replace HN := Lib.hid HN
    clear h1 h2
    go_enter Tryz.func28, Tryz.ntmps28
    go_wp2_with (first
      | (go_at_call 40; (with_reducible refine (HM.out _).mono ?_); rintro e w1 ⟨A1, c1, t1, rfl, hb⟩
         have BX := mbox_new m A i j B k l _ _ rfl hb
         obtain ⟨q0, q1, q2, q3, q4, q5, q6, q7, q8⟩ := BX.1
         have HB1 := Lib.hid BX.2
         clear BX hb)
      | (go_at_call 26; (with_reducible refine (HN.out _).mono ?_); rintro e w2 ⟨rfl, rfl⟩))
    go_ret
    exact ⟨ret_int (by rw [HV.out]; rfl), HB1.out⟩

theorem below_drawn {w a : World} {B : Nat} (h : Below B w a) (n : Nat) : Below B w (a.drewN n) := ⟨h.os, h.tape, h.output, h.size, h.block⟩
theorem twice_next {pre : List MethD} {m : MethD} {j : Nat} (hj : j < pre.length) (h : (pre.take j).any (fun y => y.nm == m.nm && y.ty == m.ty) = false) (hn : (pre[j].nm == m.nm && pre[j].ty == m.ty) = false) : (pre.take (j + 1)).any (fun y => y.nm == m.nm && y.ty == m.ty) = false :=
  any_take (p := fun y => y.nm == m.nm && y.ty == m.ty) hj h hn
theorem twice_at {pre : List MethD} {m : MethD} {j : Nat} (hj : j < pre.length) (h1 : pre[j].nm = m.nm) (h2 : pre[j].ty = m.ty) : pre.any (fun y => y.nm == m.nm && y.ty == m.ty) = true :=
  any_at (p := fun y => y.nm == m.nm && y.ty == m.ty) hj (by simp [h1, h2])
theorem wants_static {m : MethD} (h : m.st = true) : wantsN m = argsN m.ty := by unfold wantsN; rw [h]; rfl
theorem wants_bound {m : MethD} (h : m.st = false) : wantsN m = argsN m.ty + 1 := by unfold wantsN; rw [h]; rfl
theorem argsN_le (l : List UInt8) : argsN l ≤ 5 := by
  unfold argsN
  cases h : methodB l with
  | none => exact Nat.zero_le _
  | some p =>
    obtain ⟨a, g⟩ := p
    cases l with
    | nil => cases h
    | cons c t =>
      unfold methodB at h
      repeat' (split at h)
      all_goals first
        | (cases h; done)
        | (rename_i h5
           simp only [Option.some.injEq, Prod.mk.injEq] at h
           obtain ⟨rfl, _⟩ := h
           exact h5.2.1)
set_option maxRecDepth 20000 in
set_option maxHeartbeats 8000000 in
theorem rmeth_rest (m : MethD) (pre : List MethD) (A : Option Addr) (i j : Nat) (B : Option Addr) (k l : Nat) (C : Option Addr) (p q : Nat) (w : World) (RC : InsRow w A i j m.code) (RH : HandRow w B k l m.hs) (RM : MethRow w C p q pre) (hm : m.upto 1048576) (hw : m.wf) (hp : p ≤ 1048576)
    (h : (nameB m.nm && (methodB m.ty).isSome) = true) :
    Calls Tryz.prog 28 #[methV m A i j B k l, .slice C p q] w fun e w' => e = .returned (.int .i64 (mtdF pre m : Int)) ∧ Below w.heap.size w w' := by
  have HM := Lib.hid (fun w => (methodOf_any (bs m.ty) w (by rw [bs_size]; exact hm.2.1)).mono fun e w' h => methodOf_row h)
  have HN := fun w => isName_any (bs m.nm) w (by rw [bs_size]; have := hm.1; unfold maxLen; omega)
  simp only [bs_list] at HN
  rw [show (bs m.ty).data.toList = m.ty from rfl] at HM
  have hh := h
  rw [Bool.and_eq_true] at hh
  rw [hh.1] at HN
  rw [hh.2] at HM
  replace HN := Lib.hid HN
  have hlp : pre.length = p := RM.1
  have HLP := Lib.hid hlp
  have H0 := Lib.hid h
  have hci : m.code.length = i := RC.1
  have hhk : m.hs.length = k := RH.1
  have HCI := Lib.hid hci
  have HHK := Lib.hid hhk
  have hi2 : i ≤ 1048576 := by have := hm.2.2.1.2; omega
  have hk2 : k ≤ 1048576 := by have := hm.2.2.2.2; omega
  have ha5 := argsN_le m.ty
  have HCF := Lib.hid (fun W R => rfault_any m.code A i j W R hm.2.2.1.1 hi2)
  have HHF := Lib.hid (fun W R => rhands_any m.hs B k l i W R (by omega) hm.2.2.2.1 (by omega))
  have HRC := Lib.hid RC
  have HRH := Lib.hid RH
  have HRM := Lib.hid RM
  clear hh h hlp hci hhk RC RH RM hm hw
  unfold methV
  go_enter Tryz.func28, Tryz.ntmps28
  go_wp2_with (first
    | (go_at_call 40; (with_reducible refine (HM.out _).mono ?_); rintro e w1 ⟨A1, c1, t1, rfl, hb⟩
       have BX := mbox_new m A i j B k l _ _ rfl hb
       have HX := Lib.hid BX.1
       obtain ⟨q0, q1, q2, q3, q4, q5, q6, q7, q8⟩ := BX.1
       have HB1 := Lib.hid BX.2
       clear BX hb)
    | (go_at_call 26; (with_reducible refine (HN.out _).mono ?_); rintro e w2 ⟨rfl, rfl⟩))
  go_loopw [8] (fun i wr => ∃ a b : Nat, a ≤ p ∧ i = .int .i64 a ∧ Hid ((pre.take a).any (fun y => y.nm == m.nm && y.ty == m.ty) = false) ∧ wr = w1.drewN b) (fun i _ => p - (intOf i).toNat)
  case atStart => exact ⟨0, 0, Nat.zero_le _, rfl, Lib.hid rfl, rfl⟩
  case round =>
    obtain ⟨a, b, ha, rfl, HT, rfl⟩ := hrel
    by_cases hlt : a < p
    · obtain ⟨b1, o1, rfl, hb1, hx1⟩ := (HRM.out.below HB1.out).at_ hlt
      have ha1 : a < pre.length := by rw [HLP.out]; exact hlt
      have HTN := Lib.hid (show (pre[a].nm == m.nm && pre[a].ty == m.ty) = false → _ from fun h => twice_next ha1 HT.out h)
      have HTA := Lib.hid (fun h1 h2 => twice_at (m := m) ha1 h1 h2)
      generalize pre[a] = y at *
      obtain ⟨c0, c1', _⟩ := hx1
      by_cases h1 : y.nm = m.nm
      · by_cases h2 : y.ty = m.ty
        · have HV := Lib.hid (mtdF_twice H0.out (HTA.out h1 h2))
          rw [h1] at c0
          rw [h2] at c1'
          clear h1 h2 HTN HTA
          go_wp2
          go_quiet (fail)
          go_wp2
          go_ret
          exact ⟨ret_int (by rw [HV.out]; rfl), below_drawn (below_drawn HB1.out _) _⟩
        · have HT2 := Lib.hid (HTN.out (by simp [h2]))
          have hne := str_ne h2
          rw [h1] at c0
          clear h1 h2 HTN HTA
          go_wp2
          go_quiet (fail)
          go_wp2
          go_roundw
          case rel => exact ⟨a + 1, _, by omega, by go_num, HT2, rfl⟩
          case measure => first | (simp [intOf]; omega) | simp [intOf]
      · have HT2 := Lib.hid (HTN.out (by simp [h1]))
        have hne := str_ne h1
        clear h1 HTN HTA
        go_wp2
        go_quiet (fail)
        go_wp2
        go_roundw
        case rel => exact ⟨a + 1, _, by omega, by go_num, HT2, rfl⟩
        case measure => first | (simp [intOf]; omega) | simp [intOf]
    · obtain rfl : a = p := by omega
      have hno := HT.out
      rw [List.take_of_length_le (by rw [HLP.out]; exact Nat.le_refl _)] at hno
      have HO := Lib.hid hno
      clear hno HT hlt ha
      have hr0 : m.lo < 0 ∨ 8 < m.lo ∨ (¬ m.lo < 0 ∧ ¬ 8 < m.lo) := by omega
      have HR2 := Lib.hid (fun h => mtdF_range H0.out HO.out h)
      have HRe := Lib.hid (fun h => mtdF_rest H0.out HO.out h)
      rcases hr0 with hr | hr | ⟨hr1, hr2⟩
      · have HV := Lib.hid (HR2.out (.inl hr))
        go_wp2_with fail
        go_ret
        exact ⟨ret_int (by rw [HV.out]; rfl), below_drawn HB1.out _⟩
      · have HV := Lib.hid (HR2.out (.inr hr))
        go_wp2_with fail
        go_ret
        exact ⟨ret_int (by rw [HV.out]; rfl), below_drawn HB1.out _⟩
      have HV0 := HRe.out (by omega)
      clear HR2 HRe
      cases hab : m.ab with
      | true =>
        rw [hab, if_pos rfl] at HV0
        rw [hab] at q4
        have hc : (m.st = true ∧ bareF m = 8) ∨ (m.st = false ∧ m.pr = true ∧ bareF m = 8) ∨ (m.st = false ∧ m.pr = false ∧ 0 < i ∧ bareF m = 8) ∨ (m.st = false ∧ m.pr = false ∧ i = 0 ∧ 0 < k ∧ bareF m = 8) ∨ (m.st = false ∧ m.pr = false ∧ i = 0 ∧ k = 0 ∧ bareF m = 0) := by
          unfold bareF
          rw [HCI.out, HHK.out]
          cases m.st with
          | true => exact .inl ⟨rfl, by simp⟩
          | false =>
            cases m.pr with
            | true => exact .inr (.inl ⟨rfl, rfl, by simp⟩)
            | false =>
              rcases Nat.eq_zero_or_pos i with h | h
              · rcases Nat.eq_zero_or_pos k with h' | h'
                · exact .inr (.inr (.inr (.inr ⟨rfl, rfl, h, h', by simp [h, h']⟩)))
                · exact .inr (.inr (.inr (.inl ⟨rfl, rfl, h, h', by have : k ≠ 0 := by omega
                                                                    simp [h, this]⟩)))
              · exact .inr (.inr (.inl ⟨rfl, rfl, h, by have : i ≠ 0 := by omega
                                                        simp [this]⟩))
        rcases hc with ⟨h1, hv⟩ | ⟨h1, h2, hv⟩ | ⟨h1, h2, h3, hv⟩ | ⟨h1, h2, h3, h4, hv⟩ | ⟨h1, h2, h3, h4, hv⟩
        all_goals
          rw [hv] at HV0
          have HV := Lib.hid HV0
          rw [h1] at q3
          try rw [h2] at q5
          clear hv HV0
          go_wp2_with fail
          go_ret
          exact ⟨ret_int (by rw [HV.out]; rfl), below_drawn HB1.out _⟩
      | false =>
        rw [hab] at HV0
        rw [if_neg (by simp)] at HV0
        rw [hab] at q4
        by_cases hfl : flowF m.code = 0
        · have HCF0 := Lib.hid (fun W R => (HCF.out W R).mono fun e w' h => show e = .returned (.int .i64 0) ∧ Below W.heap.size W w' by rw [hfl] at h; exact h)
          have HFew := Lib.hid (fun h => bodyF_few hfl h)
          have HLoc := Lib.hid (fun h1 h2 => bodyF_local hfl h1 h2)
          have HHan := Lib.hid (fun h1 h2 => bodyF_hands hfl h1 h2)
          have HV := Lib.hid HV0
          clear HV0 hfl
          have hst : (m.st = true ∧ wantsN m = argsN m.ty) ∨ (m.st = false ∧ wantsN m = argsN m.ty + 1) := by
            cases h : m.st with
            | true => exact .inl ⟨rfl, wants_static h⟩
            | false => exact .inr ⟨rfl, wants_bound h⟩
          have hwr : IntKind.i64.wrap ((argsN m.ty : Int) + 1) = (argsN m.ty : Int) + 1 := by rw [IntKind.wrap_i64]; omega
          rcases hst with ⟨h1, h2⟩ | ⟨h1, h2⟩
          all_goals
            rw [h2] at HFew HLoc HHan
            by_cases hwt : m.lo < (wantsN m : Int)
            · rw [h2] at hwt
              have HV2 := Lib.hid (HFew.out hwt)
              go_wp2_with (first
                | (go_at_call 41; (with_reducible refine (HCF0.out _ ((HRC.out.below HB1.out).drewN b)).mono ?_); rintro e w3 ⟨rfl, hb⟩
                   have HB3 := Lib.hid (bnext (below_drawn HB1.out b) hb)
                   have BX := (HX.out.drewN b).below hb
                   rw [MBox, h1, hab] at BX
                   obtain ⟨r0, r1, r2, r3, r4, r5, r6, r7, r8⟩ := BX
                   clear hb))
              go_ret
              exact ⟨ret_int (by rw [HV.out, HV2.out]; rfl), HB3.out⟩
            · rw [h2] at hwt
              have HLo2 := Lib.hid (HLoc.out hwt)
              have HHa2 := Lib.hid (HHan.out hwt)
              go_wp2_with (first
                | (go_at_call 41; (with_reducible refine (HCF0.out _ ((HRC.out.below HB1.out).drewN b)).mono ?_); rintro e w3 ⟨rfl, hb⟩
                   have HB3 := Lib.hid (bnext (below_drawn HB1.out b) hb)
                   have BX := (HX.out.drewN b).below hb
                   have HX3 := Lib.hid BX
                   rw [MBox, h1, hab] at BX
                   obtain ⟨r0, r1, r2, r3, r4, r5, r6, r7, r8⟩ := BX
                   clear hb))
              go_loopw [11] (fun v wr => ∃ a b : Nat, a ≤ i ∧ v = .int .i64 a ∧ Hid ((m.code.take a).any (localB m.lo) = false) ∧ wr = w3.drewN b) (fun v _ => i - (intOf v).toNat)
              case atStart => exact ⟨0, 0, Nat.zero_le _, rfl, Lib.hid rfl, rfl⟩
              case round =>
                obtain ⟨a, b', ha, rfl, HT, rfl⟩ := hrel
                by_cases hlt : a < i
                · obtain ⟨b1, o1, rfl, hb1, hx1⟩ := (HRC.out.below HB3.out).at_ hlt
                  have ha1 : a < m.code.length := by rw [HCI.out]; exact hlt
                  have HTN := Lib.hid (show localB m.lo m.code[a] = false → _ from fun h => any_take (p := localB m.lo) ha1 HT.out h)
                  have HTA := Lib.hid (show localB m.lo m.code[a] = true → _ from fun h => any_at (p := localB m.lo) ha1 h)
                  unfold localB at HTN HTA
                  generalize m.code[a] = x at *
                  obtain ⟨xo, xa, xb, xt, xc, xn⟩ := x
                  obtain ⟨c0, c1', c2, c3, c4, c5⟩ := hx1
                  simp only at HTN HTA
                  have hc : (xo = 4 ∧ m.lo ≤ xa) ∨ (xo = 4 ∧ ¬ m.lo ≤ xa) ∨ (xo = 5 ∧ m.lo ≤ xa) ∨ (xo = 5 ∧ ¬ m.lo ≤ xa) ∨ (¬ xo = 4 ∧ ¬ xo = 5) := by omega
                  rcases hc with ⟨g1, g2⟩ | ⟨g1, g2⟩ | ⟨g1, g2⟩ | ⟨g1, g2⟩ | ⟨g1, g2⟩
                  · have HVb := Lib.hid (HLo2.out (HTA.out (by simp [g1, g2])))
                    subst g1
                    clear HTN HTA
                    go_wp2
                    go_quiet (fail)
                    go_wp2
                    go_ret
                    exact ⟨ret_int (by rw [HV.out, HVb.out]; rfl), below_drawn (below_drawn HB3.out _) _⟩
                  · have HT2 := Lib.hid (HTN.out (by simp [g2]))
                    subst g1
                    clear HTN HTA
                    go_wp2
                    go_quiet (fail)
                    go_wp2
                    go_roundw
                    case rel => exact ⟨a + 1, _, by omega, by go_num, HT2, rfl⟩
                    case measure => first | (simp [intOf]; omega) | simp [intOf]
                  · have HVb := Lib.hid (HLo2.out (HTA.out (by simp [g1, g2])))
                    subst g1
                    clear HTN HTA
                    go_wp2
                    go_quiet (fail)
                    go_wp2
                    go_ret
                    exact ⟨ret_int (by rw [HV.out, HVb.out]; rfl), below_drawn (below_drawn HB3.out _) _⟩
                  · have HT2 := Lib.hid (HTN.out (by simp [g2]))
                    subst g1
                    clear HTN HTA
                    go_wp2
                    go_quiet (fail)
                    go_wp2
                    go_roundw
                    case rel => exact ⟨a + 1, _, by omega, by go_num, HT2, rfl⟩
                    case measure => first | (simp [intOf]; omega) | simp [intOf]
                  · have HT2 := Lib.hid (HTN.out (by simp [g1, g2]))
                    have e4 : (xo == 4) = false := by simpa using g1
                    have e5 : (xo == 5) = false := by simpa using g2
                    clear HTN HTA g1 g2
                    go_wp2
                    go_quiet (fail)
                    go_wp2
                    go_roundw
                    case rel => exact ⟨a + 1, _, by omega, by go_num, HT2, rfl⟩
                    case measure => first | (simp [intOf]; omega) | simp [intOf]
                · obtain rfl : a = i := by omega
                  have hno := HT.out
                  rw [List.take_of_length_le (by rw [HCI.out]; exact Nat.le_refl _)] at hno
                  have HVb := HHa2.out hno
                  rw [HCI.out] at HVb
                  replace HVb := Lib.hid HVb
                  go_wp2_with (first
                    | (go_at_call 42; (with_reducible refine (HHF.out _ ((HRH.out.below HB3.out).below (below_drawn (Below.refl _ _) b'))).mono ?_); rintro e w4 ⟨rfl, hb⟩
                       have HB4 := Lib.hid (bnext (below_drawn HB3.out b') hb)
                       clear hb))
                  go_ret
                  exact ⟨ret_int (by rw [HV.out, HVb.out]), HB4.out⟩
        · have HV := Lib.hid (HV0.trans (bodyF_code hfl))
          have hne : ((flowF m.code : Int) != 0) = true := by rw [bne_iff_ne]; omega
          clear HV0 hfl
          generalize flowF m.code = ff at *
          go_wp2_with (first
            | (go_at_call 41; (with_reducible refine (HCF.out _ ((HRC.out.below HB1.out).drewN b)).mono ?_); rintro e w3 ⟨rfl, hb⟩
               have HB3 := Lib.hid (bnext (below_drawn HB1.out b) hb)
               clear hb))
          go_ret
          exact ⟨ret_int (by rw [HV.out]), HB3.out⟩
theorem rmeth_any (m : MethD) (pre : List MethD) (A : Option Addr) (i j : Nat) (B : Option Addr) (k l : Nat) (C : Option Addr) (p q : Nat) (w : World) (RC : InsRow w A i j m.code) (RH : HandRow w B k l m.hs) (RM : MethRow w C p q pre) (hm : m.upto 1048576) (hw : m.wf) (hp : p ≤ 1048576) :
    Calls Tryz.prog 28 #[methV m A i j B k l, .slice C p q] w fun e w' => e = .returned (.int .i64 (mtdF pre m : Int)) ∧ Below w.heap.size w w' := by
  cases h : (nameB m.nm && (methodB m.ty).isSome) with
  | false => exact rmeth_bad m pre A i j B k l C p q w hm h
  | true => exact rmeth_rest m pre A i j B k l C p q w RC RH RM hm hw hp h
end Go.Proofs.YthcjdkjjjlpjaaaGreatDoor
namespace Go.Proofs.YthcjdkjjjlpjaaaGreatDoor
open Go.ChangeShapes Go.WideShapes Go.ChangeAt Go.RowKit
set_option linter.unusedVariables false
attribute [local go_sem] eqGuard_errV_nil eqGuard_errV_iface eql_errV_nil neq_errV_nil eql_errV_form

theorem emptyB_nil {l : List UInt8} (h : l = []) : (bs l).toList.isEmpty = true := by rw [h, ByteArray.toList_eq]; rfl
set_option maxRecDepth 20000 in
set_option maxHeartbeats 4000000 in
theorem rclass_name (x : ClassD) (A : Option Addr) (i j : Nat) (B : Option Addr) (k l : Nat) (C : Option Addr) (m n : Nat) (w : World) (hx : x.upto 1048576) (h : headB_ x = false) :
    Calls Tryz.prog 15 #[classV x A i j B k l C m n] w fun e w' => e = .returned (.int .i64 (classF x : Int)) ∧ Below w.heap.size w w' := by
  have HV := Lib.hid (classF_name h)
  have HN := fun w => isName_any (bs x.nm) w (by rw [bs_size]; have := hx.1; unfold maxLen; omega)
  have HS := fun w => isName_any (bs x.su) w (by rw [bs_size]; have := hx.2.1; unfold maxLen; omega)
  simp only [bs_list] at HN HS
  have hc := head_cases (c := x)
  rw [h] at hc
  simp only [Bool.false_eq_true, and_false, or_false, false_or, and_true] at hc
  clear hx h
  unfold classV
  rcases hc with h1 | ⟨h1, h2, h3⟩
  · rw [h1] at HN
    replace HN := Lib.hid HN
    clear h1 HS
    go_enter Tryz.func15, Tryz.ntmps15
    go_wp2_with (first
      | (go_at_call 26; (with_reducible refine (HN.out _).mono ?_); rintro e w2 ⟨rfl, rfl⟩))
    go_ret
    exact ⟨ret_int (by rw [HV.out]; rfl), al1 _ _⟩
  · rw [h1] at HN
    rw [h3] at HS
    replace HN := Lib.hid HN
    replace HS := Lib.hid HS
    have hne := emptyB_ne h2
    clear h1 h2 h3
    go_enter Tryz.func15, Tryz.ntmps15
    go_wp2_with (first
      | (go_at_call 26; (with_reducible refine (HN.out _).mono ?_); rintro e w2 ⟨rfl, rfl⟩)
      | (go_at_call 26; (with_reducible refine (HS.out _).mono ?_); rintro e w2 ⟨rfl, rfl⟩))
    go_ret
    exact ⟨ret_int (by rw [HV.out]; rfl), al1 _ _⟩

theorem behind_drew1 {w a : World} (h : Below w.drew.heap.size w.drew a) : Below w.heap.size w a := bnext (Below.refl w.heap.size w).drew h
theorem quiet_more {P : Program} {f : FuncId} {args : Array Value} {w : World} {b n : Nat} {u : Value} (h : Calls P f args (w.drewN (b + n)) fun e w' => e = .returned u ∧ w.drewN (b + n) = w') :
    Calls P f args (w.drewN (b + n)) fun e w'' => e = .returned u ∧ ∃ m, w'' = w.drewN (b + m) := h.mono fun _ _ ⟨he, hm⟩ => ⟨he, n, hm.symm⟩
set_option maxRecDepth 20000 in
set_option maxHeartbeats 8000000 in
theorem rclass_rest (x : ClassD) (A : Option Addr) (i j : Nat) (B : Option Addr) (k l : Nat) (C : Option Addr) (m n : Nat) (w : World) (RA : StrRow w A i j x.faces) (RB : FieldRow w B k l x.fields) (RC : MethRow w C m n x.meths) (hx : x.upto 1048576) (hw : x.wf) (h : headB_ x = true) :
    Calls Tryz.prog 15 #[classV x A i j B k l C m n] w fun e w' => e = .returned (.int .i64 (classF x : Int)) ∧ Below w.heap.size w w' := by
  have HN := fun w => isName_any (bs x.nm) w (by rw [bs_size]; have := hx.1; unfold maxLen; omega)
  have HS := fun w => isName_any (bs x.su) w (by rw [bs_size]; have := hx.2.1; unfold maxLen; omega)
  simp only [bs_list] at HN HS
  have hc := head_cases (c := x)
  rw [h] at hc
  simp only [Bool.true_eq_false, and_false, false_or, and_true] at hc
  have hli : x.faces.length = i := RA.1
  have hlk : x.fields.length = k := RB.1
  have hlm : x.meths.length = m := RC.1
  have hi2 : i ≤ 1048576 := by have := hx.2.2.1.2; omega
  have hk2 : k ≤ 1048576 := by have := hx.2.2.2.1.2; omega
  have hm2 : m ≤ 1048576 := by have := hx.2.2.2.2.2; omega
  have H0 := Lib.hid h
  have HX := Lib.hid hx
  have HW := Lib.hid hw
  have HLI := Lib.hid hli
  have HLK := Lib.hid hlk
  have HLM := Lib.hid hlm
  have HCB := Lib.hid (cbox_at w x A i j B k l C m n 42 (0, 0))
  have HB0 := Lib.hid (al1 w (.cells #[.string (bs x.nm), .string (bs x.su), .slice A i j, .bool x.face, .slice B k l, .slice C m n] 42))
  have HRA := Lib.hid (RA.below HB0.out)
  have HRB := Lib.hid (RB.below HB0.out)
  have HRC := Lib.hid (RC.below HB0.out)
  clear RA RB RC h hx hw hli hlk hlm
  unfold classV
  rcases hc with ⟨h1, h2⟩ | ⟨h1, h2, h3⟩
  all_goals
    rw [h1] at HN
    replace HN := Lib.hid HN
    clear h1
    first
    | rw [h3] at HS
    | skip
    replace HS := Lib.hid HS
    first
    | have hne := emptyB_ne h2
    | have hne := emptyB_nil h2
    clear h2
    try clear h3
    go_enter Tryz.func15, Tryz.ntmps15
    go_wp2_with (first
      | (go_at_call 26; (with_reducible refine (HN.out _).mono ?_); rintro e w2 ⟨rfl, rfl⟩)
      | (go_at_call 26; (with_reducible refine (HS.out _).mono ?_); rintro e w2 ⟨rfl, rfl⟩))
    generalize hv : w.alloc (.cells #[.string (bs x.nm), .string (bs x.su), .slice A i j, .bool x.face, .slice B k l, .slice C m n] 42) = v at *
    replace hv := Lib.hid hv
    obtain ⟨p0, p1, p2, p3, p4, p5, p6⟩ := HCB.out
    go_loopw [3] (fun v1 wr => ∃ a b : Nat, a ≤ i ∧ v1 = .int .i64 a ∧ Hid (CleanTo faceF x.faces a) ∧ wr = v.drewN b) (fun v1 _ => i - (intOf v1).toNat)
    case atStart => exact ⟨0, 0, Nat.zero_le _, rfl, Lib.hid (CleanTo.start _ _), rfl⟩
    case round =>
      obtain ⟨a, b, ha, rfl, HT, rfl⟩ := hrel
      by_cases hlt : a < i
      · obtain ⟨b1, o1, rfl, hb1, hx1⟩ := SRow.at_ HRA.out hlt
        have ha1 : a < x.faces.length := by rw [HLI.out]; exact hlt
        rw [Nat.mul_one] at hx1
        unfold StrAt at hx1
        have hys := HX.out.2.2.1.1 _ (List.getElem_mem ha1)
        have HFa := Lib.hid (show faceF (x.faces.take a) x.faces[a] ≠ 0 → classF x = faceF (x.faces.take a) x.faces[a] from fun h => by
          have e := HT.out.fault ha1 h
          rw [← e] at h ⊢
          exact classF_face H0.out h)
        have HNx := Lib.hid (show faceF (x.faces.take a) x.faces[a] = 0 → _ from fun h => HT.out.next ha1 h)
        have HNy := fun w => isName_any (bs x.faces[a]) w (by rw [bs_size]; unfold maxLen; omega)
        have HIn := fun q => rin_any (some ⟨b1, o1, none⟩) a j (x.faces.take a) x.faces[a] (v.drewN q) (StrRow.below (SRow.take HRA.out ha) (below_drawn (Below.refl _ _) q)) (by omega)
        have hcut := fun W => pre_str b1 o1 i j a (Nat.le_trans ha HRA.out.2.1) W
        simp only [bs_list] at HNy
        generalize hP : x.faces.take a = pre at *
        generalize x.faces[a] = y at *
        clear hP
        cases hny : nameB y with
        | false =>
          have HV := Lib.hid (HFa.out (by rw [faceF_name hny]; decide))
          rw [faceF_name hny] at HV
          rw [hny] at HNy
          replace HNy := Lib.hid HNy
          clear HFa HNx HIn hcut hny
          go_wp2_with (first
            | (go_at_call 26; (with_reducible refine (HNy.out _).mono ?_); rintro e w2 ⟨rfl, rfl⟩))
          go_ret
          exact ⟨ret_int (by rw [HV.out]; rfl), below_drawn HB0.out _⟩
        | true =>
          rw [hny] at HNy
          replace HNy := Lib.hid HNy
          cases hin : pre.any (· == y) with
          | true =>
            have HV := Lib.hid (HFa.out (by rw [faceF_twice hny hin]; decide))
            rw [faceF_twice hny hin] at HV
            rw [hin] at HIn
            replace HIn := Lib.hid HIn
            clear HFa HNx hny hin
            go_wp2_with (first
              | (go_at_call 26; (with_reducible refine (HNy.out _).mono ?_); rintro e w2 ⟨rfl, rfl⟩))
            go_quiet ((go_at_call 18; exact quiet_more (HIn.out _)))
            go_wp2
            go_ret
            exact ⟨ret_int (by rw [HV.out]; rfl), below_drawn (below_drawn HB0.out _) _⟩
          | false =>
            have HT2 := Lib.hid (HNx.out (faceF_none hny hin))
            rw [hin] at HIn
            replace HIn := Lib.hid HIn
            clear HFa HNx hny hin
            go_wp2_with (first
              | (go_at_call 26; (with_reducible refine (HNy.out _).mono ?_); rintro e w2 ⟨rfl, rfl⟩))
            go_quiet ((go_at_call 18; exact quiet_more (HIn.out _)))
            go_wp2
            go_roundw
            case rel => exact ⟨a + 1, _, by omega, by go_num, HT2, rfl⟩
            case measure => first | (simp [intOf]; omega) | simp [intOf]
      · obtain rfl : a = i := by omega
        have HF0 := Lib.hid (HT.out.all HLI.out)
        clear HT hlt ha
        have h8c : 8 < a ∨ (¬ 8 < a ∧ 8 < k) ∨ (¬ 8 < a ∧ ¬ 8 < k ∧ 8 < m) ∨ (¬ 8 < a ∧ ¬ 8 < k ∧ ¬ 8 < m) := by omega
        rcases h8c with g1 | ⟨g1, g2⟩ | ⟨g1, g2, g3⟩ | ⟨g1, g2, g3⟩
        · have HV := Lib.hid (classF_full H0.out HF0.out (.inl (by rw [HLI.out]; exact g1)))
          have e1 : decide ((8 : Int) < (a : Int)) = true := decide_eq_true (by omega)
          go_wp2_with fail
          go_ret
          exact ⟨ret_int (by rw [HV.out]; rfl), below_drawn HB0.out _⟩
        · have HV := Lib.hid (classF_full H0.out HF0.out (.inr (.inl (by rw [HLK.out]; exact g2))))
          have e1 : decide ((8 : Int) < (a : Int)) = false := decide_eq_false (by omega)
          have e2 : decide ((8 : Int) < (k : Int)) = true := decide_eq_true (by omega)
          go_wp2_with fail
          go_ret
          exact ⟨ret_int (by rw [HV.out]; rfl), below_drawn HB0.out _⟩
        · have HV := Lib.hid (classF_full H0.out HF0.out (.inr (.inr (by rw [HLM.out]; exact g3))))
          have e1 : decide ((8 : Int) < (a : Int)) = false := decide_eq_false (by omega)
          have e2 : decide ((8 : Int) < (k : Int)) = false := decide_eq_false (by omega)
          have e3 : decide ((8 : Int) < (m : Int)) = true := decide_eq_true (by omega)
          go_wp2_with fail
          go_ret
          exact ⟨ret_int (by rw [HV.out]; rfl), below_drawn HB0.out _⟩
        have H8 := Lib.hid (show ¬ (8 < x.faces.length ∨ 8 < x.fields.length ∨ 8 < x.meths.length) by rw [HLI.out, HLK.out, HLM.out]; omega)
        have HFi := Lib.hid (fun h => classF_field H0.out HF0.out H8.out h)
        have HMi := Lib.hid (fun h1 h2 => classF_meth H0.out HF0.out H8.out h1 h2)
        have HEi := Lib.hid (fun h1 h2 => classF_end H0.out HF0.out H8.out h1 h2)
        clear HF0 H8 H0
        have e1 : decide ((8 : Int) < (a : Int)) = false := decide_eq_false (by omega)
        have e2 : decide ((8 : Int) < (k : Int)) = false := decide_eq_false (by omega)
        have e3 : decide ((8 : Int) < (m : Int)) = false := decide_eq_false (by omega)
        go_wp2_with fail
        go_loopw [4, 5] (fun v1 _ wr => ∃ a b : Nat, a ≤ k ∧ v1 = .int .i64 a ∧ Hid (CleanTo fieldF x.fields a) ∧ wr = v.drewN b) (fun v1 _ _ => k - (intOf v1).toNat)
        case atStart => exact ⟨0, b, Nat.zero_le _, rfl, Lib.hid (CleanTo.start _ _), rfl⟩
        case round =>
          obtain ⟨a2, b', ha, rfl, HT, rfl⟩ := hrel
          by_cases hlt : a2 < k
          · obtain ⟨b1, o1, rfl, hb1, hx1⟩ := SRow.at_ HRB.out hlt
            have ha1 : a2 < x.fields.length := by rw [HLK.out]; exact hlt
            have hys := HX.out.2.2.2.1.1 _ (List.getElem_mem ha1)
            have HFa := Lib.hid (show fieldF (x.fields.take a2) x.fields[a2] ≠ 0 → classF x = fieldF (x.fields.take a2) x.fields[a2] from fun h => by
              have e := HT.out.fault ha1 h
              rw [← e] at h ⊢
              exact HFi.out h)
            have HNx := Lib.hid (show fieldF (x.fields.take a2) x.fields[a2] = 0 → _ from fun h => HT.out.next ha1 h)
            have HNy := fun w => isName_any (bs x.fields[a2].nm) w (by rw [bs_size]; have := hys.1; unfold maxLen; omega)
            have HTy := fun w => isType_any (bs x.fields[a2].ty) w (by rw [bs_size]; have := hys.2; unfold maxLen; omega)
            rw [show (bs x.fields[a2].ty).data.toList = x.fields[a2].ty from rfl] at HTy
            rw [show (bs x.fields[a2].nm).data.toList = x.fields[a2].nm from rfl] at HNy
            obtain ⟨c0, c1⟩ := hx1
            have HRB2 := Lib.hid (HRB.out)
            generalize hY : x.fields[a2] = y at *
            have hcase : (nameB y.nm = false) ∨ (nameB y.nm = true ∧ isTypeB y.ty = false) ∨ (nameB y.nm = true ∧ isTypeB y.ty = true) := by
              cases nameB y.nm <;> cases isTypeB y.ty <;> simp
            rcases hcase with h1 | ⟨h1, h2⟩ | ⟨h1, h2⟩
            · have HV := Lib.hid (HFa.out (by rw [fieldF_bad (by rw [h1]; rfl)]; decide))
              rw [fieldF_bad (by rw [h1]; rfl)] at HV
              rw [h1] at HNy
              replace HNy := Lib.hid HNy
              clear HFa HNx h1 HTy hY
              go_wp2_with (first
                | (go_at_call 26; (with_reducible refine (HNy.out _).mono ?_); rintro e w2 ⟨rfl, rfl⟩))
              go_ret
              exact ⟨ret_int (by rw [HV.out]; rfl), below_drawn HB0.out _⟩
            · have HV := Lib.hid (HFa.out (by rw [fieldF_bad (by rw [h1, h2]; rfl)]; decide))
              rw [fieldF_bad (by rw [h1, h2]; rfl)] at HV
              rw [h1] at HNy
              rw [h2] at HTy
              replace HNy := Lib.hid HNy
              replace HTy := Lib.hid HTy
              clear HFa HNx h1 h2 hY
              go_wp2_with (first
                | (go_at_call 26; (with_reducible refine (HNy.out _).mono ?_); rintro e w2 ⟨rfl, rfl⟩)
                | (go_at_call 27; (with_reducible refine (HTy.out _).mono ?_); rintro e w2 ⟨rfl, rfl⟩))
              go_ret
              exact ⟨ret_int (by rw [HV.out]; rfl), below_drawn HB0.out _⟩
            · have HOK := Lib.hid (show (nameB y.nm && isTypeB y.ty) = true by rw [h1, h2]; rfl)
              rw [h1] at HNy
              rw [h2] at HTy
              replace HNy := Lib.hid HNy
              replace HTy := Lib.hid HTy
              clear h1 h2 hY
              go_wp2_with (first
                | (go_at_call 26; (with_reducible refine (HNy.out _).mono ?_); rintro e w2 ⟨rfl, rfl⟩)
                | (go_at_call 27; (with_reducible refine (HTy.out _).mono ?_); rintro e w2 ⟨rfl, rfl⟩))
              go_loopw [5] (fun v1 wr => ∃ e b : Nat, e ≤ a2 ∧ v1 = .int .i64 e ∧ Hid ((x.fields.take e).any (fun z => z.nm == y.nm) = false) ∧ wr = v.drewN b) (fun v1 _ => a2 - (intOf v1).toNat)
              case atStart => exact ⟨0, b', Nat.zero_le _, rfl, Lib.hid rfl, rfl⟩
              case round =>
                obtain ⟨e, b2, he, rfl, HE, rfl⟩ := hrel
                by_cases hlt2 : e < a2
                · obtain ⟨b3, o3, hA3, hb3, hx3⟩ := SRow.at_ HRB.out (j := e) (by omega)
                  obtain ⟨rfl, rfl⟩ : b1 = b3 ∧ o1 = o3 := by simpa using hA3
                  have he1 : e < x.fields.length := by omega
                  have HN2 := Lib.hid (show (x.fields[e].nm == y.nm) = false → _ from fun h => any_take (p := fun z => z.nm == y.nm) he1 HE.out h)
                  have HY2 := Lib.hid (show (x.fields[e].nm == y.nm) = true → (x.fields.take a2).any (fun z => z.nm == y.nm) = true from fun h => any_at (p := fun z => z.nm == y.nm) (l := x.fields.take a2) (j := e) (by rw [List.length_take]; omega) (by rw [List.getElem_take]; exact h))
                  generalize x.fields[e] = z at *
                  obtain ⟨d0, d1⟩ := hx3
                  by_cases hz : z.nm = y.nm
                  · have HV := Lib.hid (HFa.out (by rw [fieldF_twice HOK.out (HY2.out (by simp [hz]))]; decide))
                    rw [fieldF_twice HOK.out (HY2.out (by simp [hz]))] at HV
                    rw [hz] at d0
                    clear HFa HNx HN2 HY2 hz hA3
                    go_wp2
                    go_quiet (fail)
                    go_wp2
                    go_ret
                    exact ⟨ret_int (by rw [HV.out]; rfl), below_drawn (below_drawn HB0.out _) _⟩
                  · have HE2 := Lib.hid (HN2.out (by simpa using hz))
                    have hne2 := str_ne hz
                    clear HN2 HY2 hz hA3
                    go_wp2
                    go_quiet (fail)
                    go_wp2
                    go_roundw
                    case rel => exact ⟨e + 1, _, by omega, by go_num, HE2, rfl⟩
                    case measure => first | (simp [intOf]; omega) | simp [intOf]
                · obtain rfl : e = a2 := by omega
                  have HT2 := Lib.hid (HNx.out (fieldF_none HOK.out HE.out))
                  clear HFa HNx
                  go_wp2
                  go_roundw
                  case rel => exact ⟨e + 1, b2, by omega, by go_num, HT2, rfl⟩
                  case measure => first | (simp [intOf]; omega) | simp [intOf]
          · obtain rfl : a2 = k := by omega
            have HD0 := Lib.hid (HT.out.all HLK.out)
            have HMi2 := Lib.hid (fun h => HMi.out HD0.out h)
            have HEi2 := Lib.hid (fun h => HEi.out HD0.out h)
            clear HT hlt ha HFi HMi HEi HD0
            go_wp2_with fail
            go_loopw [6, 7] (fun v1 _ wr => ∃ a : Nat, a ≤ m ∧ v1 = .int .i64 a ∧ Hid (CleanTo mtdF x.meths a) ∧ Hid (Below v.heap.size v wr)) (fun v1 _ _ => m - (intOf v1).toNat)
            case atStart => exact ⟨0, Nat.zero_le _, rfl, Lib.hid (CleanTo.start _ _), Lib.hid (below_drawn (Below.refl _ _) _)⟩
            case round =>
              obtain ⟨a3, ha, rfl, HT, HBr⟩ := hrel
              obtain ⟨r0, r1, r2, r3, r4, r5, r6⟩ := HCB.out.below HBr.out
              by_cases hlt : a3 < m
              · obtain ⟨b1, o1, rfl, hb1, hx1⟩ := SRow.at_ (HRC.out.below HBr.out) hlt
                have ha1 : a3 < x.meths.length := by rw [HLM.out]; exact hlt
                have hys := HX.out.2.2.2.2.1 _ (List.getElem_mem ha1)
                have hyw := HW.out _ (List.getElem_mem ha1)
                have HFa := Lib.hid (show mtdF (x.meths.take a3) x.meths[a3] ≠ 0 → classF x = mtdF (x.meths.take a3) x.meths[a3] from fun h => by
                  have e := HT.out.fault ha1 h
                  rw [← e] at h ⊢
                  exact HMi2.out h)
                have HNx := Lib.hid (show mtdF (x.meths.take a3) x.meths[a3] = 0 → _ from fun h => HT.out.next ha1 h)
                have hrow := SRow.take (HRC.out.below HBr.out) ha
                have hcut := fun W => pre_meth b1 o1 m n a3 (Nat.le_trans ha HRC.out.2.1) W
                generalize x.meths.take a3 = pre at *
                generalize x.meths[a3] = y at *
                obtain ⟨c0, c1, c2, c3, c4, c5, ⟨A6, n6, c6, hc6, R6, _⟩, ⟨A7, n7, c7, hc7, R7, _⟩⟩ := hx1
                have HMe := rmeth_any y pre A6 n6 c6 A7 n7 c7 (some ⟨b1, o1, none⟩) a3 n wr.drew (R6.below (Below.refl _ _).drew) (R7.below (Below.refl _ _).drew) (MethRow.below hrow (Below.refl _ _).drew) hys hyw (by omega)
                unfold methV at HMe
                clear hrow hys hyw
                by_cases hf0 : mtdF pre y = 0
                · have HT2 := Lib.hid (HNx.out hf0)
                  rw [hf0] at HMe
                  replace HMe := Lib.hid HMe
                  clear HFa HNx hf0 R6 R7
                  go_wp2_with fail
                  first | go_region_held (fun w' => w'.cell? ⟨w.heap.size, 5, none⟩ = some (.slice (some ⟨b1, o1, none⟩) m n) ∧ w'.cell? ⟨b1, o1 + a3 * 8, none⟩ = some (.string (bs y.nm)) ∧ w'.cell? ⟨b1, o1 + a3 * 8 + 1, none⟩ = some (.string (bs y.ty)) ∧ w'.cell? ⟨b1, o1 + a3 * 8 + 2, none⟩ = some (.bool y.st) ∧ w'.cell? ⟨b1, o1 + a3 * 8 + 3, none⟩ = some (.bool y.ab) ∧ w'.cell? ⟨b1, o1 + a3 * 8 + 4, none⟩ = some (.bool y.pr) ∧ w'.cell? ⟨b1, o1 + a3 * 8 + 5, none⟩ = some (.int .i64 y.lo) ∧ w'.cell? ⟨b1, o1 + a3 * 8 + 6, none⟩ = some (.slice A6 n6 c6) ∧ w'.cell? ⟨b1, o1 + a3 * 8 + 7, none⟩ = some (.slice A7 n7 c7))
                    (first | exact ⟨r6, c0, c1, c2, c3, c4, c5, hc6, hc7⟩ | exact ⟨s6, d0, d1, d2, d3, d4, d5, d6, d7⟩)
                    (first
                      | (go_at_call 28; (with_reducible refine HMe.out.mono ?_); rintro e w5 ⟨rfl, hb⟩; have B5 := Lib.hid (bnext HBr.out (behind_drew1 hb))
                         have s6 := (Below.cell (behind_drew1 hb) (p := ⟨w.heap.size, 5, none⟩) r0).trans r6
                         have d0 := (Below.cell (behind_drew1 hb) (p := ⟨b1, o1 + a3 * 8, none⟩) hb1).trans c0
                         have d1 := (Below.cell (behind_drew1 hb) (p := ⟨b1, o1 + a3 * 8 + 1, none⟩) hb1).trans c1
                         have d2 := (Below.cell (behind_drew1 hb) (p := ⟨b1, o1 + a3 * 8 + 2, none⟩) hb1).trans c2
                         have d3 := (Below.cell (behind_drew1 hb) (p := ⟨b1, o1 + a3 * 8 + 3, none⟩) hb1).trans c3
                         have d4 := (Below.cell (behind_drew1 hb) (p := ⟨b1, o1 + a3 * 8 + 4, none⟩) hb1).trans c4
                         have d5 := (Below.cell (behind_drew1 hb) (p := ⟨b1, o1 + a3 * 8 + 5, none⟩) hb1).trans c5
                         have d6 := (Below.cell (behind_drew1 hb) (p := ⟨b1, o1 + a3 * 8 + 6, none⟩) hb1).trans hc6
                         have d7 := (Below.cell (behind_drew1 hb) (p := ⟨b1, o1 + a3 * 8 + 7, none⟩) hb1).trans hc7
                         clear hb)) | fail
                  all_goals
                    go_wp2_with fail
                    go_round
                    case rel => exact ⟨a3 + 1, by omega, by go_num, HT2, B5⟩
                    case measure => first | (simp [intOf]; omega) | simp [intOf]
                · have HV := Lib.hid (HFa.out hf0)
                  have hne2 : ((mtdF pre y : Int) != 0) = true := by rw [bne_iff_ne]; omega
                  clear HFa HNx hf0 R6 R7
                  generalize mtdF pre y = ff at *
                  replace HMe := Lib.hid HMe
                  go_wp2_with fail
                  first | go_region_held (fun w' => w'.cell? ⟨w.heap.size, 5, none⟩ = some (.slice (some ⟨b1, o1, none⟩) m n) ∧ w'.cell? ⟨b1, o1 + a3 * 8, none⟩ = some (.string (bs y.nm)) ∧ w'.cell? ⟨b1, o1 + a3 * 8 + 1, none⟩ = some (.string (bs y.ty)) ∧ w'.cell? ⟨b1, o1 + a3 * 8 + 2, none⟩ = some (.bool y.st) ∧ w'.cell? ⟨b1, o1 + a3 * 8 + 3, none⟩ = some (.bool y.ab) ∧ w'.cell? ⟨b1, o1 + a3 * 8 + 4, none⟩ = some (.bool y.pr) ∧ w'.cell? ⟨b1, o1 + a3 * 8 + 5, none⟩ = some (.int .i64 y.lo) ∧ w'.cell? ⟨b1, o1 + a3 * 8 + 6, none⟩ = some (.slice A6 n6 c6) ∧ w'.cell? ⟨b1, o1 + a3 * 8 + 7, none⟩ = some (.slice A7 n7 c7))
                    (first | exact ⟨r6, c0, c1, c2, c3, c4, c5, hc6, hc7⟩ | exact ⟨s6, d0, d1, d2, d3, d4, d5, d6, d7⟩)
                    (first
                      | (go_at_call 28; (with_reducible refine HMe.out.mono ?_); rintro e w5 ⟨rfl, hb⟩; have B5 := Lib.hid (bnext HBr.out (behind_drew1 hb))
                         have s6 := (Below.cell (behind_drew1 hb) (p := ⟨w.heap.size, 5, none⟩) r0).trans r6
                         have d0 := (Below.cell (behind_drew1 hb) (p := ⟨b1, o1 + a3 * 8, none⟩) hb1).trans c0
                         have d1 := (Below.cell (behind_drew1 hb) (p := ⟨b1, o1 + a3 * 8 + 1, none⟩) hb1).trans c1
                         have d2 := (Below.cell (behind_drew1 hb) (p := ⟨b1, o1 + a3 * 8 + 2, none⟩) hb1).trans c2
                         have d3 := (Below.cell (behind_drew1 hb) (p := ⟨b1, o1 + a3 * 8 + 3, none⟩) hb1).trans c3
                         have d4 := (Below.cell (behind_drew1 hb) (p := ⟨b1, o1 + a3 * 8 + 4, none⟩) hb1).trans c4
                         have d5 := (Below.cell (behind_drew1 hb) (p := ⟨b1, o1 + a3 * 8 + 5, none⟩) hb1).trans c5
                         have d6 := (Below.cell (behind_drew1 hb) (p := ⟨b1, o1 + a3 * 8 + 6, none⟩) hb1).trans hc6
                         have d7 := (Below.cell (behind_drew1 hb) (p := ⟨b1, o1 + a3 * 8 + 7, none⟩) hb1).trans hc7
                         clear hb)) | fail
                  all_goals
                    go_wp2_with fail
                    go_ret
                    exact ⟨ret_int (by rw [HV.out]), bnext HB0.out B5.out⟩
              · obtain rfl : a3 = m := by omega
                have HE := Lib.hid (HEi2.out (HT.out.all HLM.out))
                have hk := HLK.out
                have hcase : (x.face = false ∧ Hid (classF x = 0)) ∨ (x.face = true ∧ a2 = 0 ∧ Hid (classF x = 0)) ∨ (x.face = true ∧ 0 < a2 ∧ Hid (classF x = 8)) := by
                  have e := HE.out
                  rw [hk] at e
                  cases hfc : x.face with
                  | false => rw [hfc] at e; exact .inl ⟨rfl, Lib.hid (by simpa using e)⟩
                  | true =>
                    rw [hfc] at e
                    rcases Nat.eq_zero_or_pos a2 with h | h
                    · exact .inr (.inl ⟨rfl, h, Lib.hid (by rw [h] at e; simpa using e)⟩)
                    · exact .inr (.inr ⟨rfl, h, Lib.hid (by
                        have h' : a2 ≠ 0 := by omega
                        simpa [h'] using e)⟩)
                clear hk HE
                rcases hcase with ⟨g1, HV⟩ | ⟨g1, g2, HV⟩ | ⟨g1, g2, HV⟩
                all_goals
                  rw [g1] at r4
                  go_wp2_with fail
                  go_ret
                  exact ⟨ret_int (by rw [HV.out]; rfl), bnext HB0.out HBr.out⟩
theorem rclass_any (x : ClassD) (A : Option Addr) (i j : Nat) (B : Option Addr) (k l : Nat) (C : Option Addr) (m n : Nat) (w : World) (RA : StrRow w A i j x.faces) (RB : FieldRow w B k l x.fields) (RC : MethRow w C m n x.meths) (hx : x.upto 1048576) (hw : x.wf) :
    Calls Tryz.prog 15 #[classV x A i j B k l C m n] w fun e w' => e = .returned (.int .i64 (classF x : Int)) ∧ Below w.heap.size w w' := by
  cases h : headB_ x with
  | false => exact rclass_name x A i j B k l C m n w hx h
  | true => exact rclass_rest x A i j B k l C m n w RA RB RC hx hw h
end Go.Proofs.YthcjdkjjjlpjaaaGreatDoor
