/- The contract of the reference's methodFault. -/
import Derived.Test.YtkolpbjpgobkcaaDoorGE
namespace Go.Proofs.YtkolpbjpgobkcaaDoor
open Go.ChangeShapes Go.WideShapes Go.ChangeAt Go.RowKit
set_option linter.unusedVariables false
attribute [local go_sem] eqGuard_errV_nil eqGuard_errV_iface eql_errV_nil neq_errV_nil eql_errV_form

/-- The value of a method: its texts and numbers, and the slices of its lists. -/
def methV (m : MethD) (A : Option Addr) (i j : Nat) (B : Option Addr) (k l : Nat) : Value := .agg #[.string (bs m.nm), .string (bs m.ty), .bool m.st, .bool m.ab, .bool m.pr, .int .i64 m.lo, .slice A i j, .slice B k l]
/-- A method in a block of its own. -/
def MBox (w : World) (b : Nat) (m : MethD) (A : Option Addr) (i j : Nat) (B : Option Addr) (k l : Nat) : Prop :=
  b < w.heap.size ∧ w.cell? ⟨b, 0, none⟩ = some (.string (bs m.nm)) ∧ w.cell? ⟨b, 1, none⟩ = some (.string (bs m.ty)) ∧ w.cell? ⟨b, 2, none⟩ = some (.bool m.st) ∧ w.cell? ⟨b, 3, none⟩ = some (.bool m.ab) ∧
  w.cell? ⟨b, 4, none⟩ = some (.bool m.pr) ∧ w.cell? ⟨b, 5, none⟩ = some (.int .i64 m.lo) ∧ w.cell? ⟨b, 6, none⟩ = some (.slice A i j) ∧ w.cell? ⟨b, 7, none⟩ = some (.slice B k l)
theorem MBox.below {w w' : World} {b : Nat} {m : MethD} {A : Option Addr} {i j : Nat} {B : Option Addr} {k l : Nat} (h : MBox w b m A i j B k l) (hb : Below w.heap.size w w') : MBox w' b m A i j B k l := by
  obtain ⟨h0, h1, h2, h3, h4, h5, h6, h7, h8⟩ := h
  exact ⟨Nat.lt_of_lt_of_le h0 hb.size, (hb.cell (by exact h0)).trans h1, (hb.cell (by exact h0)).trans h2, (hb.cell (by exact h0)).trans h3, (hb.cell (by exact h0)).trans h4, (hb.cell (by exact h0)).trans h5, (hb.cell (by exact h0)).trans h6, (hb.cell (by exact h0)).trans h7, (hb.cell (by exact h0)).trans h8⟩
theorem MBox.drewN {w : World} {b : Nat} {m : MethD} {A : Option Addr} {i j : Nat} {B : Option Addr} {k l : Nat} (h : MBox w b m A i j B k l) (q : Nat) : MBox (w.drewN q) b m A i j B k l := h
theorem mbox_at (w : World) (m : MethD) (A : Option Addr) (i j : Nat) (B : Option Addr) (k l : Nat) (t : TypeId) (f : Nat × Nat) :
    MBox (w.alloc (.cells #[.string (bs m.nm), .string (bs m.ty), .bool m.st, .bool m.ab, .bool m.pr, .int .i64 m.lo, .slice A i j, .slice B k l] t f)) w.heap.size m A i j B k l :=
  ⟨by simp, World.cell?_alloc_mark .., World.cell?_alloc_mark .., World.cell?_alloc_mark .., World.cell?_alloc_mark .., World.cell?_alloc_mark .., World.cell?_alloc_mark .., World.cell?_alloc_mark .., World.cell?_alloc_mark ..⟩
theorem mbox_new {w w' : World} {o : Obj} (m : MethD) (A : Option Addr) (i j : Nat) (B : Option Addr) (k l : Nat) (t : TypeId) (f : Nat × Nat) (ho : o = .cells #[.string (bs m.nm), .string (bs m.ty), .bool m.st, .bool m.ab, .bool m.pr, .int .i64 m.lo, .slice A i j, .slice B k l] t f)
    (hb : Below (w.alloc o).heap.size (w.alloc o) w') : MBox w' w.heap.size m A i j B k l ∧ Below w.heap.size w w' := by
  subst ho
  exact ⟨(mbox_at w m A i j B k l t f).below hb, bnext (al1 _ _) hb⟩

theorem argsN_methP (l : List UInt8) : (methP l).1.length = argsN l := by
  unfold argsN
  cases h : methodB l with
  | none => rw [methP_none h]; rfl
  | some p => obtain ⟨a, g⟩ := p; rw [methP_some h]
theorem methodOf_row {w w' : World} {l : List UInt8} {e : Ending} (h : MethodSays w l (.bool (methS l)) e w') : ∃ A c t, e = .returned (.tuple #[.slice A (argsN l) c, .string t, .bool (methodB l).isSome]) ∧ Below w.heap.size w w' := by
  obtain ⟨hb, v, rfl, hv⟩ := h
  obtain ⟨A, c, rfl⟩ := own_form hv
  exact ⟨A, c, _, by rw [argsN_methP]; rfl, hb⟩

section
variable {pre : List MethD} {m : MethD}
theorem mtdF_bad (h : (nameB m.nm && (methodB m.ty).isSome) = false) : mtdF pre m = 1 := by unfold mtdF; rw [if_pos h]
theorem mtdF_twice (h : (nameB m.nm && (methodB m.ty).isSome) = true) (ha : pre.any (fun y => y.nm == m.nm && y.ty == m.ty) = true) : mtdF pre m = 5 := by unfold mtdF; rw [h, if_neg (by simp), if_pos ha]
theorem mtdF_range (h : (nameB m.nm && (methodB m.ty).isSome) = true) (ha : pre.any (fun y => y.nm == m.nm && y.ty == m.ty) = false) (hr : m.lo < 0 ∨ 8 < m.lo) : mtdF pre m = 2 := by
  unfold mtdF; rw [h, ha, if_neg (by simp), if_neg (by simp), if_pos hr]
theorem mtdF_rest (h : (nameB m.nm && (methodB m.ty).isSome) = true) (ha : pre.any (fun y => y.nm == m.nm && y.ty == m.ty) = false) (hr : ¬ (m.lo < 0 ∨ 8 < m.lo)) : mtdF pre m = if m.ab = true then bareF m else bodyF m := by
  unfold mtdF; rw [h, ha, if_neg (by simp), if_neg (by simp), if_neg hr]
theorem bodyF_code (h : flowF m.code ≠ 0) : bodyF m = flowF m.code := by unfold bodyF; rw [if_pos h]
theorem bodyF_few (h : flowF m.code = 0) (hw : m.lo < (wantsN m : Int)) : bodyF m = 2 := by unfold bodyF; rw [h, if_neg (by simp), if_pos hw]
theorem bodyF_local (h : flowF m.code = 0) (hw : ¬ m.lo < (wantsN m : Int)) (hl : m.code.any (localB m.lo) = true) : bodyF m = 2 := by unfold bodyF; rw [h, if_neg (by simp), if_neg hw, if_pos hl]
theorem bodyF_hands (h : flowF m.code = 0) (hw : ¬ m.lo < (wantsN m : Int)) (hl : m.code.any (localB m.lo) = false) : bodyF m = handsF m.hs m.code.length := by unfold bodyF; rw [h, if_neg (by simp), if_neg hw, hl, if_neg (by simp)]
end
/-- The first part of what methodFault does: the name, the type, the methods ahead. -/
def Fine (pre : List MethD) (m : MethD) : Prop := (nameB m.nm && (methodB m.ty).isSome) = true ∧ pre.any (fun y => y.nm == m.nm && y.ty == m.ty) = false

theorem below_drawn {w a : World} {B : Nat} (h : Below B w a) (n : Nat) : Below B w (a.drewN n) := ⟨h.os, h.tape, h.output, h.size, h.block⟩
theorem twice_next {pre : List MethD} {m : MethD} {j : Nat} (hj : j < pre.length) (h : (pre.take j).any (fun y => y.nm == m.nm && y.ty == m.ty) = false) (hn : (pre[j].nm == m.nm && pre[j].ty == m.ty) = false) : (pre.take (j + 1)).any (fun y => y.nm == m.nm && y.ty == m.ty) = false :=
  any_take (p := fun y => y.nm == m.nm && y.ty == m.ty) hj h hn
theorem twice_at {pre : List MethD} {m : MethD} {j : Nat} (hj : j < pre.length) (h1 : pre[j].nm = m.nm) (h2 : pre[j].ty = m.ty) : pre.any (fun y => y.nm == m.nm && y.ty == m.ty) = true :=
  any_at (p := fun y => y.nm == m.nm && y.ty == m.ty) hj (by simp [h1, h2])
theorem wants_static {m : MethD} (h : m.st = true) : wantsN m = argsN m.ty := by unfold wantsN; rw [h]; rfl
theorem wants_bound {m : MethD} (h : m.st = false) : wantsN m = argsN m.ty + 1 := by unfold wantsN; rw [h]; rfl
theorem argsN_le (l : List UInt8) : argsN l ≤ 5 := by
  unfold argsN
  cases h : methodB l with
  | none => exact Nat.zero_le _
  | some p =>
    obtain ⟨a, g⟩ := p
    cases l with
    | nil => cases h
    | cons c t =>
      unfold methodB at h
      repeat' (split at h)
      all_goals first
        | (cases h; done)
        | (rename_i h5
           simp only [Option.some.injEq, Prod.mk.injEq] at h
           obtain ⟨rfl, _⟩ := h
           exact h5.2.1)
end Go.Proofs.YtkolpbjpgobkcaaDoor
