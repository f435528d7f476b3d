/- A class in a block of its own; the first elements of a slice. -/
import Derived.Test.YtkabkpkfglngnaaDoorClR
import Derived.Test.YtkabkpkfglngnaaDoorClN
import Derived.Test.YtkabkpkfglngnaaDoorIn2
import Derived.Deep.QuietTactic
import Derived.BigQuiet
namespace Go.Proofs.YtkabkpkfglngnaaDoor
open Go.ChangeShapes Go.WideShapes Go.ChangeAt Go.RowKit
set_option linter.unusedVariables false

/-- A class in a block of its own. -/
def CBox (w : World) (b : Nat) (x : ClassD) (A : Option Addr) (i j : Nat) (B : Option Addr) (k l : Nat) (C : Option Addr) (m n : Nat) : Prop :=
  b < w.heap.size ∧ w.cell? ⟨b, 0, none⟩ = some (.string (bs x.nm)) ∧ w.cell? ⟨b, 1, none⟩ = some (.string (bs x.su)) ∧ w.cell? ⟨b, 2, none⟩ = some (.slice A i j) ∧ w.cell? ⟨b, 3, none⟩ = some (.bool x.face) ∧
  w.cell? ⟨b, 4, none⟩ = some (.slice B k l) ∧ w.cell? ⟨b, 5, none⟩ = some (.slice C m n)
theorem CBox.below {w w' : World} {b : Nat} {x : ClassD} {A : Option Addr} {i j : Nat} {B : Option Addr} {k l : Nat} {C : Option Addr} {m n : Nat} (h : CBox w b x A i j B k l C m n) (hb : Below w.heap.size w w') : CBox w' b x A i j B k l C m n := by
  obtain ⟨h0, h1, h2, h3, h4, h5, h6⟩ := h
  exact ⟨Nat.lt_of_lt_of_le h0 hb.size, (hb.cell (by exact h0)).trans h1, (hb.cell (by exact h0)).trans h2, (hb.cell (by exact h0)).trans h3, (hb.cell (by exact h0)).trans h4, (hb.cell (by exact h0)).trans h5, (hb.cell (by exact h0)).trans h6⟩
theorem CBox.drewN {w : World} {b : Nat} {x : ClassD} {A : Option Addr} {i j : Nat} {B : Option Addr} {k l : Nat} {C : Option Addr} {m n : Nat} (h : CBox w b x A i j B k l C m n) (q : Nat) : CBox (w.drewN q) b x A i j B k l C m n := h
theorem cbox_at (w : World) (x : ClassD) (A : Option Addr) (i j : Nat) (B : Option Addr) (k l : Nat) (C : Option Addr) (m n : Nat) (t : TypeId) (f : Nat × Nat) :
    CBox (w.alloc (.cells #[.string (bs x.nm), .string (bs x.su), .slice A i j, .bool x.face, .slice B k l, .slice C m n] t f)) w.heap.size x A i j B k l C m n :=
  ⟨by simp, World.cell?_alloc_mark .., World.cell?_alloc_mark .., World.cell?_alloc_mark .., World.cell?_alloc_mark .., World.cell?_alloc_mark .., World.cell?_alloc_mark ..⟩

/-! The first h elements of a slice. -/
theorem SRow.take {α : Type} {At : World → Nat → Nat → α → Prop} {k : Nat} {w : World} {A : Option Addr} {n c : Nat} {l : List α} (R : SRow At k w A n c l) {h : Nat} (hh : h ≤ n) : SRow At k w A h c (l.take h) := by
  obtain ⟨h1, h2, h3⟩ := R
  refine ⟨by rw [List.length_take]; omega, by omega, fun h0 => ?_⟩
  obtain ⟨b, o, e, hb, hc⟩ := h3 (by omega)
  refine ⟨b, o, e, hb, fun j x hx => hc j x ?_⟩
  have hj : j < h := by have := (List.getElem?_eq_some_iff.1 hx).1; rw [List.length_take] at this; omega
  rwa [List.getElem?_take_of_lt hj] at hx
/-- Where the first h elements of a slice begin. -/
def cut0 (A : Option Addr) (c s : Nat) : Option Addr := if c = 0 then A else A.map (·.add (0 * s))
theorem cut0_none {A : Option Addr} {c s : Nat} : cut0 A c s = none ↔ A = none := by
  unfold cut0
  split
  · exact Iff.rfl
  · cases A <;> simp
theorem SRow.cut {α : Type} {At : World → Nat → Nat → α → Prop} {k : Nat} {w : World} {A : Option Addr} {n c : Nat} {l : List α} (R : SRow At k w A n c l) {h : Nat} (hh : h ≤ n) (s : Nat) : SRow At k w (cut0 A c s) h c (l.take h) := by
  have R' := R.take hh
  refine ⟨R'.1, R'.2.1, fun h0 => ?_⟩
  obtain ⟨b, o, rfl, hb, hc⟩ := R'.2.2 h0
  refine ⟨b, o, ?_, hb, hc⟩
  unfold cut0
  split <;> simp [add_spotless]
theorem cut_any {t e : TypeId} {s : Nat} (h1 : Tryd.prog.underlying t = some (.slice (Tryd.prog.elem t))) (h2 : Tryd.prog.elem t = e) (h3 : ∀ w, (Go.sizeOf e).run Tryd.prog w = .ok s w) (A : Option Addr) (n c h : Nat) (hc : h ≤ c) (W : World) :
    (Instr.sliceAt t (.slice A n c) none (some (.int .i64 (h : Int))) none).run Tryd.prog W = .ok (.slice (cut0 A c s) h c) W := by
  rw [run_sliceAt_slice W _ _ _ _ _ h1, run_slice_h W _ _ n c h1 .i64 _ (by omega) (by omega), h2, h3]
  rfl
theorem cut_str (A : Option Addr) (n c h : Nat) (hc : h ≤ c) (W : World) : (Instr.sliceAt 22 (.slice A n c) none (some (.int .i64 (h : Int))) none).run Tryd.prog W = .ok (.slice (cut0 A c 1) h c) W :=
  cut_any (by kernel_rfl) (show Tryd.prog.elem 22 = 9 by kernel_rfl) (fun w => by kernel_rfl) A n c h hc W
theorem cut_field (A : Option Addr) (n c h : Nat) (hc : h ≤ c) (W : World) : (Instr.sliceAt 23 (.slice A n c) none (some (.int .i64 (h : Int))) none).run Tryd.prog W = .ok (.slice (cut0 A c 2) h c) W :=
  cut_any (by kernel_rfl) (show Tryd.prog.elem 23 = 36 by kernel_rfl) (fun w => by kernel_rfl) A n c h hc W
theorem cut_meth (A : Option Addr) (n c h : Nat) (hc : h ≤ c) (W : World) : (Instr.sliceAt 24 (.slice A n c) none (some (.int .i64 (h : Int))) none).run Tryd.prog W = .ok (.slice (cut0 A c 8) h c) W :=
  cut_any (by kernel_rfl) (show Tryd.prog.elem 24 = 41 by kernel_rfl) (fun w => by kernel_rfl) A n c h hc W
/-- A window, by what its run gives. -/
theorem wpList_cut {P : Program} {ops : Array Oper} {rest : List Oper} {a : Act} {Q : Exit → Act → World → Prop} {w : World} {t ty : TypeId} {x : Operand} {lo hi : Option Operand} {d : Option Tmp} {p : String} {af : Array Edge} (r : Value)
    (hr : (Instr.sliceAt t (a.eval x) (lo.map a.eval) (hi.map a.eval) none).run P w = .ok r w) (h : wpList P ops Q rest (a.put d r) w) : wpList P ops Q ({ dst := d, op := .slice t x lo hi none, type := ty, pos := p, after := af, guard := none } :: rest) a w := by
  refine wpList_plain rfl fun K hK => ?_
  unfold Oper.wp
  simp [execOp, hr, Result.andThen]
  exact hK _ _ h
theorem StrRow.take {w : World} {A : Option Addr} {n c : Nat} {l : List (List UInt8)} (R : StrRow w A n c l) {h : Nat} (hh : h ≤ n) : StrRow w A h c (l.take h) := SRow.take R hh
theorem FieldRow.take {w : World} {A : Option Addr} {n c : Nat} {l : List FieldD} (R : FieldRow w A n c l) {h : Nat} (hh : h ≤ n) : FieldRow w A h c (l.take h) := SRow.take R hh
theorem MethRow.take {w : World} {A : Option Addr} {n c : Nat} {l : List MethD} (R : MethRow w A n c l) {h : Nat} (hh : h ≤ n) : MethRow w A h c (l.take h) := SRow.take R hh
theorem sliced_pre (b o c h s : Nat) : sliced (some ⟨b, o, none⟩) 0 h c s = .slice (some ⟨b, o, none⟩) h c := by
  unfold sliced
  split <;> simp [add_spotless]
theorem size_str (w : World) : (Go.sizeOf 9).run Tryd.prog w = .ok 1 w := by kernel_rfl
theorem pre_str (b o n c h : Nat) (hc : h ≤ c) (W : World) : (Instr.sliceAt 22 (.slice (some ⟨b, o, none⟩) n c) none (some (.int .i64 (h : Int))) none).run Tryd.prog W = .ok (.slice (some ⟨b, o, none⟩) h c) W := by
  have e : Tryd.prog.underlying 22 = some (.slice (Tryd.prog.elem 22)) := by kernel_rfl
  have e2 : Tryd.prog.elem 22 = 9 := by kernel_rfl
  rw [run_sliceAt_slice W _ _ _ _ _ e, run_slice_h W _ _ n c e .i64 _ (by omega) (by omega), e2, size_str]
  show Result.ok (sliced (some ⟨b, o, none⟩) 0 h c 1) W = _
  rw [sliced_pre]
theorem size_meth (w : World) : (Go.sizeOf 41).run Tryd.prog w = .ok 8 w := by kernel_rfl
theorem pre_meth (b o n c h : Nat) (hc : h ≤ c) (W : World) : (Instr.sliceAt 24 (.slice (some ⟨b, o, none⟩) n c) none (some (.int .i64 (h : Int))) none).run Tryd.prog W = .ok (.slice (some ⟨b, o, none⟩) h c) W := by
  have e : Tryd.prog.underlying 24 = some (.slice (Tryd.prog.elem 24)) := by kernel_rfl
  have e2 : Tryd.prog.elem 24 = 41 := by kernel_rfl
  rw [run_sliceAt_slice W _ _ _ _ _ e, run_slice_h W _ _ n c e .i64 _ (by omega) (by omega), e2, size_meth]
  show Result.ok (sliced (some ⟨b, o, none⟩) 0 h c 8) W = _
  rw [sliced_pre]

end Go.Proofs.YtkabkpkfglngnaaDoor
