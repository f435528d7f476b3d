/- The contracts of the reference's Ends, Jumps and CodeFault. The contracts of the reference's In and HandlersFault. The contract of the reference's methodFault. The contract of the reference's ClassFault. -/
import Derived.Test.YthcjdkjjjlpjaaaDoorGH
import Derived.Test.YthcjdkjjjlpjaaaDoorGD
import Derived.Test.YthcjdkjjjlpjaaaDoorGB
import Derived.Deep.RegionHeld
namespace Go.Proofs.YthcjdkjjjlpjaaaDoor
open Go.ChangeShapes Go.WideShapes Go.ChangeAt Go.RowKit
set_option linter.unusedVariables false
attribute [local go_sem] eqGuard_errV_nil eqGuard_errV_iface eql_errV_nil neq_errV_nil eql_errV_form

def InsD.small (x : InsD) : Prop := x.ty.length ≤ 1048576 ∧ x.cl.length ≤ 1048576 ∧ x.nm.length ≤ 1048576
end Go.Proofs.YthcjdkjjjlpjaaaDoor
namespace Go.Proofs.YthcjdkjjjlpjaaaDoor
open Go.ChangeShapes Go.WideShapes Go.ChangeAt Go.RowKit
set_option linter.unusedVariables false
attribute [local go_sem] eqGuard_errV_nil eqGuard_errV_iface eql_errV_nil neq_errV_nil eql_errV_form

theorem str_ne {a b : List UInt8} (h : a ≠ b) : ((bs a).toList == (bs b).toList) = false := by rw [ByteArray.toList_eq, ByteArray.toList_eq, beq_eq_false_iff_ne]; exact h
theorem any_take {α : Type} {p : α → Bool} {l : List α} {j : Nat} (hj : j < l.length) (h : (l.take j).any p = false) (hn : p l[j] = false) : (l.take (j + 1)).any p = false := by
  rw [List.take_succ_eq_append_getElem hj, List.any_append, h, List.any_cons, hn]; rfl
theorem any_at {α : Type} {p : α → Bool} {l : List α} {j : Nat} (hj : j < l.length) (hn : p l[j] = true) : l.any p = true := List.any_eq_true.2 ⟨_, List.getElem_mem hj, hn⟩
set_option maxHeartbeats 1000000 in
theorem rin_any (A : Option Addr) (n c : Nat) (xs : List (List UInt8)) (y : List UInt8) (w : World) (R : StrRow w A n c xs) (hn : n ≤ 1099511627776) :
    Calls Tryd.prog 9 #[.slice A n c, .string (bs y)] w fun e w' => e = .returned (.bool (xs.any (· == y))) ∧ w = w' := by
  have hl : xs.length = n := R.1
  have HL := Lib.hid hl
  have HR := Lib.hid R
  clear hl R
  go_enter Tryd.func9, Tryd.ntmps9
  go_wp2
  go_loop [5] (fun i => ∃ k : Nat, k ≤ n ∧ i = .int .i64 k ∧ Hid ((xs.take k).any (· == y) = false)) (fun i => n - (intOf i).toNat)
  case atStart => exact ⟨0, Nat.zero_le _, rfl, Lib.hid rfl⟩
  case round =>
    obtain ⟨k, hk, rfl, HT⟩ := hrel
    by_cases hlt : k < n
    · obtain ⟨b1, o1, rfl, hb1, hc1⟩ := HR.out.at_ hlt
      have h1 : k < xs.length := by rw [HL.out]; exact hlt
      rw [Nat.mul_one] at hc1
      unfold StrAt at hc1
      by_cases he : xs[k] = y
      · have HA := Lib.hid (any_at (p := (· == y)) h1 (by simp [he]))
        rw [he] at hc1
        clear he
        go_wp2
        go_ret
        exact ⟨ret_bool HA.out.symm, rfl⟩
      · have HT2 := Lib.hid (any_take (p := (· == y)) h1 HT.out (by simpa using he))
        have hne := str_ne he
        clear he
        go_wp2
        go_round
        case rel => exact ⟨k + 1, by omega, by go_num, HT2⟩
        case measure => first | (simp [intOf]; omega) | simp [intOf]
    · obtain rfl : k = n := by omega
      go_wp2
      go_ret
      refine ⟨ret_bool ?_, rfl⟩
      have h := HT.out
      rw [List.take_of_length_le (by rw [HL.out]; exact Nat.le_refl _)] at h
      exact h.symm

theorem span_cases {n : Nat} {x : HandD} (h : spanB n x = false) : x.fr < 0 ∨ (¬ x.fr < 0 ∧ x.tu ≤ x.fr) ∨ (¬ x.fr < 0 ∧ ¬ x.tu ≤ x.fr ∧ (n : Int) < x.tu) ∨ (¬ x.fr < 0 ∧ ¬ x.tu ≤ x.fr ∧ ¬ (n : Int) < x.tu ∧ x.pos < 0) ∨ (¬ x.fr < 0 ∧ ¬ x.tu ≤ x.fr ∧ ¬ (n : Int) < x.tu ∧ ¬ x.pos < 0 ∧ (n : Int) ≤ x.pos) := by
  have := of_decide_eq_false h
  omega
theorem span_true {n : Nat} {x : HandD} (h : spanB n x = true) : ¬ x.fr < 0 ∧ ¬ x.tu ≤ x.fr ∧ ¬ (n : Int) < x.tu ∧ ¬ x.pos < 0 ∧ ¬ (n : Int) ≤ x.pos := by
  have := of_decide_eq_true h
  omega
theorem hand_next {n : Nat} {l : List HandD} {j : Nat} (h : ∀ (i : Nat) (hi : i < l.length), i < j → handF n (l.take i) l[i] = 0) (hj : j < l.length) (h0 : handF n (l.take j) l[j] = 0) : ∀ (i : Nat) (hi : i < l.length), i < j + 1 → handF n (l.take i) l[i] = 0 := fun i hi hij => by
  by_cases e : i = j
  · subst e; exact h0
  · exact h i hi (by omega)
theorem handsF_at {n : Nat} {l : List HandD} {j : Nat} (hj : j < l.length) (h : ∀ (i : Nat) (hi : i < l.length), i < j → handF n (l.take i) l[i] = 0) (hf : handF n (l.take j) l[j] ≠ 0) : handsF l n = handF n (l.take j) l[j] := by
  have e := firstAt_at hj (fun i hi => h i (by omega) hi) hf
  unfold handsF
  rw [e, if_pos hf]
theorem handsF_end {n : Nat} {l : List HandD} (h : ∀ (i : Nat) (hi : i < l.length), i < l.length → handF n (l.take i) l[i] = 0) : handsF l n = if 8 < l.length then 4 else 0 := by
  unfold handsF
  rw [if_neg]
  rw [firstAt_zero fun j hj => h j hj hj]; simp
end Go.Proofs.YthcjdkjjjlpjaaaDoor
namespace Go.Proofs.YthcjdkjjjlpjaaaDoor
open Go.ChangeShapes Go.WideShapes Go.ChangeAt Go.RowKit
set_option linter.unusedVariables false
attribute [local go_sem] eqGuard_errV_nil eqGuard_errV_iface eql_errV_nil neq_errV_nil eql_errV_form

/-- The value of a method: its texts and numbers, and the slices of its lists. -/
def methV (m : MethD) (A : Option Addr) (i j : Nat) (B : Option Addr) (k l : Nat) : Value := .agg #[.string (bs m.nm), .string (bs m.ty), .bool m.st, .bool m.ab, .bool m.pr, .int .i64 m.lo, .slice A i j, .slice B k l]
/-- A method in a block of its own. -/
def MBox (w : World) (b : Nat) (m : MethD) (A : Option Addr) (i j : Nat) (B : Option Addr) (k l : Nat) : Prop :=
  b < w.heap.size ∧ w.cell? ⟨b, 0, none⟩ = some (.string (bs m.nm)) ∧ w.cell? ⟨b, 1, none⟩ = some (.string (bs m.ty)) ∧ w.cell? ⟨b, 2, none⟩ = some (.bool m.st) ∧ w.cell? ⟨b, 3, none⟩ = some (.bool m.ab) ∧
  w.cell? ⟨b, 4, none⟩ = some (.bool m.pr) ∧ w.cell? ⟨b, 5, none⟩ = some (.int .i64 m.lo) ∧ w.cell? ⟨b, 6, none⟩ = some (.slice A i j) ∧ w.cell? ⟨b, 7, none⟩ = some (.slice B k l)
theorem MBox.below {w w' : World} {b : Nat} {m : MethD} {A : Option Addr} {i j : Nat} {B : Option Addr} {k l : Nat} (h : MBox w b m A i j B k l) (hb : Below w.heap.size w w') : MBox w' b m A i j B k l := by
  obtain ⟨h0, h1, h2, h3, h4, h5, h6, h7, h8⟩ := h
  exact ⟨Nat.lt_of_lt_of_le h0 hb.size, (hb.cell (by exact h0)).trans h1, (hb.cell (by exact h0)).trans h2, (hb.cell (by exact h0)).trans h3, (hb.cell (by exact h0)).trans h4, (hb.cell (by exact h0)).trans h5, (hb.cell (by exact h0)).trans h6, (hb.cell (by exact h0)).trans h7, (hb.cell (by exact h0)).trans h8⟩
theorem MBox.drewN {w : World} {b : Nat} {m : MethD} {A : Option Addr} {i j : Nat} {B : Option Addr} {k l : Nat} (h : MBox w b m A i j B k l) (q : Nat) : MBox (w.drewN q) b m A i j B k l := h
theorem mbox_at (w : World) (m : MethD) (A : Option Addr) (i j : Nat) (B : Option Addr) (k l : Nat) (t : TypeId) (f : Nat × Nat) :
    MBox (w.alloc (.cells #[.string (bs m.nm), .string (bs m.ty), .bool m.st, .bool m.ab, .bool m.pr, .int .i64 m.lo, .slice A i j, .slice B k l] t f)) w.heap.size m A i j B k l :=
  ⟨by simp, World.cell?_alloc_mark .., World.cell?_alloc_mark .., World.cell?_alloc_mark .., World.cell?_alloc_mark .., World.cell?_alloc_mark .., World.cell?_alloc_mark .., World.cell?_alloc_mark .., World.cell?_alloc_mark ..⟩
theorem mbox_new {w w' : World} {o : Obj} (m : MethD) (A : Option Addr) (i j : Nat) (B : Option Addr) (k l : Nat) (t : TypeId) (f : Nat × Nat) (ho : o = .cells #[.string (bs m.nm), .string (bs m.ty), .bool m.st, .bool m.ab, .bool m.pr, .int .i64 m.lo, .slice A i j, .slice B k l] t f)
    (hb : Below (w.alloc o).heap.size (w.alloc o) w') : MBox w' w.heap.size m A i j B k l ∧ Below w.heap.size w w' := by
  subst ho
  exact ⟨(mbox_at w m A i j B k l t f).below hb, bnext (al1 _ _) hb⟩

theorem argsN_methP (l : List UInt8) : (methP l).1.length = argsN l := by
  unfold argsN
  cases h : methodB l with
  | none => rw [methP_none h]; rfl
  | some p => obtain ⟨a, g⟩ := p; rw [methP_some h]
theorem methodOf_row {w w' : World} {l : List UInt8} {e : Ending} (h : MethodSays w l (.bool (methS l)) e w') : ∃ A c t, e = .returned (.tuple #[.slice A (argsN l) c, .string t, .bool (methodB l).isSome]) ∧ Below w.heap.size w w' := by
  obtain ⟨hb, v, rfl, hv⟩ := h
  obtain ⟨A, c, rfl⟩ := own_form hv
  exact ⟨A, c, _, by rw [argsN_methP]; rfl, hb⟩

section
variable {pre : List MethD} {m : MethD}
theorem mtdF_bad (h : (nameB m.nm && (methodB m.ty).isSome) = false) : mtdF pre m = 1 := by unfold mtdF; rw [if_pos h]
theorem mtdF_twice (h : (nameB m.nm && (methodB m.ty).isSome) = true) (ha : pre.any (fun y => y.nm == m.nm && y.ty == m.ty) = true) : mtdF pre m = 5 := by unfold mtdF; rw [h, if_neg (by simp), if_pos ha]
theorem mtdF_range (h : (nameB m.nm && (methodB m.ty).isSome) = true) (ha : pre.any (fun y => y.nm == m.nm && y.ty == m.ty) = false) (hr : m.lo < 0 ∨ 8 < m.lo) : mtdF pre m = 2 := by
  unfold mtdF; rw [h, ha, if_neg (by simp), if_neg (by simp), if_pos hr]
theorem mtdF_rest (h : (nameB m.nm && (methodB m.ty).isSome) = true) (ha : pre.any (fun y => y.nm == m.nm && y.ty == m.ty) = false) (hr : ¬ (m.lo < 0 ∨ 8 < m.lo)) : mtdF pre m = if m.ab = true then bareF m else bodyF m := by
  unfold mtdF; rw [h, ha, if_neg (by simp), if_neg (by simp), if_neg hr]
theorem bodyF_code (h : flowF m.code ≠ 0) : bodyF m = flowF m.code := by unfold bodyF; rw [if_pos h]
theorem bodyF_few (h : flowF m.code = 0) (hw : m.lo < (wantsN m : Int)) : bodyF m = 2 := by unfold bodyF; rw [h, if_neg (by simp), if_pos hw]
theorem bodyF_local (h : flowF m.code = 0) (hw : ¬ m.lo < (wantsN m : Int)) (hl : m.code.any (localB m.lo) = true) : bodyF m = 2 := by unfold bodyF; rw [h, if_neg (by simp), if_neg hw, if_pos hl]
theorem bodyF_hands (h : flowF m.code = 0) (hw : ¬ m.lo < (wantsN m : Int)) (hl : m.code.any (localB m.lo) = false) : bodyF m = handsF m.hs m.code.length := by unfold bodyF; rw [h, if_neg (by simp), if_neg hw, hl, if_neg (by simp)]
end
/-- The first part of what methodFault does: the name, the type, the methods ahead. -/
def Fine (pre : List MethD) (m : MethD) : Prop := (nameB m.nm && (methodB m.ty).isSome) = true ∧ pre.any (fun y => y.nm == m.nm && y.ty == m.ty) = false

theorem below_drawn {w a : World} {B : Nat} (h : Below B w a) (n : Nat) : Below B w (a.drewN n) := ⟨h.os, h.tape, h.output, h.size, h.block⟩
theorem twice_next {pre : List MethD} {m : MethD} {j : Nat} (hj : j < pre.length) (h : (pre.take j).any (fun y => y.nm == m.nm && y.ty == m.ty) = false) (hn : (pre[j].nm == m.nm && pre[j].ty == m.ty) = false) : (pre.take (j + 1)).any (fun y => y.nm == m.nm && y.ty == m.ty) = false :=
  any_take (p := fun y => y.nm == m.nm && y.ty == m.ty) hj h hn
theorem twice_at {pre : List MethD} {m : MethD} {j : Nat} (hj : j < pre.length) (h1 : pre[j].nm = m.nm) (h2 : pre[j].ty = m.ty) : pre.any (fun y => y.nm == m.nm && y.ty == m.ty) = true :=
  any_at (p := fun y => y.nm == m.nm && y.ty == m.ty) hj (by simp [h1, h2])
theorem wants_static {m : MethD} (h : m.st = true) : wantsN m = argsN m.ty := by unfold wantsN; rw [h]; rfl
theorem wants_bound {m : MethD} (h : m.st = false) : wantsN m = argsN m.ty + 1 := by unfold wantsN; rw [h]; rfl
theorem argsN_le (l : List UInt8) : argsN l ≤ 5 := by
  unfold argsN
  cases h : methodB l with
  | none => exact Nat.zero_le _
  | some p =>
    obtain ⟨a, g⟩ := p
    cases l with
    | nil => cases h
    | cons c t =>
      unfold methodB at h
      repeat' (split at h)
      all_goals first
        | (cases h; done)
        | (rename_i h5
           simp only [Option.some.injEq, Prod.mk.injEq] at h
           obtain ⟨rfl, _⟩ := h
           exact h5.2.1)
end Go.Proofs.YthcjdkjjjlpjaaaDoor
namespace Go.Proofs.YthcjdkjjjlpjaaaDoor
open Go.ChangeShapes Go.WideShapes Go.ChangeAt Go.RowKit
set_option linter.unusedVariables false
attribute [local go_sem] eqGuard_errV_nil eqGuard_errV_iface eql_errV_nil neq_errV_nil eql_errV_form

theorem emptyB_nil {l : List UInt8} (h : l = []) : (bs l).toList.isEmpty = true := by rw [h, ByteArray.toList_eq]; rfl
theorem behind_drew1 {w a : World} (h : Below w.drew.heap.size w.drew a) : Below w.heap.size w a := bnext (Below.refl w.heap.size w).drew h
theorem quiet_more {P : Program} {f : FuncId} {args : Array Value} {w : World} {b n : Nat} {u : Value} (h : Calls P f args (w.drewN (b + n)) fun e w' => e = .returned u ∧ w.drewN (b + n) = w') :
    Calls P f args (w.drewN (b + n)) fun e w'' => e = .returned u ∧ ∃ m, w'' = w.drewN (b + m) := h.mono fun _ _ ⟨he, hm⟩ => ⟨he, n, hm.symm⟩
end Go.Proofs.YthcjdkjjjlpjaaaDoor
