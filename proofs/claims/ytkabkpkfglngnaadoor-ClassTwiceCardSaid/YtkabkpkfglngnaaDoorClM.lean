/- Classes as plain data, and what is wrong with one. No program. -/
import Derived.Test.YtkabkpkfglngnaaDoorFlM
namespace Go.Proofs.YtkabkpkfglngnaaDoor
open Go.RowKit
set_option linter.unusedVariables false

structure FieldD where
  nm : List UInt8
  ty : List UInt8
deriving DecidableEq, Inhabited
structure HandD where
  fr : Int
  tu : Int
  pos : Int
  cl : List UInt8
deriving DecidableEq, Inhabited
structure MethD where
  nm : List UInt8
  ty : List UInt8
  st : Bool
  ab : Bool
  pr : Bool
  lo : Int
  code : List InsD
  hs : List HandD
deriving DecidableEq, Inhabited
structure ClassD where
  nm : List UInt8
  su : List UInt8
  faces : List (List UInt8)
  face : Bool
  fields : List FieldD
  meths : List MethD
deriving DecidableEq, Inhabited

/-! The first fault of a list's elements, each told with those ahead of it. -/
def firstFrom {α : Type} (f : List α → α → Nat) : List α → List α → Nat
  | _, [] => 0
  | pre, x :: r => if f pre x = 0 then firstFrom f (pre ++ [x]) r else f pre x
def firstAt {α : Type} (f : List α → α → Nat) (l : List α) : Nat := firstFrom f [] l
section
variable {α : Type} {f : List α → α → Nat}
theorem firstFrom_skip : ∀ {l : List α} {pre : List α} (r : List α), (∀ (j : Nat) (hj : j < l.length), f (pre ++ l.take j) l[j] = 0) → firstFrom f pre (l ++ r) = firstFrom f (pre ++ l) r
  | [], pre, r, _ => by rw [List.append_nil]; rfl
  | x :: t, pre, r, h => by
    have h0 : f pre x = 0 := by have := h 0 (by simp); simpa using this
    show (if f pre x = 0 then firstFrom f (pre ++ [x]) (t ++ r) else f pre x) = _
    rw [if_pos h0, firstFrom_skip r fun j hj => ?_, List.append_assoc]
    · rfl
    · have := h (j + 1) (by simpa using hj)
      rw [List.append_assoc]
      simpa using this
theorem firstAt_skip {l : List α} (r : List α) (h : ∀ (j : Nat) (hj : j < l.length), f (l.take j) l[j] = 0) : firstAt f (l ++ r) = firstFrom f l r := by
  have := firstFrom_skip (f := f) (l := l) (pre := []) r (by simpa using h)
  unfold firstAt
  simpa using this
theorem firstAt_zero {l : List α} (h : ∀ (j : Nat) (hj : j < l.length), f (l.take j) l[j] = 0) : firstAt f l = 0 := by
  have := firstAt_skip [] h
  rw [List.append_nil] at this
  exact this
theorem firstAt_at {l : List α} {j : Nat} (hj : j < l.length) (h : ∀ (i : Nat) (hi : i < j), f (l.take i) (l[i]'(by omega)) = 0) (hf : f (l.take j) l[j] ≠ 0) : firstAt f l = f (l.take j) l[j] := by
  have e : l.take j ++ (l[j] :: l.drop (j + 1)) = l := by
    rw [← List.drop_eq_getElem_cons hj, List.take_append_drop]
  have hs := firstAt_skip (f := f) (l := l.take j) (l[j] :: l.drop (j + 1)) (fun i hi => by
    have hij : i < j := by rw [List.length_take] at hi; omega
    have := h i hij
    rw [List.take_take, show min i j = i by omega]
    simpa using this)
  rw [e] at hs
  rw [hs]
  show (if f (l.take j) l[j] = 0 then _ else _) = _
  rw [if_neg hf]
theorem firstFrom_all : ∀ {l : List α} {pre : List α}, firstFrom f pre l = 0 → ∀ (j : Nat) (hj : j < l.length), f (pre ++ l.take j) l[j] = 0
  | x :: t, pre, h, j, hj => by
    replace h : (if f pre x = 0 then firstFrom f (pre ++ [x]) t else f pre x) = 0 := h
    split at h
    · rename_i h0
      cases j with
      | zero => simpa using h0
      | succ j =>
        have := firstFrom_all h j (by simpa using hj)
        rw [List.append_assoc] at this
        simpa using this
    · rename_i h0; exact absurd h h0
theorem firstAt_all {l : List α} (h : firstAt f l = 0) (j : Nat) (hj : j < l.length) : f (l.take j) l[j] = 0 := by
  have := firstFrom_all (f := f) (pre := []) h j hj
  simpa using this
theorem firstAt_take {l : List α} (h : firstAt f l = 0) (k : Nat) : firstAt f (l.take k) = 0 := by
  refine firstAt_zero fun j hj => ?_
  have hjk : j < k ∧ j < l.length := by rw [List.length_take] at hj; omega
  have := firstAt_all h j hjk.2
  rw [List.take_take, show min j k = j by omega]
  simpa using this
theorem firstAt_more {l : List α} (x : α) (h : firstAt f l = 0) : firstAt f (l ++ [x]) = f l x := by
  rw [firstAt_skip [x] (firstAt_all h)]
  show (if f l x = 0 then 0 else f l x) = _
  split <;> simp_all
end

/-! What is wrong with the parts, and with a class. -/
def faceF (pre : List (List UInt8)) (x : List UInt8) : Nat := if nameB x = false then 1 else if pre.any (· == x) = true then 5 else 0
def fieldF (pre : List FieldD) (x : FieldD) : Nat := if (nameB x.nm && isTypeB x.ty) = false then 1 else if pre.any (fun y => y.nm == x.nm) = true then 5 else 0
def spanB (n : Nat) (x : HandD) : Bool := decide (0 ≤ x.fr ∧ x.fr < x.tu ∧ x.tu ≤ (n : Int) ∧ 0 ≤ x.pos ∧ x.pos < (n : Int))
def handF (n : Nat) (_ : List HandD) (x : HandD) : Nat := if spanB n x = false then 2 else if nameB x.cl = false then 1 else 0
def handsF (l : List HandD) (n : Nat) : Nat := if firstAt (handF n) l ≠ 0 then firstAt (handF n) l else if 8 < l.length then 4 else 0
def argsN (l : List UInt8) : Nat := match methodB l with
  | some (a, _) => a.length
  | none => 0
def localB (lo : Int) (x : InsD) : Bool := decide (x.op = 4 ∨ x.op = 5) && decide (lo ≤ x.a)
def wantsN (m : MethD) : Nat := argsN m.ty + (if m.st then 0 else 1)
def bodyF (m : MethD) : Nat :=
  if flowF m.code ≠ 0 then flowF m.code else if m.lo < (wantsN m : Int) then 2 else if m.code.any (localB m.lo) = true then 2 else handsF m.hs m.code.length
def bareF (m : MethD) : Nat := if (m.st || m.pr || m.code.length != 0 || m.hs.length != 0) = true then 8 else 0
def mtdF (pre : List MethD) (m : MethD) : Nat :=
  if (nameB m.nm && (methodB m.ty).isSome) = false then 1 else if pre.any (fun y => y.nm == m.nm && y.ty == m.ty) = true then 5 else if m.lo < 0 ∨ 8 < m.lo then 2 else if m.ab = true then bareF m else bodyF m
def classF (c : ClassD) : Nat :=
  if (nameB c.nm && (c.su == [] || nameB c.su)) = false then 1
  else if firstAt faceF c.faces ≠ 0 then firstAt faceF c.faces
  else if 8 < c.faces.length ∨ 8 < c.fields.length ∨ 8 < c.meths.length then 4
  else if firstAt fieldF c.fields ≠ 0 then firstAt fieldF c.fields
  else if firstAt mtdF c.meths ≠ 0 then firstAt mtdF c.meths
  else if (c.face && c.fields.length != 0) = true then 8
  else 0

def HandD.wf (h : HandD) : Prop := i64B h.fr ∧ i64B h.tu ∧ i64B h.pos
def MethD.wf (m : MethD) : Prop := i64B m.lo ∧ (∀ x ∈ m.code, x.wf) ∧ ∀ h ∈ m.hs, h.wf
def ClassD.wf (c : ClassD) : Prop := ∀ m ∈ c.meths, m.wf
/-- The texts and lists are of at most N bytes or elements. -/
def HandD.upto (N : Nat) (h : HandD) : Prop := h.cl.length ≤ N
def InsD.upto (N : Nat) (x : InsD) : Prop := x.ty.length ≤ N ∧ x.cl.length ≤ N ∧ x.nm.length ≤ N
def FieldD.upto (N : Nat) (x : FieldD) : Prop := x.nm.length ≤ N ∧ x.ty.length ≤ N
def MethD.upto (N : Nat) (m : MethD) : Prop := m.nm.length ≤ N ∧ m.ty.length ≤ N ∧ ((∀ x ∈ m.code, x.upto N) ∧ m.code.length ≤ N) ∧ (∀ h ∈ m.hs, h.upto N) ∧ m.hs.length ≤ N
def ClassD.upto (N : Nat) (c : ClassD) : Prop := c.nm.length ≤ N ∧ c.su.length ≤ N ∧ ((∀ x ∈ c.faces, x.length ≤ N) ∧ c.faces.length ≤ N) ∧ ((∀ x ∈ c.fields, x.upto N) ∧ c.fields.length ≤ N) ∧ (∀ m ∈ c.meths, m.upto N) ∧ c.meths.length ≤ N
end Go.Proofs.YtkabkpkfglngnaaDoor
