/- Slices of structs copied and appended to: the cells of a list's elements, rows of the call's own; append at a step of a region that draws its order. -/
import Derived.Test.YtkabkpkfglngnaaDoorStD
import Derived.Laws.AppendOwnNone
import Derived.Deep.RegionHeldLaw
namespace Go.Proofs.YtkabkpkfglngnaaDoor
open Go.ChangeShapes Go.WideShapes Go.ChangeAt Go.RowKit
set_option linter.unusedVariables false

/-- An element's cells tell it, wherever they lie. -/
def Copies {α : Type} (At : World → Nat → Nat → α → Prop) (k : Nat) : Prop := ∀ {w : World} {b o : Nat} {x : α}, At w b o x → ∃ cs : List Value, cs.length = k ∧ (∀ u ∈ cs, u.oneCell' = true) ∧ (∀ (i : Nat) u, cs[i]? = some u → w.cell? ⟨b, o + i, none⟩ = some u) ∧
  ∀ {w' : World} {b' o' : Nat}, Below w.heap.size w w' → (∀ (i : Nat) u, cs[i]? = some u → w'.cell? ⟨b', o' + i, none⟩ = some u) → At w' b' o' x
/-- cs are the cells of the elements of l, in a world like w. -/
def CellsOf {α : Type} (At : World → Nat → Nat → α → Prop) (k : Nat) (w : World) (l : List α) (cs : List Value) : Prop :=
  cs.length = l.length * k ∧ (∀ u ∈ cs, u.oneCell' = true) ∧ ∀ (j : Nat) x, l[j]? = some x → ∀ {w' : World} {b' o' : Nat}, Below w.heap.size w w' → (∀ (i : Nat) u, i < k → cs[j * k + i]? = some u → w'.cell? ⟨b', o' + i, none⟩ = some u) → At w' b' o' x
section
variable {α : Type} {At : World → Nat → Nat → α → Prop} {k : Nat} {w w' : World} {A : Option Addr} {n c : Nat} {l : List α}
theorem CellsOf.nil_ (At : World → Nat → Nat → α → Prop) (k : Nat) (w : World) : CellsOf At k w [] [] := ⟨by simp, fun u hu => (by cases hu), fun j x hx => by simp at hx⟩
theorem CellsOf.append {m : List α} {cs ds : List Value} (h : CellsOf At k w l cs) (g : CellsOf At k w m ds) : CellsOf At k w (l ++ m) (cs ++ ds) := by
  refine ⟨by rw [List.length_append, List.length_append, h.1, g.1, Nat.add_mul], fun u hu => (List.mem_append.1 hu).elim (h.2.1 u) (g.2.1 u), fun j x hx w' b' o' hb hc => ?_⟩
  by_cases hj : j < l.length
  · rw [List.getElem?_append_left hj] at hx
    refine h.2.2 j x hx hb fun i u hi hu => hc i u hi ?_
    have : j * k + i < cs.length := (List.getElem?_eq_some_iff.1 hu).1
    rw [List.getElem?_append_left this]
    exact hu
  · rw [List.getElem?_append_right (by omega)] at hx
    refine g.2.2 _ x hx hb fun i u hi hu => hc i u hi ?_
    have e : j * k + i = cs.length + ((j - l.length) * k + i) := by
      rw [h.1, ← Nat.add_assoc, ← Nat.add_mul]
      congr 2
      omega
    rw [e, List.getElem?_append_right (by omega), Nat.add_sub_cancel_left]
    exact hu
theorem CellsOf.one {x : α} {cs : List Value} (hl : cs.length = k) (h1 : ∀ u ∈ cs, u.oneCell' = true) (h : ∀ {w' : World} {b' o' : Nat}, Below w.heap.size w w' → (∀ (i : Nat) u, cs[i]? = some u → w'.cell? ⟨b', o' + i, none⟩ = some u) → At w' b' o' x) : CellsOf At k w [x] cs := by
  refine ⟨by simp [hl], h1, fun j y hy w' b' o' hb hc => ?_⟩
  have hj : j = 0 := by have := (List.getElem?_eq_some_iff.1 hy).1; simpa using this
  subst hj
  obtain rfl : x = y := by simpa using hy
  exact h hb fun i u hu => hc i u (by rw [← hl]; exact (List.getElem?_eq_some_iff.1 hu).1) (by rw [Nat.zero_mul, Nat.zero_add]; exact hu)
/-- The cells of a slice's elements. -/
theorem SRow.cells_ (hcp : Copies At k) (R : SRow At k w A n c l) : ∃ cs, CellsOf At k w l cs ∧ (0 < n → ∃ b o, A = some ⟨b, o, none⟩ ∧ b < w.heap.size ∧ ∀ (i : Nat) u, cs[i]? = some u → w.cell? ⟨b, o + i, none⟩ = some u) := by
  obtain ⟨h1, h2, h3⟩ := R
  subst h1
  rcases Nat.eq_zero_or_pos l.length with h0 | h0
  · obtain rfl := List.length_eq_zero_iff.1 h0
    exact ⟨[], CellsOf.nil_ _ _ _, fun h => absurd h (by simp)⟩
  obtain ⟨b, o, e, hb, hc⟩ := h3 h0
  clear h3 h0 h2
  suffices h : ∀ (r : List α) (o : Nat), (∀ (j : Nat) x, r[j]? = some x → At w b (o + j * k) x) → ∃ cs, CellsOf At k w r cs ∧ ∀ (i : Nat) u, cs[i]? = some u → w.cell? ⟨b, o + i, none⟩ = some u by
    obtain ⟨cs, g1, g2⟩ := h l o hc
    exact ⟨cs, g1, fun _ => ⟨b, o, e, hb, g2⟩⟩
  intro r
  induction r with
  | nil => intro o _; exact ⟨[], CellsOf.nil_ _ _ _, fun i u hu => by simp at hu⟩
  | cons x r ih =>
    intro o h
    obtain ⟨cs, g1, g2, g3, g4⟩ := hcp (h 0 x rfl)
    rw [Nat.zero_mul, Nat.add_zero] at g3
    obtain ⟨ds, f1, f2⟩ := ih (o + k) (fun j y hy => by
      have := h (j + 1) y hy
      rwa [Nat.add_mul, Nat.one_mul, show o + (j * k + k) = o + k + j * k by omega] at this)
    refine ⟨cs ++ ds, CellsOf.append (l := [x]) (CellsOf.one g1 g2 g4) f1, fun i u hu => ?_⟩
    by_cases hi : i < cs.length
    · rw [List.getElem?_append_left hi] at hu
      exact g3 i u hu
    · rw [List.getElem?_append_right (by omega)] at hu
      have := f2 _ u hu
      rwa [show o + k + (i - cs.length) = o + i by omega] at this
/-- A row of the call's own whose cells are those of l. -/
theorem SRow.of_own {base : Nat} {e : TypeId} {cs : List Value} {w0 : World} (h : w.ownsRow base e k (.slice A n c) n cs) (hc : CellsOf At k w0 l cs) (hb : Below w0.heap.size w0 w) (hn : l.length = n) : SRow At k w A n c l := by
  rcases h.2 with ⟨hv, h0⟩ | ⟨g, cap, cur, hv, _, hg, hnc, _⟩
  · obtain ⟨rfl, rfl, rfl⟩ : A = none ∧ n = 0 ∧ c = 0 := by simpa using hv
    exact ⟨hn, Nat.le_refl _, fun h => absurd h (by omega)⟩
  · obtain ⟨rfl, rfl⟩ : A = some ⟨g, 0, none⟩ ∧ c = cap := by simpa using hv
    refine ⟨hn, hnc, fun _ => ⟨g, 0, rfl, ?_, fun j x hx => hc.2.2 j x hx hb fun i u hi hu => ?_⟩⟩
    · rcases Nat.lt_or_ge g w.heap.size with hlt | hge
      · exact hlt
      · rw [Array.getElem?_eq_none hge] at hg; cases hg
    · have := h.cells (g := g) rfl (j * k + i) u hu
      rw [add_spotless] at this
      rwa [show 0 + j * k + i = 0 + (j * k + i) by omega]
end

/-- The cells ys lie at A (m elements). -/
def Lies (w : World) (A : Option Addr) (m : Nat) (ys : List Value) : Prop := 0 < m → ∃ b o, A = some ⟨b, o, none⟩ ∧ b < w.heap.size ∧ ∀ (i : Nat) u, ys[i]? = some u → w.cell? ⟨b, o + i, none⟩ = some u
theorem Lies.below {w w' : World} {A : Option Addr} {m : Nat} {ys : List Value} (h : Lies w A m ys) (hb : Below w.heap.size w w') : Lies w' A m ys := fun hm => by
  obtain ⟨b, o, e, hlt, hc⟩ := h hm
  exact ⟨b, o, e, Nat.lt_of_lt_of_le hlt hb.size, fun i u hu => (hb.cell (by exact hlt)).trans (hc i u hu)⟩
theorem Lies.drew {w : World} {A : Option Addr} {m : Nat} {ys : List Value} (h : Lies w A m ys) : Lies w.drew A m ys := h
theorem Lies.grown {w w' : World} {A : Option Addr} {m : Nat} {ys : List Value} {row : Option Nat} (h : Lies w A m ys) (hg : w.grownBy w' row) (hA : ∀ a, A = some a → some a.block ≠ row) : Lies w' A m ys := fun hm => by
  obtain ⟨b, o, e, hlt, hc⟩ := h hm
  have hne : some b ≠ row := hA ⟨b, o, none⟩ e
  exact ⟨b, o, e, Nat.lt_of_lt_of_le hlt hg.size, fun i u hu => (World.cell?_of_block (a := ⟨b, o + i, none⟩) (hg.block b hlt hne)).trans (hc i u hu)⟩
theorem lies_lit (w : World) (cs : Array Value) (ys : List Value) (hc : cs.toList = ys) (m : Nat) (t : TypeId) (f : Nat × Nat) : Lies (w.alloc (.cells cs t f)) (some ⟨w.heap.size, 0, none⟩) m ys := fun _ =>
  ⟨_, _, rfl, by simp, fun i u hu => by
    subst hc
    rw [Nat.zero_add, World.cell?_alloc_mark]
    simpa using hu⟩
theorem lies_lit2 (w : World) (o : Obj) (cs : Array Value) (ys : List Value) (hc : cs.toList = ys) (m : Nat) (t : TypeId) (f : Nat × Nat) : Lies ((w.alloc o).alloc (.cells cs t f)) (some ⟨w.heap.size + 1, 0, none⟩) m ys := by
  have := lies_lit (w.alloc o) cs ys hc m t f
  rwa [show (w.alloc o).heap.size = w.heap.size + 1 by simp] at this
theorem own_bare (w : World) (e : TypeId) (k : Nat) (base : Nat) (hb : base ≤ w.heap.size) : (w.alloc (.cells #[] e (0, 0))).ownsRow base e k (.slice (some ⟨w.heap.size, 0, none⟩) 0 0) 0 [] :=
  World.ownsRow_made w #[] 0 hb (Nat.zero_le _) (by simp)
theorem own_bare2 (w : World) (o : Obj) (e : TypeId) (k : Nat) (base : Nat) (hb : base ≤ w.heap.size) : ((w.alloc o).alloc (.cells #[] e (0, 0))).ownsRow base e k (.slice (some ⟨w.heap.size + 1, 0, none⟩) 0 0) 0 [] := by
  have := own_bare (w.alloc o) e k base (by simp; omega)
  rwa [show (w.alloc o).heap.size = w.heap.size + 1 by simp] at this
theorem own_drew_ {w : World} {base : Nat} {e : TypeId} {size : Nat} {v : Value} {n : Nat} {xs : List Value} (h : w.ownsRow base e size v n xs) : w.drew.ownsRow base e size v n xs := h
theorem SRow.cells {α : Type} {At : World → Nat → Nat → α → Prop} {k : Nat} {w : World} {A : Option Addr} {n c : Nat} {l : List α} (hcp : Copies At k) (R : SRow At k w A n c l) : ∃ cs, CellsOf At k w l cs ∧ Lies w A n cs := R.cells_ hcp
section
variable {P : Program}
/-- Elements behind elements, at a step of a region that draws its order: the first a row of the call's own. -/
theorem step_rows {ops : Array Oper} {o : Oper} {a : Act} {w : World} {K : Act → World → Prop} {Q : Exit → Act → World → Prop} {E : Prop} (hgd : o.guard = none) (s x : Operand) (t e : TypeId) (k bytes : Nat) (z : Value) (ho : o.op = .call { callee := .builtin .append, args := #[s, x], argTypes := #[t, t] })
    (ht : P.underlying t = some (.slice e)) (hi : (P.info? e).map (fun i => (i.zero, i.size, i.bytes)) = some (some z, k, bytes)) (hz : z.cells.size = k) (hk : 0 < k)
    (base : Nat) (v : Value) (n : Nat) (xs ys : List Value) (N : Nat) (hs : a.eval s = v) (hown : w.ownsRow base e k v n xs)
    (A : Option Addr) (m c : Nat) (hx : a.eval x = .slice A m c) (hN : n + m = N) (hy : ys.length = m * k) (h1 : ∀ u ∈ ys, u.oneCell' = true) (R : Lies w A m ys) (hA : A = none → m = 0 ∧ c = 0)
    (hn : N ≤ 1048576) (hbytes : bytes ≤ 1048576) (hbase : base ≤ w.heap.size)
    (h : ∀ A' c' w', w'.ownsRow base e k (.slice A' N c') N (xs ++ ys) → Below base w w' → w.grownBy w' v.ownBlock → K (a.put o.dst (.slice A' N c')) w') :
    if Region.wanted o (yielded ops a.tmps) = true then Oper.wp P o a w K Q else E := by
  have hw : Region.wanted o (yielded ops a.tmps) = true := by simp [Region.wanted, hgd]
  rw [if_pos hw]
  subst hN
  have fin : ∀ v' w', w'.ownsRow base e k v' (n + m) (xs ++ ys) → w.grownBy w' v.ownBlock → K (a.put o.dst v') w' := by
    intro v' w' k1 k2
    obtain ⟨A', c', rfl⟩ := own_form k1
    exact h A' c' w' k1 ((Below.refl _ _).grown k2 hbase (fun q hq => (hown.lt q hq).1)) k2
  obtain ⟨i0, hi', hz0, hz1, hz2⟩ := info_parts hi
  have hb2 : (n + m) * bytes ≤ 140737488355328 := Nat.le_trans (Nat.mul_le_mul hn hbytes) (by decide)
  rcases Nat.eq_zero_or_pos m with rfl | hm
  · obtain rfl : ys = [] := by simpa using hy
    cases A with
    | none =>
      obtain ⟨_, rfl⟩ := hA rfl
      have hrun := run_append_owned_none (P := P) (w := w) base t o.type e i0 k ht hi' v n xs hown
      unfold Oper.wp
      simp [execOp, ho, resolve, invoke, builtin, hs, hx, hrun, Result.andThen]
      exact fin v w (by rw [List.append_nil]; exact hown) ⟨rfl, rfl, rfl, Nat.le_refl _, fun _ _ _ => rfl⟩
    | some ad =>
      refine wp_append_own _ s x t ho base e i0 z k bytes ht hi' hz0 hz1 hz2 hz hk v n xs hs hown ad 0 c [] hx (by simp) (fun j u hu => by simp at hu) (fun u hu => by cases hu) (by unfold maxLen; omega) hb2 hbase ?_
      intro v' w' k1 k2 _
      exact fin v' w' k1 k2
  · obtain ⟨b, o', rfl, hb, hc⟩ := R hm
    refine wp_append_own _ s x t ho base e i0 z k bytes ht hi' hz0 hz1 hz2 hz hk v n xs hs hown ⟨b, o', none⟩ m c ys hx hy (fun j u hu => ?_) h1 (by unfold maxLen; omega) hb2 hbase ?_
    · rw [add_spotless]
      exact hc j u hu
    · intro v' w' k1 k2 _
      exact fin v' w' k1 k2
end
end Go.Proofs.YtkabkpkfglngnaaDoor
