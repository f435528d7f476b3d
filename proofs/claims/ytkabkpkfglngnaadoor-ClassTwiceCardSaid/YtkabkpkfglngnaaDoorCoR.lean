/- Rows of instructions (six cells each): slices that came in, rows of the call's own, one behind another. -/
import Derived.Test.YtkabkpkfglngnaaDoorRow
import Derived.Test.YtkabkpkfglngnaaDoorLaw
import Derived.Test.YtkabkpkfglngnaaDoorInM
import Derived.Laws.AppendOwnNone
namespace Go.Proofs.YtkabkpkfglngnaaDoor
open Go.ChangeShapes Go.WideShapes Go.ChangeAt Go.RowKit
set_option linter.unusedVariables false

theorem ins_plain (b o i : Nat) : (⟨b, o, none⟩ : Addr).add i = ⟨b, o + i, none⟩ := by unfold Addr.add; split <;> simp_all
def insC (x : InsD) : List Value := [.int .i64 x.op, .int .i64 x.a, .int .i64 x.b, .string (bs x.ty), .string (bs x.cl), .string (bs x.nm)]
/-- The six cells from o on are those of x. -/
def InsAt (w : World) (b o : Nat) (x : InsD) : Prop := w.cell? ⟨b, o, none⟩ = some (.int .i64 x.op) ∧ w.cell? ⟨b, o + 1, none⟩ = some (.int .i64 x.a) ∧ w.cell? ⟨b, o + 2, none⟩ = some (.int .i64 x.b) ∧
  w.cell? ⟨b, o + 3, none⟩ = some (.string (bs x.ty)) ∧ w.cell? ⟨b, o + 4, none⟩ = some (.string (bs x.cl)) ∧ w.cell? ⟨b, o + 5, none⟩ = some (.string (bs x.nm))
/-- The slice value with address A, n elements and capacity c reads as the list l. -/
def InsRow (w : World) (A : Option Addr) (n c : Nat) (l : List InsD) : Prop :=
  l.length = n ∧ n ≤ c ∧ (0 < n → ∃ b o, A = some ⟨b, o, none⟩ ∧ b < w.heap.size ∧ ∀ j x, l[j]? = some x → InsAt w b (o + j * 6) x)

section
variable {w w' : World} {A : Option Addr} {n c : Nat} {l : List InsD}
theorem insAt_of (b o : Nat) (x : InsD) (h : ∀ k u, (insC x)[k]? = some u → w.cell? ⟨b, o + k, none⟩ = some u) : InsAt w b o x :=
  ⟨h 0 _ rfl, h 1 _ rfl, h 2 _ rfl, h 3 _ rfl, h 4 _ rfl, h 5 _ rfl⟩
theorem InsAt.cell {b o : Nat} {x : InsD} (h : InsAt w b o x) {k : Nat} {u : Value} (hu : (insC x)[k]? = some u) : w.cell? ⟨b, o + k, none⟩ = some u := by
  obtain ⟨h0, h1, h2, h3, h4, h5⟩ := h
  match k, hu with
  | 0, hu => obtain rfl := Option.some.inj hu; exact h0
  | 1, hu => obtain rfl := Option.some.inj hu; exact h1
  | 2, hu => obtain rfl := Option.some.inj hu; exact h2
  | 3, hu => obtain rfl := Option.some.inj hu; exact h3
  | 4, hu => obtain rfl := Option.some.inj hu; exact h4
  | 5, hu => obtain rfl := Option.some.inj hu; exact h5
theorem InsAt.kept {b o : Nat} {x : InsD} (h : InsAt w b o x) (hk : ∀ p : Addr, p.block = b → w'.cell? p = w.cell? p) : InsAt w' b o x :=
  insAt_of b o x fun k u hu => (hk _ rfl).trans (h.cell hu)
theorem InsRow.nil_ (w : World) (A : Option Addr) (c : Nat) : InsRow w A 0 c [] := ⟨rfl, Nat.zero_le _, fun h => absurd h (by omega)⟩
theorem InsRow.kept (h : InsRow w A n c l) (hs : w.heap.size ≤ w'.heap.size) (hk : ∀ p : Addr, p.block < w.heap.size → w'.cell? p = w.cell? p) : InsRow w' A n c l :=
  ⟨h.1, h.2.1, fun hn => by
    obtain ⟨b, o, e, hb, hc⟩ := h.2.2 hn
    exact ⟨b, o, e, by omega, fun j x hx => (hc j x hx).kept fun p hp => hk p (by rw [hp]; exact hb)⟩⟩
theorem InsRow.below (h : InsRow w A n c l) (hb : Below w.heap.size w w') : InsRow w' A n c l := h.kept hb.size fun _ hp => hb.cell hp
theorem InsRow.alloc (h : InsRow w A n c l) (o : Obj) : InsRow (w.alloc o) A n c l := h.kept (by simp) fun p hp => World.cell?_alloc_lt w o p hp
theorem InsRow.drew (h : InsRow w A n c l) : InsRow w.drew A n c l := h
theorem InsRow.drewN (h : InsRow w A n c l) (k : Nat) : InsRow (w.drewN k) A n c l := h
theorem InsRow.at_ {k : Nat} (h : InsRow w A n c l) (hk : k < n) : ∃ b o, A = some ⟨b, o, none⟩ ∧ b < w.heap.size ∧ InsAt w b (o + k * 6) (l[k]'(by rw [h.1]; exact hk)) := by
  obtain ⟨b, o, e, hb, hc⟩ := h.2.2 (by omega)
  exact ⟨b, o, e, hb, hc k _ (List.getElem?_eq_getElem _)⟩

/-! The cells of a list. -/
theorem cells_len (l : List InsD) : (l.flatMap insC).length = l.length * 6 := by
  induction l with
  | nil => rfl
  | cons x r ih => rw [List.flatMap_cons, List.length_append, ih, List.length_cons]; show 6 + _ = _; omega
theorem cells_at_ {l : List InsD} {j k : Nat} {x : InsD} {u : Value} (hx : l[j]? = some x) (hu : (insC x)[k]? = some u) : (l.flatMap insC)[j * 6 + k]? = some u := by
  have hk : k < 6 := (List.getElem?_eq_some_iff.1 hu).1
  induction l generalizing j with
  | nil => cases hx
  | cons y r ih =>
    rw [List.flatMap_cons]
    cases j with
    | zero =>
      obtain rfl := Option.some.inj hx
      rw [List.getElem?_append_left (by show _ < 6; omega), Nat.zero_mul, Nat.zero_add]
      exact hu
    | succ j =>
      rw [List.getElem?_append_right (by show 6 ≤ _; omega)]
      show (r.flatMap insC)[(j + 1) * 6 + k - 6]? = _
      rw [show (j + 1) * 6 + k - 6 = j * 6 + k by omega]
      exact ih hx
theorem cells_one (l : List InsD) : ∀ u ∈ l.flatMap insC, u.oneCell' = true := by
  intro u hu
  obtain ⟨x, _, hu⟩ := List.mem_flatMap.1 hu
  simp only [insC, List.mem_cons, List.not_mem_nil, or_false] at hu
  rcases hu with rfl | rfl | rfl | rfl | rfl | rfl <;> rfl
theorem cells_get {l : List InsD} {i : Nat} {u : Value} (h : (l.flatMap insC)[i]? = some u) : ∃ x, l[i / 6]? = some x ∧ (insC x)[i % 6]? = some u := by
  have hi : i < l.length * 6 := by rw [← cells_len]; exact (List.getElem?_eq_some_iff.1 h).1
  have hj : i / 6 < l.length := by omega
  have hk : i % 6 < (insC l[i / 6]).length := by show _ < 6; omega
  have := cells_at_ (List.getElem?_eq_getElem hj) (List.getElem?_eq_getElem hk)
  rw [show i / 6 * 6 + i % 6 = i by omega, h] at this
  exact ⟨_, List.getElem?_eq_getElem hj, by rw [List.getElem?_eq_getElem hk, this]⟩
theorem InsRow.own {base : Nat} {e : TypeId} (h : w.ownsRow base e 6 (.slice A n c) l.length (l.flatMap insC)) (hn : l.length = n) : InsRow w A n c l := by
  rcases h.2 with ⟨hv, h0⟩ | ⟨g, cap, cur, hv, _, hg, hnc, _⟩
  · obtain ⟨rfl, rfl, rfl⟩ : A = none ∧ n = 0 ∧ c = 0 := by simpa using hv
    exact ⟨h0, Nat.le_refl _, fun h => absurd h (by omega)⟩
  · obtain ⟨rfl, rfl, rfl⟩ : A = some ⟨g, 0, none⟩ ∧ n = l.length ∧ c = cap := by simpa using hv
    refine ⟨rfl, hnc, fun _ => ⟨g, 0, rfl, ?_, fun j x hx => insAt_of _ _ _ fun k u hu => ?_⟩⟩
    · rcases Nat.lt_or_ge g w.heap.size with hlt | hge
      · exact hlt
      · rw [Array.getElem?_eq_none hge] at hg; cases hg
    · have := h.cells (g := g) rfl (j * 6 + k) u (cells_at_ hx hu)
      rw [ins_plain] at this
      rw [Nat.add_assoc]
      exact this
theorem own_ins {base : Nat} {e : TypeId} {v : Value} (h : w.ownsRow base e 6 v l.length (l.flatMap insC)) : ∃ A c, v = .slice A l.length c ∧ InsRow w A l.length c l := by
  obtain ⟨A, c, rfl⟩ := own_form h
  exact ⟨A, c, rfl, InsRow.own h rfl⟩
/-- A new row of one instruction, in the order of its cells. -/
theorem InsRow.lit (w : World) (x : InsD) (t : TypeId) (f : Nat × Nat) : InsRow (w.alloc (.cells #[.int .i64 x.op, .int .i64 x.a, .int .i64 x.b, .string (bs x.ty), .string (bs x.cl), .string (bs x.nm)] t f)) (some ⟨w.heap.size, 0, none⟩) 1 1 [x] := by
  refine ⟨rfl, Nat.le_refl _, fun _ => ⟨_, _, rfl, by simp, fun j y hy => ?_⟩⟩
  match j, hy with
  | 0, hy =>
    obtain rfl := Option.some.inj hy
    exact ⟨World.cell?_alloc_mark .., World.cell?_alloc_mark .., World.cell?_alloc_mark .., World.cell?_alloc_mark .., World.cell?_alloc_mark .., World.cell?_alloc_mark ..⟩
end
theorem ins_info : (Tryd.prog.info? 64).map (fun i => (i.zero, i.size, i.bytes)) = some (some (insV zeroI), 6, 72) := by kernel_rfl

section
variable {w : World} {ops : Array Oper} {rest : List Oper} {o : Oper} {a : Act} {Q : Exit → Act → World → Prop}
/-- Instructions behind instructions: the first a row of the call's own, the second any row. -/
theorem wpList_ins (hgd : o.guard = none) (s x : Operand) (ho : o.op = .call { callee := .builtin .append, args := #[s, x], argTypes := #[38, 38] })
    (base : Nat) (v : Value) (xs ys : List InsD) (hs : a.eval s = v) (hown : w.ownsRow base 64 6 v xs.length (xs.flatMap insC))
    (A : Option Addr) (m c : Nat) (hx : a.eval x = .slice A m c) (R : InsRow w A m c ys) (hm : 0 < m) (hn : (xs.length + m) * 72 ≤ 140737488355328) (hbase : base ≤ w.heap.size)
    (h : ∀ v' w', w'.ownsRow base 64 6 v' (xs ++ ys).length ((xs ++ ys).flatMap insC) → Below base w w' → wpList Tryd.prog ops Q rest (a.put o.dst v') w') : wpList Tryd.prog ops Q (o :: rest) a w := by
  obtain ⟨i0, hi, hz0, hz1, hz2⟩ := info_parts ins_info
  obtain ⟨h1, h2, h3⟩ := R
  obtain ⟨b, o', rfl, hb, hc⟩ := h3 hm
  refine wpList_append_own _ hgd s x 38 ho base 64 i0 (insV zeroI) 6 72 Tryd.underlying38 hi hz0 hz1 hz2 rfl (by decide) v xs.length (xs.flatMap insC) hs hown ⟨b, o', none⟩ m c (ys.flatMap insC) hx (by rw [cells_len, h1]) (fun j u hu => ?_) (cells_one ys) (by unfold maxLen; omega) (by omega) hbase ?_
  · obtain ⟨y, hy, hu⟩ := cells_get hu
    have := (hc _ _ hy).cell hu
    rw [ins_plain]
    rw [Nat.add_assoc, show j / 6 * 6 + j % 6 = j by omega] at this
    exact this
  · intro v' w' k1 k2 _
    exact h v' w' (by rw [List.flatMap_append, List.length_append, h1]; exact k1) ((Below.refl _ _).grown k2 hbase (fun q hq => (hown.lt q hq).1))
/-- The same, where the second may be none. -/
theorem wpList_ins_any (hgd : o.guard = none) (s x : Operand) (ho : o.op = .call { callee := .builtin .append, args := #[s, x], argTypes := #[38, 38] })
    (base : Nat) (v : Value) (xs ys : List InsD) (hs : a.eval s = v) (hown : w.ownsRow base 64 6 v xs.length (xs.flatMap insC))
    (A : Option Addr) (m c : Nat) (hx : a.eval x = .slice A m c) (R : InsRow w A m c ys) (hA : A = none → m = 0 ∧ c = 0) (hn : (xs.length + m) * 72 ≤ 140737488355328) (hbase : base ≤ w.heap.size)
    (h : ∀ v' w', w'.ownsRow base 64 6 v' (xs ++ ys).length ((xs ++ ys).flatMap insC) → Below base w w' → wpList Tryd.prog ops Q rest (a.put o.dst v') w') : wpList Tryd.prog ops Q (o :: rest) a w := by
  rcases Nat.eq_zero_or_pos m with rfl | hm
  · obtain ⟨i0, hi, hz0, hz1, hz2⟩ := info_parts ins_info
    obtain rfl : ys = [] := by simpa using R.1
    rw [List.append_nil] at h
    cases A with
    | none =>
      obtain ⟨_, rfl⟩ := hA rfl
      exact wpList_append_own_none hgd s x 38 ho base 64 i0 6 Tryd.underlying38 hi v xs.length (xs.flatMap insC) hs hown hx (h v w hown (Below.refl _ _))
    | some ad =>
      refine wpList_append_own _ hgd s x 38 ho base 64 i0 (insV zeroI) 6 72 Tryd.underlying38 hi hz0 hz1 hz2 rfl (by decide) v xs.length (xs.flatMap insC) hs hown ad 0 c [] hx rfl (fun j u hu => by simp at hu) (fun u hu => by cases hu) (by unfold maxLen; omega) (by omega) hbase ?_
      intro v' w' k1 k2 _
      rw [List.append_nil] at k1
      exact h v' w' k1 ((Below.refl _ _).grown k2 hbase (fun q hq => (hown.lt q hq).1))
  · exact wpList_ins hgd s x ho base v xs ys hs hown A m c hx R hm hn hbase h
end
end Go.Proofs.YtkabkpkfglngnaaDoor
