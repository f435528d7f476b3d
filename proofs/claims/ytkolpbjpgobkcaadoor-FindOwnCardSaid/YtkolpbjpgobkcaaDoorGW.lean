/- The reference's ClassOf. Texts appended to a row of the call's own; the reference's Above. -/
import Derived.Test.YtkolpbjpgobkcaaDoorGH
import Derived.Laws.AppendOwnNone
import Derived.Maps.AppendAt
namespace Go.Proofs.YtkolpbjpgobkcaaDoor
open Go.ChangeShapes Go.WideShapes Go.ChangeAt Go.RowKit
set_option linter.unusedVariables false

/-- A class's value in a world: its lists lie there. -/
def Held (w : World) (c : ClassD) (v : Value) : Prop :=
  ∃ A i j B k l C m n, v = .agg #[.string (bs c.nm), .string (bs c.su), .slice A i j, .bool c.face, .slice B k l, .slice C m n] ∧ StrRow w A i j c.faces ∧ FieldRow w B k l c.fields ∧ MethRow w C m n c.meths ∧ (A = none → i = 0 ∧ j = 0) ∧ (B = none → k = 0 ∧ l = 0) ∧ (C = none → m = 0 ∧ n = 0)
theorem Held.below {w w' : World} {c : ClassD} {v : Value} (h : Held w c v) (hb : Below w.heap.size w w') : Held w' c v := by
  obtain ⟨A, i, j, B, k, l, C, m, n, e, h1, h2, h3, h4⟩ := h
  exact ⟨A, i, j, B, k, l, C, m, n, e, h1.below hb, h2.below hb, h3.below hb, h4⟩
theorem held_bare (w : World) {c : ClassD} (h1 : c.faces = []) (h2 : c.fields = []) (h3 : c.meths = []) : Held w c (.agg #[.string (bs c.nm), .string (bs c.su), .slice none 0 0, .bool c.face, .slice none 0 0, .slice none 0 0]) :=
  ⟨none, 0, 0, none, 0, 0, none, 0, 0, rfl, by rw [h1]; exact SRow.nil_ _ _ _, by rw [h2]; exact SRow.nil_ _ _ _, by rw [h3]; exact SRow.nil_ _ _ _, fun _ => ⟨rfl, rfl⟩, fun _ => ⟨rfl, rfl⟩, fun _ => ⟨rfl, rfl⟩⟩
/-- What ClassOf says. -/
def ClassSays (w : World) (l : List ClassD) (y : List UInt8) (e : Ending) (w' : World) : Prop := ∃ v, e = .returned (.tuple #[v, .bool (knownB l y)]) ∧ Held w' (classD l y) v ∧ Below w.heap.size w w'
theorem find_next {l : List ClassD} {y : List UInt8} {k : Nat} (hk : k < l.length) (h : ∀ x ∈ l.take k, x.nm ≠ y) (hn : l[k].nm ≠ y) : ∀ x ∈ l.take (k + 1), x.nm ≠ y := by
  rw [List.take_succ_eq_append_getElem hk]
  intro x hx
  rcases List.mem_append.1 hx with hx | hx
  · exact h x hx
  · obtain rfl := List.mem_singleton.1 hx
    exact hn
theorem find_at {l : List ClassD} {y : List UInt8} {k : Nat} (h1 : y ≠ objB) (h2 : y ≠ fltB) (hk : k < l.length) (h : ∀ x ∈ l.take k, x.nm ≠ y) (hn : l[k].nm = y) : classOf l y = some l[k] := by
  rw [classOf_find h1 h2]
  have e : l = l.take k ++ l[k] :: l.drop (k + 1) := by rw [← List.drop_eq_getElem_cons hk, List.take_append_drop]
  have h4 : (l.take k).find? (fun c => c.nm == y) = none := List.find?_eq_none.2 fun x hx => by simpa using h x hx
  have h5 : (l.take k ++ l[k] :: l.drop (k + 1)).find? (fun c => c.nm == y) = some l[k] := by rw [List.find?_append, h4, Option.none_or, List.find?_cons_of_pos (by simp [hn])]
  rw [← e] at h5
  exact h5
theorem find_no {l : List ClassD} {y : List UInt8} (h1 : y ≠ objB) (h2 : y ≠ fltB) (h : ∀ x ∈ l, x.nm ≠ y) : classOf l y = none := by
  rw [classOf_find h1 h2]
  exact List.find?_eq_none.2 fun x hx => by simpa using h x hx

theorem lst_yes {a l : List UInt8} (h : a = l) : ((bs a).toList == l) = true := by rw [ByteArray.toList_eq, beq_iff_eq]; exact h
theorem lst_no {a l : List UInt8} (h : a ≠ l) : ((bs a).toList == l) = false := by rw [ByteArray.toList_eq, beq_eq_false_iff_ne]; exact h
theorem str_ne_ {a b : List UInt8} (h : a ≠ b) : ((bs a).toList == (bs b).toList) = false := by rw [ByteArray.toList_eq, ByteArray.toList_eq, beq_eq_false_iff_ne]; exact h
theorem held_obj (w : World) {l : List ClassD} {y : List UInt8} (h : y = objB) : Held w (classD l y) (.agg #[.string (bs y), .string ⟨#[]⟩, .slice none 0 0, .bool false, .slice none 0 0, .slice none 0 0]) := by
  subst h; rw [classD_some classOf_obj]; exact held_bare w (c := objC) rfl rfl rfl
theorem held_flt (w : World) {l : List ClassD} {y : List UInt8} (h : y = fltB) : Held w (classD l y) (.agg #[.string (bs y), .string ⟨#[79, 98, 106, 101, 99, 116]⟩, .slice none 0 0, .bool false, .slice none 0 0, .slice none 0 0]) := by
  subst h; rw [classD_some classOf_flt]; exact held_bare w (c := fltC) rfl rfl rfl
theorem held_none (w : World) {l : List ClassD} {y : List UInt8} (h : classOf l y = none) : Held w (classD l y) (.agg #[.string ⟨#[]⟩, .string ⟨#[]⟩, .slice none 0 0, .bool false, .slice none 0 0, .slice none 0 0]) := by
  rw [classD_none h]; exact held_bare w (c := zeroC) rfl rfl rfl
theorem known_obj {w : List ClassD} : knownB w objB = true := by unfold knownB; rw [classOf_obj]; rfl
theorem known_flt {w : List ClassD} : knownB w fltB = true := by unfold knownB; rw [classOf_flt]; rfl
end Go.Proofs.YtkolpbjpgobkcaaDoor
namespace Go.Proofs.YtkolpbjpgobkcaaDoor
open Go.ChangeShapes Go.WideShapes Go.ChangeAt Go.RowKit
set_option linter.unusedVariables false

/-- A row of the call's own, of texts. -/
def Own (w : World) (base : Nat) (v : Value) (l : List (List UInt8)) : Prop := w.ownsRow base 9 1 v l.length (l.map strV)
theorem Own.nil_ (w : World) (base : Nat) : Own w base (.slice none 0 0) [] := World.ownsRow_nil _ _ _ _
theorem Own.below {w w' : World} {base : Nat} {v : Value} {l : List (List UInt8)} (h : Own w base v l) (hb : Below w.heap.size w w') : Own w' base v l := own_below h hb
theorem Own.form {w : World} {base : Nat} {v : Value} {l : List (List UInt8)} (h : Own w base v l) : ∃ A c, v = .slice A l.length c := own_form h
theorem Own.row {w : World} {base : Nat} {A : Option Addr} {n c : Nat} {l : List (List UInt8)} (h : Own w base (.slice A n c) l) : StrRow w A l.length c l := by
  obtain ⟨B, d, e⟩ := own_form h
  obtain ⟨rfl, rfl, rfl⟩ : A = B ∧ n = l.length ∧ c = d := by simpa using e
  obtain ⟨h1, h2, h3⟩ := Row.own h
  refine ⟨rfl, h2, fun hn => ?_⟩
  obtain ⟨b, o, e, hb, hc⟩ := h3 hn
  refine ⟨b, o, e, hb, fun j x hx => ?_⟩
  have := hc j (strV x) (by rw [List.getElem?_map, hx]; rfl)
  show w.cell? ⟨b, o + j * 1, none⟩ = _
  rw [Nat.mul_one]
  exact this
theorem Own.none_ {w : World} {base : Nat} {A : Option Addr} {n c : Nat} {l : List (List UInt8)} (h : Own w base (.slice A n c) l) : A = none → l.length = 0 ∧ c = 0 := fun e => by
  subst e
  rcases h.2 with ⟨hv, h0⟩ | ⟨g, cap, cur, hv, _⟩
  · obtain ⟨_, rfl⟩ : n = 0 ∧ c = 0 := by simpa using hv
    exact ⟨h0, rfl⟩
  · simp at hv
/-- A new block of one text. -/
theorem str_lit (w : World) (x : List UInt8) (t : TypeId) (f : Nat × Nat) : StrRow (w.alloc (.cells #[.string (bs x)] t f)) (some ⟨w.heap.size, 0, none⟩) 1 1 [x] :=
  ⟨rfl, Nat.le_refl _, fun _ => ⟨_, _, rfl, by simp, fun j y hy => by
    have hj : j = 0 := by have := (List.getElem?_eq_some_iff.1 hy).1; simpa using this
    subst hj
    obtain rfl : x = y := by simpa using hy
    exact World.cell?_alloc_mark ..⟩⟩
/-- .. laid second. -/
theorem str_lit2 (w : World) (o : Obj) (x : List UInt8) (t : TypeId) (f : Nat × Nat) : StrRow ((w.alloc o).alloc (.cells #[.string (bs x)] t f)) (some ⟨w.heap.size + 1, 0, none⟩) 1 1 [x] := by
  have := str_lit (w.alloc o) x t f
  rwa [show (w.alloc o).heap.size = w.heap.size + 1 by simp] at this
theorem one_strs (ys : List (List UInt8)) : ∀ u ∈ ys.map strV, u.oneCell' = true := by
  intro u hu
  obtain ⟨x, _, rfl⟩ := List.mem_map.1 hu
  rfl
/-- Texts behind a row of the call's own. -/
theorem wpList_strs {w : World} {ops : Array Oper} {rest : List Oper} {o : Oper} {a : Act} {Q : Exit → Act → World → Prop} (hgd : o.guard = none) (s x : Operand)
    (ho : o.op = .call { callee := .builtin .append, args := #[s, x], argTypes := #[27, 27] })
    (base : Nat) (v : Value) (xs : List (List UInt8)) (hs : a.eval s = v) (hown : Own w base v xs)
    (B : Option Addr) (m c : Nat) (ys : List (List UInt8)) (hx : a.eval x = .slice B m c) (RB : StrRow w B m c ys) (hB : B = none → m = 0 ∧ c = 0) (hn : xs.length + m ≤ 1099511627776) (hbase : base ≤ w.heap.size)
    (h : ∀ v' w', Own w' base v' (xs ++ ys) → Below base w w' → w.grownBy w' v.ownBlock → (v'.ownBlock = v.ownBlock ∨ v'.ownBlock = some w.heap.size) → wpList Tryd.prog ops Q rest (a.put o.dst v') w') : wpList Tryd.prog ops Q (o :: rest) a w := by
  obtain ⟨i0, hi, hz0, hz1, hz2⟩ := info_parts str_info
  have hl : ys.length = m := RB.1
  cases B with
  | none =>
    obtain ⟨rfl, rfl⟩ := hB rfl
    obtain rfl : ys = [] := List.eq_nil_of_length_eq_zero hl
    refine wpList_append_own_none hgd s x 27 ho base 9 i0 1 Tryd.underlying27 hi v xs.length (xs.map strV) hs hown hx ?_
    exact h v w (by rw [List.append_nil]; exact hown) (Below.refl _ _) (World.grownBy.refl _ _) (.inl rfl)
  | some ad =>
    have hnews : ∀ (j : Nat) u, (ys.map strV)[j]? = some u → w.cell? (ad.add j) = some u := fun j u hu => by
      have hj : j < m := by have := (List.getElem?_eq_some_iff.1 hu).1; rw [List.length_map, hl] at this; exact this
      obtain ⟨b, of, e, hb, hc⟩ := RB.row.2.2 (by omega)
      obtain rfl : ad = ⟨b, of, none⟩ := by simpa using e
      rw [add_spotless]
      exact hc j u hu
    refine wpList_append_own_at _ hgd s x 27 ho base 9 i0 (.string ByteArray.empty) 1 16 Tryd.underlying27 hi hz0 hz1 hz2 rfl (by decide) v xs.length (xs.map strV) hs hown ad m c (ys.map strV) hx (by simp [hl]) hnews (one_strs ys) (by unfold maxLen; omega) (by omega) hbase ?_
    intro v' w' h1 h2 _ h4
    refine h v' w' ?_ ((Below.refl _ _).grown h2 hbase (fun q hq => (hown.lt q hq).1)) h2 h4
    unfold Own
    rw [List.map_append, List.length_append, hl]
    exact h1
theorem StrRow.grown {w w' : World} {A : Option Addr} {n c : Nat} {l : List (List UInt8)} {row : Option Nat} (h : StrRow w A n c l) (hg : w.grownBy w' row) (hA : ∀ a, A = some a → some a.block ≠ row) : StrRow w' A n c l :=
  ⟨h.1, h.2.1, fun hn => by
    obtain ⟨b, o, e, hb, hc⟩ := h.2.2 hn
    exact ⟨b, o, e, Nat.lt_of_lt_of_le hb hg.size, fun j x hx => hg.cell (hc j x hx) (by have := hA _ e; exact this)⟩⟩
/-- The block of a slice is another than that of a row of the call's own. -/
def Apart (w : World) (A : Option Addr) (v : Value) : Prop := ∀ a, A = some a → a.block < w.heap.size ∧ some a.block ≠ v.ownBlock
theorem Apart.grown {w w' : World} {A : Option Addr} {v v' : Value} {row : Option Nat} (h : Apart w A v) (hg : w.grownBy w' row) (hv : v'.ownBlock = v.ownBlock ∨ v'.ownBlock = some w.heap.size) : Apart w' A v' := fun a ha => by
  obtain ⟨h1, h2⟩ := h a ha
  refine ⟨Nat.lt_of_lt_of_le h1 hg.size, ?_⟩
  rcases hv with hv | hv
  · rw [hv]; exact h2
  · rw [hv]
    intro e
    have := Option.some.inj e
    omega
theorem Apart.alloc {w : World} {A : Option Addr} {v : Value} (h : Apart w A v) (o : Obj) : Apart (w.alloc o) A v := fun a ha => ⟨Nat.lt_of_lt_of_le (h a ha).1 (by simp), (h a ha).2⟩
theorem apart_new {w w' : World} {base : Nat} {A B : Option Addr} {m c n d : Nat} {l x : List (List UInt8)} (h : Own w' w.heap.size (.slice A m c) l) (k : Own w base (.slice B n d) x) : Apart w' A (.slice B n d) := fun a ha => by
  subst ha
  obtain ⟨h1, h2⟩ := h.lt a.block rfl
  refine ⟨h2, fun e => ?_⟩
  have := (k.lt a.block e.symm).2
  omega
/-- A result that is a row of the call's own. -/
def Gives (w : World) (l : List (List UInt8)) (e : Ending) (w' : World) : Prop := ∃ v, e = .returned v ∧ Own w' w.heap.size v l ∧ Below w.heap.size w w'
theorem emptyB_yes {l : List UInt8} (h : l = []) : (bs l).toList.isEmpty = true := by rw [h, ByteArray.toList_eq]; rfl
theorem emptyB_no {l : List UInt8} (h : l ≠ []) : (bs l).toList.isEmpty = false := by
  rw [ByteArray.toList_eq]
  cases l with
  | nil => exact absurd rfl h
  | cons a t => rfl

end Go.Proofs.YtkolpbjpgobkcaaDoor
