/- Slices whose elements are structs (and slices in them) as lists: how they lie, what an argument of nested data reads as, the sizes that the statement grants. -/
import Derived.Test.YtkabkpkfglngnaaDoorArgs0
import Derived.Deep.Slices
import Derived.ChangeSlices
namespace Go.Proofs.YtkabkpkfglngnaaDoor
open Go.ChangeShapes Go.WideShapes Go.ChangeAt Go.RowKit
set_option linter.unusedVariables false

/-- The slice value with address A, n elements of k cells each and capacity c reads as the list l; At tells how an element lies. -/
def SRow {α : Type} (At : World → Nat → Nat → α → Prop) (k : Nat) (w : World) (A : Option Addr) (n c : Nat) (l : List α) : Prop :=
  l.length = n ∧ n ≤ c ∧ (0 < n → ∃ b o, A = some ⟨b, o, none⟩ ∧ b < w.heap.size ∧ ∀ j x, l[j]? = some x → At w b (o + j * k) x)
/-- What lies below the heap's end stays there. -/
def Stays {α : Type} (At : World → Nat → Nat → α → Prop) : Prop := ∀ {w w' : World} {b o : Nat} {x : α}, At w b o x → b < w.heap.size → Below w.heap.size w w' → At w' b o x

section
variable {α : Type} {At : World → Nat → Nat → α → Prop} {k : Nat} {w w' : World} {A : Option Addr} {n c : Nat} {l : List α}
theorem SRow.nil_ (w : World) (A : Option Addr) (c : Nat) : SRow At k w A 0 c [] := ⟨rfl, Nat.zero_le _, fun h => absurd h (by omega)⟩
theorem SRow.below (hs : Stays At) (h : SRow At k w A n c l) (hb : Below w.heap.size w w') : SRow At k w' A n c l :=
  ⟨h.1, h.2.1, fun hn => by
    obtain ⟨b, o, e, hlt, hc⟩ := h.2.2 hn
    exact ⟨b, o, e, Nat.lt_of_lt_of_le hlt hb.size, fun j x hx => hs (hc j x hx) hlt hb⟩⟩
theorem SRow.at_ {j : Nat} (h : SRow At k w A n c l) (hj : j < n) : ∃ b o, A = some ⟨b, o, none⟩ ∧ b < w.heap.size ∧ At w b (o + j * k) (l[j]'(by rw [h.1]; exact hj)) := by
  obtain ⟨b, o, e, hb, hc⟩ := h.2.2 (by omega)
  exact ⟨b, o, e, hb, hc j _ (List.getElem?_eq_getElem _)⟩
theorem SRow.map_at {At' : World → Nat → Nat → α → Prop} (h : SRow At k w A n c l) (hi : ∀ b o x, At w b o x → At' w b o x) : SRow At' k w A n c l :=
  ⟨h.1, h.2.1, fun hn => by
    obtain ⟨b, o, e, hb, hc⟩ := h.2.2 hn
    exact ⟨b, o, e, hb, fun j x hx => hi _ _ _ (hc j x hx)⟩⟩
end

section
variable {H : Type} {enc : TypeId × Value → H} {P : Program} {W : World} {α : Type}
/-- What a slice reads as, where its elements read as rel says. -/
def relL (rel : α → DataW H → Prop) (l : List α) (d : DataW H) : Prop :=
  d = .nil ∧ l = [] ∨ ∃ ds sp, d = .slice ds sp ∧ ds.length = l.length ∧ ∀ (j : Nat) x, l[j]? = some x → ∃ d', ds[j]? = some d' ∧ rel x d'
theorem cells_get_ {w : World} {base : Nat} {p : Addr} {n : Nat} {cs : List Value} (h : w.cells? base p n = some cs) : cs.length = n ∧ ∀ k u, cs[k]? = some u → w.cell? (p.add k) = some u := by
  obtain ⟨h1, h2, h3⟩ := World.cells?_some h
  refine ⟨by simpa using h2, ?_⟩
  intro k u hu
  rw [h3 k (by have := (List.getElem?_eq_some_iff.1 hu).1; omega), hu]
theorem open_rows [Inhabited α] {t e : TypeId} {k : Nat} (ht : P.underlying t = some (.slice e)) (hk : P.cellsOf e = k) (hk0 : 0 < k) (At : World → Nat → Nat → α → Prop) (rel : α → DataW H → Prop) (wf : α → Prop)
    {base : Nat} {sp : Nat → Bool} {held : Bool}
    (hel : ∀ (fuel b o : Nat) (cs : List Value) (d : DataW H) (p : List MemPlace), (∀ i u, cs[i]? = some u → W.cell? ⟨b, o + i, none⟩ = some u) → DataW.trod enc P W base sp held fuel e cs = some (d, p) → ∃ x, At W b o x ∧ rel x d ∧ wf x)
    {fuel : Nat} {cs : List Value} {d : DataW H} {p : List MemPlace} (h : DataW.trod enc P W base sp held fuel t cs = some (d, p)) :
    ∃ A n c l, cs = [.slice A n c] ∧ SRow At k W A n c l ∧ (A = none → n = 0 ∧ c = 0) ∧ relL rel l d ∧ (∀ x ∈ l, wf x) ∧ c ≤ maxLen := by
  rcases Deep.open_slice ht h with ⟨rfl, hx⟩ | ⟨a, len, cap, m, q, D, Pl, rfl, _, hl, hm, hmm, hx, hcell⟩
  · exact ⟨none, 0, 0, [], rfl, SRow.nil_ _ _ _, fun _ => ⟨rfl, rfl⟩, .inl ⟨congrArg Prod.fst hx, rfl⟩, fun x hx => (by cases hx), Nat.zero_le _⟩
  have hlm : len ≤ m := by rw [hmm]; split <;> omega
  have hd := congrArg Prod.fst hx
  simp only at hd
  rcases Nat.eq_zero_or_pos len with rfl | hpos
  · exact ⟨some a, 0, cap, [], rfl, ⟨rfl, hl, fun h => absurd h (by omega)⟩, fun h => (by cases h), .inr ⟨_, _, hd, by simp, fun j x hx => by simp at hx⟩, fun x hx => (by cases hx), hm⟩
  rw [hk] at hcell
  obtain ⟨cs0, h1, _⟩ := hcell 0 (by omega)
  obtain ⟨hl0, hg0⟩ := cells_get_ h1
  have hc0 := hg0 0 _ (List.getElem?_eq_getElem (by omega))
  obtain ⟨b, o, spot⟩ := a
  obtain rfl : spot = none := by simpa [Addr.add] using World.cell?_spot hc0
  obtain ⟨X, hX⟩ := Deep.choose_lt (α := α) (p := fun i x => At W b (o + i * k) x ∧ rel x (D i) ∧ wf x) (n := m) (fun i hi => by
    obtain ⟨cs', h1, h2⟩ := hcell i hi
    exact hel _ b (o + i * k) cs' _ _ (fun j u hu => by
      have := (cells_get_ h1).2 j u hu
      rw [add_spotless, add_spotless] at this
      exact this) h2)
  have hget : ∀ {j : Nat} {x : α}, ((List.range len).map X)[j]? = some x → j < len ∧ X j = x := fun {j x} hx => by
    have hj : j < len := by have := (List.getElem?_eq_some_iff.1 hx).1; simpa using this
    rw [List.getElem?_map, List.getElem?_range hj] at hx
    exact ⟨hj, Option.some.inj hx⟩
  refine ⟨some ⟨b, o, none⟩, len, cap, (List.range len).map X, rfl, ⟨by simp, hl, fun _ => ⟨b, o, rfl, (by have := block_of_cell hc0; rw [add_spotless, add_spotless] at this; exact this), fun j x hx => ?_⟩⟩, fun h => (by cases h), .inr ⟨_, _, hd, by simp, fun j x hx => ?_⟩, fun x hx => ?_, hm⟩
  · obtain ⟨hj, rfl⟩ := hget hx
    exact (hX j (by omega)).1
  · obtain ⟨hj, rfl⟩ := hget hx
    exact ⟨D j, by rw [List.getElem?_map, List.getElem?_range hj]; rfl, (hX j (by omega)).2.1⟩
  · obtain ⟨i, hi, rfl⟩ := List.mem_map.1 hx
    exact (hX i (by have := List.mem_range.1 hi; omega)).2.2

/-! The sizes. -/
theorem weights_mem_all {e : TypeId} : ∀ {ds : List (DataW H)} {d : DataW H}, d ∈ ds → ∀ n ∈ DataW.weights P e d, n ∈ DataW.weightsAll P e ds
  | [], d, h, n, hn => by cases h
  | y :: r, d, h, n, hn => by
    simp only [DataW.weightsAll, List.mem_append]
    rcases List.mem_cons.1 h with rfl | h
    · exact .inl hn
    · exact .inr (weights_mem_all h n hn)
theorem sizes_rows {t e : TypeId} (ht : P.underlying t = some (.slice e)) {rel : α → DataW H → Prop} {l : List α} {d : DataW H} {R : Nat} (h : ∀ n ∈ DataW.weights P t d, n ≤ R) (hr : relL rel l d) {Q : α → Prop}
    (hq : ∀ x d', rel x d' → (∀ n ∈ DataW.weights P e d', n ≤ R) → Q x) : (∀ x ∈ l, Q x) ∧ l.length * P.bytesOf e ≤ R := by
  rcases hr with ⟨_, rfl⟩ | ⟨ds, sp, rfl, hlen, hds⟩
  · exact ⟨fun x hx => (by cases hx), by simp⟩
  simp only [DataW.weights, ht, List.mem_cons, List.mem_append] at h
  refine ⟨fun x hx => ?_, ?_⟩
  · obtain ⟨j, hj, rfl⟩ := List.getElem_of_mem hx
    obtain ⟨d', hd', hrel⟩ := hds j _ (List.getElem?_eq_getElem hj)
    exact hq _ d' hrel fun n hn => h n (.inr (.inl (weights_mem_all (List.mem_of_getElem? hd') n hn)))
  · have h1 := h _ (.inl rfl)
    refine Nat.le_trans (Nat.mul_le_mul_right _ ?_) h1
    omega
theorem bulk_pos : ∀ d : DataW H, 1 ≤ Rows.uptoBulk d
  | .lit l => by cases l <;> simp [Rows.uptoBulk]
  | .nil => by simp [Rows.uptoBulk]
  | .ptr d => by simp [Rows.uptoBulk]
  | .slice e s => by simp [Rows.uptoBulk]
  | .agg p => by simp [Rows.uptoBulk]
  | .iface t d => by simp [Rows.uptoBulk]
  | .map e => by simp [Rows.uptoBulk]
  | .held d => by simp [Rows.uptoBulk]
theorem bulk_mem : ∀ {ds : List (DataW H)} {d : DataW H}, d ∈ ds → Rows.uptoBulk d ≤ Rows.uptoBulkAll ds
  | [], d, h => by cases h
  | y :: r, d, h => by
    simp only [Rows.uptoBulkAll]
    rcases List.mem_cons.1 h with rfl | h
    · omega
    · have := bulk_mem h; omega
theorem bulk_len : ∀ ds : List (DataW H), ds.length ≤ Rows.uptoBulkAll ds
  | [] => Nat.zero_le _
  | y :: r => by
    simp only [Rows.uptoBulkAll, List.length_cons]
    have := bulk_len r
    have := bulk_pos y
    omega
theorem bulk_rows {rel : α → DataW H → Prop} {l : List α} {d : DataW H} {M : Nat} (h : Rows.uptoBulk d ≤ M) (hr : relL rel l d) {Q : α → Prop} (hq : ∀ x d', rel x d' → Rows.uptoBulk d' ≤ M → Q x) : (∀ x ∈ l, Q x) ∧ l.length ≤ M := by
  rcases hr with ⟨_, rfl⟩ | ⟨ds, sp, rfl, hlen, hds⟩
  · exact ⟨fun x hx => (by cases hx), Nat.zero_le _⟩
  simp only [Rows.uptoBulk] at h
  refine ⟨fun x hx => ?_, ?_⟩
  · obtain ⟨j, hj, rfl⟩ := List.getElem_of_mem hx
    obtain ⟨d', hd', hrel⟩ := hds j _ (List.getElem?_eq_getElem hj)
    have := bulk_mem (List.mem_of_getElem? hd')
    exact hq _ d' hrel (by omega)
  · have := bulk_len ds
    omega
end
end Go.Proofs.YtkabkpkfglngnaaDoor
