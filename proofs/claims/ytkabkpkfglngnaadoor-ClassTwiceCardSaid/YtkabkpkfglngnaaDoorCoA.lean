/- A law's arguments as the call finds them: lists of instructions; the sizes that the statement grants. -/
import Derived.Test.YtkabkpkfglngnaaDoorArgsI
import Derived.Test.YtkabkpkfglngnaaDoorCoR
import Derived.Test.YtkabkpkfglngnaaDoorInM2
import Derived.Deep.Slices
import Derived.ChangeSlices
namespace Go.Proofs.YtkabkpkfglngnaaDoor
open Go.ChangeShapes Go.WideShapes Go.ChangeAt Go.RowKit
set_option linter.unusedVariables false

section
variable {H : Type} {enc : TypeId × Value → H} {W : World}
instance : Inhabited InsD := ⟨zeroI⟩
theorem cells_take {w : World} {base : Nat} {p : Addr} {n : Nat} {cs : List Value} (h : w.cells? base p n = some cs) : ∀ k u, cs[k]? = some u → w.cell? (p.add k) = some u := by
  obtain ⟨h1, h2, h3⟩ := World.cells?_some h
  intro k u hu
  rw [h3 k (by have := (List.getElem?_eq_some_iff.1 hu).1; omega), hu]
/-- What an argument that is a list of instructions reads as. -/
def codeT (l : List InsD) (d : DataW H) : Prop := d = .nil ∧ l = [] ∨ ∃ sp, d = .slice (l.map insT) sp
set_option maxRecDepth 100000 in
theorem arg_code {r : Reach} {base : Nat} {v : Value} {d : DataW H} {ps : List MemPlace} (hval : Value.okWide Tryd.prog W r base 38 v) (h : DataW.Trod enc Tryd.prog W 0 (fun _ => true) true 38 v d ps) :
    ∃ A n c l, v = .slice A n c ∧ InsRow W A n c l ∧ (A = none → n = 0 ∧ c = 0) ∧ codeT l d ∧ (∀ x ∈ l, x.wf) ∧ n ≤ maxLen := by
  obtain ⟨a0, len, cap, rfl⟩ := okWide_slice Tryd.underlying38 hval
  obtain ⟨fuel, hf⟩ := h
  have c6 : Tryd.prog.cellsOf 64 = 6 := by kernel_rfl
  rcases Deep.open_slice Tryd.underlying38 hf with ⟨hcs, hx⟩ | ⟨a, len', cap', m, n, D, Pl, hcs, _, hl, hm, hmm, hx, hcell⟩
  · obtain ⟨rfl, rfl, rfl⟩ : a0 = none ∧ len = 0 ∧ cap = 0 := by simpa [Value.cells] using hcs
    exact ⟨none, 0, 0, [], rfl, InsRow.nil_ _ _ _, fun _ => ⟨rfl, rfl⟩, .inl ⟨congrArg Prod.fst hx, rfl⟩, fun x hx => (by cases hx), Nat.zero_le _⟩
  · obtain ⟨rfl, rfl, rfl⟩ : a0 = some a ∧ len = len' ∧ cap = cap' := by simpa [Value.cells] using hcs
    simp only [if_true] at hmm
    subst hmm
    rw [c6] at hcell
    obtain ⟨X, hX⟩ := Deep.choose_lt (α := InsD) (p := fun i x => W.cells? 0 (a.add (i * 6)) 6 = some (insL x) ∧ D i = insT x ∧ x.wf) (fun i hi => by
      obtain ⟨cs', h1, h2⟩ := hcell i hi
      obtain ⟨x, hx1, hx2, hx3, hx4, _⟩ := ins_of_trod h2
      exact ⟨x, by rw [h1, hx1], hx2, hx4⟩)
    have hml : ∀ x ∈ (List.range len).map X, x.wf := fun x hx => by
      obtain ⟨i, hi, rfl⟩ := List.mem_map.1 hx
      exact (hX i (by have := List.mem_range.1 hi; omega)).2.2
    refine ⟨some a, len, m, (List.range len).map X, rfl, ⟨by simp, hl, fun h0 => ?_⟩, fun h => by (cases h), .inr ?_, hml, by omega⟩
    · have hc0 := (cells_take (hX 0 (by omega)).1) 0 _ rfl
      obtain ⟨b, o, spot⟩ := a
      obtain rfl : spot = none := by simpa [Addr.add] using World.cell?_spot hc0
      refine ⟨b, o, rfl, block_of_cell hc0, fun j x hx => insAt_of _ _ _ fun k u hu => ?_⟩
      have hj : j < len := by
        have := (List.getElem?_eq_some_iff.1 hx).1
        simpa using this
      have hxj : X j = x := by
        rw [List.getElem?_map, List.getElem?_range hj] at hx
        exact Option.some.inj hx
      subst hxj
      have := cells_take (hX j (by omega)).1 k u hu
      rw [add_spotless, add_spotless] at this
      exact this
    · have hd := congrArg Prod.fst hx
      simp only at hd
      refine ⟨(List.range (m - len)).map fun j => D (len + j), ?_⟩
      rw [hd]
      congr 1
      rw [List.map_map]
      exact List.map_congr_left fun i hi => (hX i (by have := List.mem_range.1 hi; omega)).2.1
theorem weights_all {x : InsD} : ∀ {l : List InsD}, x ∈ l → ∀ n ∈ DataW.weights Tryd.prog 64 (insT x : DataW H), n ∈ DataW.weightsAll Tryd.prog 64 (l.map insT : List (DataW H))
  | [], h, n, hn => by cases h
  | y :: r, h, n, hn => by
    simp only [List.map_cons, DataW.weightsAll, List.mem_append]
    rcases List.mem_cons.1 h with rfl | h
    · exact .inl hn
    · exact .inr (weights_all h n hn)
set_option maxRecDepth 100000 in
theorem reach_code {ts : List TypeId} {ds : List (DataW H)} {d : DataW H} (h : (DataW.weightsEach Tryd.prog ts ds).all (· ≤ reachBytes) = true) (j : Nat) {l : List InsD} (ht : ts[j]? = some 38) (hd : ds[j]? = some d) (hc : codeT l d) :
    ∀ x ∈ l, x.fits := by
  rcases hc with ⟨_, rfl⟩ | ⟨sp, rfl⟩
  · intro x hx; cases hx
  intro x hx
  have hw : DataW.weights Tryd.prog 64 (insT x : DataW H) = [x.ty.length, x.cl.length, x.nm.length] := by
    simp only [DataW.weights, insT, Tryd.underlying64]
    rfl
  have k : ∀ n ∈ [x.ty.length, x.cl.length, x.nm.length], n ≤ 140737488351232 := fun n hn => by
    rw [← hw] at hn
    have := List.all_eq_true.1 h n (DataW.weights_mem_each ht hd n (by
      simp only [DataW.weights, Tryd.underlying38, List.mem_cons, List.mem_append]
      exact .inr (.inl (weights_all hx n hn))))
    exact Nat.le_trans (of_decide_eq_true this) (by decide)
  exact ⟨k _ (by simp), k _ (by simp), k _ (by simp)⟩
set_option maxRecDepth 100000 in
theorem reach_count {ts : List TypeId} {ds : List (DataW H)} {d : DataW H} (h : (DataW.weightsEach Tryd.prog ts ds).all (· ≤ reachBytes) = true) (j : Nat) {l : List InsD} (ht : ts[j]? = some 38) (hd : ds[j]? = some d) (hc : codeT l d) :
    l.length * 72 ≤ 140737488351232 := by
  rcases hc with ⟨_, rfl⟩ | ⟨sp, rfl⟩
  · exact Nat.zero_le _
  have := sized_slice h ht hd Tryd.underlying38
  have hb : Tryd.prog.bytesOf 64 = 72 := by kernel_rfl
  rw [hb, List.length_map] at this
  unfold reachBytes at this
  omega
theorem bulk_code (H : Type) {x : InsD} : ∀ {l : List InsD}, x ∈ l → Rows.uptoBulk (insT x : DataW H) ≤ Rows.uptoBulkAll (l.map insT : List (DataW H))
  | [], h => by cases h
  | y :: r, h => by
    simp only [List.map_cons, Rows.uptoBulkAll]
    rcases List.mem_cons.1 h with rfl | h
    · omega
    · have := bulk_code H h; omega
theorem bulk_count (H : Type) (l : List InsD) : l.length ≤ Rows.uptoBulkAll (l.map insT : List (DataW H)) := by
  induction l with
  | nil => exact Nat.zero_le _
  | cons y r ih =>
    simp only [List.map_cons, Rows.uptoBulkAll, List.length_cons]
    have : 1 ≤ Rows.uptoBulk (insT y : DataW H) := by simp only [insT, Rows.uptoBulk]; omega
    omega
theorem upto_code {ds : List (DataW H)} {d : DataW H} (hk : Rows.uptoSmall H ds = true) (j : Nat) {l : List InsD} (hd : ds[j]? = some d) (hc : codeT l d) : l.length ≤ 1048576 ∧ ∀ x ∈ l, x.ty.length ≤ 1048576 ∧ x.cl.length ≤ 1048576 ∧ x.nm.length ≤ 1048576 := by
  have hp := upto_part hk hd
  rcases hc with ⟨_, rfl⟩ | ⟨sp, rfl⟩
  · exact ⟨Nat.zero_le _, fun x hx => by cases hx⟩
  simp only [Rows.uptoBulk] at hp
  refine ⟨Nat.le_trans (bulk_count H l) (by omega), fun x hx => ?_⟩
  have := bulk_code H hx
  simp only [insT, Rows.uptoBulk, Rows.uptoBulkAll] at this
  omega
end
end Go.Proofs.YtkabkpkfglngnaaDoor
