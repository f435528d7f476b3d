/- What a row's listed variables give the walks: the table of the operations. A law's arguments: an instruction; the sizes that the statement grants. A law's arguments as the call finds them: lists of instructions; the sizes that the statement grants. A law's arguments as the call finds them: classes; the sizes that the statement grants. The witness of a row that lists a pinned table: a world whose variables are laid, its shape in one pass. -/
import Derived.Test.YtkolpbjpgobkcaaGreatDoorIn2
import Derived.OpenShut
import Derived.LaidLaws
import Derived.Lib.LaidTab
import Derived.MakeChecks
import Derived.Test.YtkolpbjpgobkcaaGreatDoorGA
import Derived.Test.YtkolpbjpgobkcaaGreatDoorGC
import Derived.Test.YtkolpbjpgobkcaaGreatDoorGH
import Derived.Deep.Slices
import Derived.ChangeSlices
import Derived.Lay
import Derived.Deep.DeepHandedRow
namespace Go.Proofs.YtkolpbjpgobkcaaGreatDoor
open Go.ChangeShapes Go.WideShapes Go.ChangeAt Go.RowKit
set_option linter.unusedVariables false

/-- One of the listed variables reads as it is listed. -/
theorem laid_mem {P : Program} {W : World} {n : String} {d : DataW Unit} : ∀ (l : List (String × DataW Unit)) (ps : List MemPlace), DataW.LaidVars P W l ps → (n, d) ∈ l →
    ∃ g t cs fuel p, P.globalNamed n = some g ∧ (P.globals[g]?).map (·.type) = some t ∧ W.var? P n = some cs ∧ DataW.trod (fun _ => ()) P W 0 (fun _ => true) false fuel t cs.toList = some (d, p)
  | [], ps, h, hm => by cases hm
  | (m, e) :: r, ps, h, hm => by
    obtain ⟨g, t, cs, fuel, p, q, h1, h2, h3, h4, h5, _⟩ := h
    rcases List.mem_cons.1 hm with hm | hm
    · simp only [Prod.mk.injEq] at hm
      obtain ⟨rfl, rfl⟩ := hm
      exact ⟨g, t, cs, fuel, p, h1, h2, h3, h4⟩
    · exact laid_mem r q h5 hm
theorem laid_var {P : Program} {W : World} {l : List (String × DataW Unit)} (h : laidMet P l W) (n : String) (d : DataW Unit) (hm : (n, d) ∈ l) :
    ∃ g t cs fuel p, P.globalNamed n = some g ∧ (P.globals[g]?).map (·.type) = some t ∧ W.var? P n = some cs ∧ DataW.trod (fun _ => ()) P W 0 (fun _ => true) false fuel t cs.toList = some (d, p) := by
  obtain ⟨ps, hv, _⟩ := h
  exact laid_mem l ps hv hm

theorem laid_tab {W : World} {l : List (String × DataW Unit)} (h : laidMet Tryz.prog l W) (hm : ("coffeehouse/ins.operations", Rows.laid_coffeehouse_ins_operations) ∈ l) : Tab W := by
  obtain ⟨g, t, cs, fuel, p, h1, h2, h3, h4⟩ := laid_var h _ _ hm
  obtain rfl := Option.some.inj ((show Tryz.prog.globalNamed "coffeehouse/ins.operations" = some 0 by kernel_rfl).symm.trans h1)
  obtain rfl := Option.some.inj ((show (Tryz.prog.globals[0]?).map (·.type) = some 156 by kernel_rfl).symm.trans h2)
  have e : (Rows.laid_coffeehouse_ins_operations : DataW Unit) = .agg (opTab.map fun x => .agg [.lit (.string x.1), .lit (.int .u8 (x.2 : Int))]) := by rfl
  obtain ⟨xs, m, rfl, hx, hlen, hn, hel⟩ := DataW.trod_array Tryz.underlying156 h4
  rw [e] at hx
  simp only [Prod.mk.injEq, DataW.agg.injEq] at hx
  have c2 : Tryz.prog.cellsOf 155 = 2 := by kernel_rfl
  intro k hk
  have hk2 := hel k hk
  rw [c2] at hk2
  have hxk : (xs[k]?).map (·.1) = some (.agg [.lit (.string (opW k)), .lit (.int .u8 (opF k : Int))]) := by
    rw [← List.getElem?_map, ← hx.1, List.getElem?_map]
    have hk3 : opTab[k]? = some (opTab.getD k ([], 0)) := by
      rw [List.getD_eq_getElem?_getD, List.getElem?_eq_getElem (show k < opTab.length from hk)]; rfl
    rw [hk3]; rfl
  obtain ⟨x, hx1, hx2⟩ := Option.map_eq_some_iff.1 hxk
  rw [hx1] at hk2
  obtain ⟨y0, y1, n, hy, hlen2, hy0, hy1⟩ := trod_struct2 Tryz.underlying155 hk2
  subst hy
  simp only [DataW.agg.injEq, List.cons.injEq, and_true] at hx2
  obtain ⟨hx2, hx3⟩ := hx2
  rw [c2] at hlen2
  have hd : ∃ a b, List.take 2 (List.drop (k * 2) cs.toList) = [a, b] := by
    revert hlen2
    generalize List.take 2 (List.drop (k * 2) cs.toList) = z
    intro hlen2
    match z, hlen2 with
    | [a, b], _ => exact ⟨a, b, rfl⟩
  obtain ⟨a, b, hab⟩ := hd
  rw [hab] at hy0 hy1
  have cs1 : Tryz.prog.cellsOf 9 = 1 := by kernel_rfl
  have cs2 : Tryz.prog.cellsOf 153 = 1 := by kernel_rfl
  simp only [cs1, cs2, List.drop_zero, List.drop_succ_cons, List.take_succ_cons, List.take_zero] at hy0 hy1
  obtain ⟨s, hs1, hs2, _⟩ := DataW.trod_string Tryz.underlying9 hy0
  obtain ⟨z, hz1, hz2, _⟩ := DataW.trod_int Tryz.underlying153 hy1
  simp only [List.cons.injEq, and_true] at hs1 hz1
  subst hs1 hz1 hs2 hz2
  simp only [DataW.lit.injEq, Lit.string.injEq, Lit.int.injEq, true_and] at hx2 hx3
  have ha : cs[k * 2]? = some (.string s) := by
    have := congrArg (·[0]?) hab
    simpa [List.getElem?_take, List.getElem?_drop] using this
  have hb : cs[k * 2 + 1]? = some (.int .u8 z) := by
    have := congrArg (·[1]?) hab
    simpa [List.getElem?_take, List.getElem?_drop] using this
  have v := fun j => World.var?_cell h1 h3 j
  refine ⟨(v (k * 2)).trans (ha.trans ?_), (v (k * 2 + 1)).trans (hb.trans ?_)⟩
  · rw [bs_eq hx2]
  · rw [hx3]
end Go.Proofs.YtkolpbjpgobkcaaGreatDoor
namespace Go.Proofs.YtkolpbjpgobkcaaGreatDoor
open Go.ChangeShapes Go.WideShapes Go.ChangeAt Go.RowKit
set_option linter.unusedVariables false

section
variable {H : Type} {enc : TypeId × Value → H} {W : World}
def insL (x : InsD) : List Value := [.int .i64 x.op, .int .i64 x.a, .int .i64 x.b, .string (bs x.ty), .string (bs x.cl), .string (bs x.nm)]
def insT (x : InsD) : DataW H := .agg [.lit (.int .i64 x.op), .lit (.int .i64 x.a), .lit (.int .i64 x.b), .lit (.string x.ty), .lit (.string x.cl), .lit (.string x.nm)]
theorem wf_i64 {n : Int} (h : (Lit.int .i64 n).wf = true) : i64B n := by
  simpa [Lit.wf, IntKind.min, IntKind.max, IntKind.signed, IntKind.bits, i64B] using h
set_option maxRecDepth 100000 in
/-- A reading of an instruction's six cells. -/
theorem ins_of_trod {base : Nat} {sp : Nat → Bool} {held : Bool} {fuel : Nat} {cs : List Value} {d : DataW H} {p : List MemPlace} (h : DataW.trod enc Tryz.prog W base sp held fuel 67 cs = some (d, p)) :
    ∃ x : InsD, cs = insL x ∧ d = insT x ∧ p = [] ∧ x.wf ∧ x.ty.length ≤ maxLen ∧ x.cl.length ≤ maxLen ∧ x.nm.length ≤ maxLen := by
  obtain ⟨xs, m, _, hx, hl, hxl, hf⟩ := DataW.trod_struct Tryz.underlying67 h
  have c6 : Tryz.prog.cellsOf 67 = 6 := by kernel_rfl
  have ci : Tryz.prog.cellsOf 3 = 1 := by kernel_rfl
  have cs1 : Tryz.prog.cellsOf 9 = 1 := by kernel_rfl
  rw [c6] at hl
  match cs, hl with
  | [v0, v1, v2, v3, v4, v5], _ =>
    match xs, hxl with
    | [x0, x1, x2, x3, x4, x5], _ =>
      have h0 : DataW.trod enc Tryz.prog W base sp held m 3 (List.take (Tryz.prog.cellsOf 3) (List.drop 0 [v0, v1, v2, v3, v4, v5])) = some x0 := hf 0 _ rfl
      have h1 : DataW.trod enc Tryz.prog W base sp held m 3 (List.take (Tryz.prog.cellsOf 3) (List.drop 1 [v0, v1, v2, v3, v4, v5])) = some x1 := hf 1 _ rfl
      have h2 : DataW.trod enc Tryz.prog W base sp held m 3 (List.take (Tryz.prog.cellsOf 3) (List.drop 2 [v0, v1, v2, v3, v4, v5])) = some x2 := hf 2 _ rfl
      have h3 : DataW.trod enc Tryz.prog W base sp held m 9 (List.take (Tryz.prog.cellsOf 9) (List.drop 3 [v0, v1, v2, v3, v4, v5])) = some x3 := hf 3 _ rfl
      have h4 : DataW.trod enc Tryz.prog W base sp held m 9 (List.take (Tryz.prog.cellsOf 9) (List.drop 4 [v0, v1, v2, v3, v4, v5])) = some x4 := hf 4 _ rfl
      have h5 : DataW.trod enc Tryz.prog W base sp held m 9 (List.take (Tryz.prog.cellsOf 9) (List.drop 5 [v0, v1, v2, v3, v4, v5])) = some x5 := hf 5 _ rfl
      simp only [ci, cs1, List.drop_zero, List.drop_succ_cons, List.take_succ_cons, List.take_zero] at h0 h1 h2 h3 h4 h5
      obtain ⟨a0, e0, rfl, w0⟩ := DataW.trod_int Tryz.underlying3 h0
      obtain ⟨a1, e1, rfl, w1⟩ := DataW.trod_int Tryz.underlying3 h1
      obtain ⟨a2, e2, rfl, w2⟩ := DataW.trod_int Tryz.underlying3 h2
      obtain ⟨s3, e3, rfl, w3⟩ := DataW.trod_string Tryz.underlying9 h3
      obtain ⟨s4, e4, rfl, w4⟩ := DataW.trod_string Tryz.underlying9 h4
      obtain ⟨s5, e5, rfl, w5⟩ := DataW.trod_string Tryz.underlying9 h5
      simp only [List.cons.injEq, and_true] at e0 e1 e2 e3 e4 e5
      subst e0 e1 e2 e3 e4 e5
      simp only [Prod.mk.injEq] at hx
      exact ⟨⟨a0, a1, a2, s3.data.toList, s4.data.toList, s5.data.toList⟩, rfl, hx.1, hx.2, ⟨wf_i64 w0, wf_i64 w1, wf_i64 w2⟩, w3, w4, w5⟩
set_option maxRecDepth 100000 in
theorem arg_ins {r : Reach} {base : Nat} {v : Value} {d : DataW H} {ps : List MemPlace} (hval : Value.okWide Tryz.prog W r base 67 v) (h : DataW.Trod enc Tryz.prog W 0 (fun _ => true) true 67 v d ps) :
    ∃ x : InsD, v = insV x ∧ d = insT x ∧ ps = [] ∧ x.wf := by
  obtain ⟨cs, rfl, _⟩ := okWide_struct Tryz.underlying67 hval
  obtain ⟨fuel, hf⟩ := h
  obtain ⟨x, h1, h2, h3, h4, _⟩ := ins_of_trod hf
  refine ⟨x, ?_, h2, h3, h4⟩
  obtain ⟨l⟩ := cs
  exact congrArg (fun l : List Value => Value.agg l.toArray) (show l = insL x from h1)
set_option maxRecDepth 100000 in
theorem reach_ins {ts : List TypeId} {ds : List (DataW H)} (h : (DataW.weightsEach Tryz.prog ts ds).all (· ≤ reachBytes) = true) (j : Nat) {x : InsD} (ht : ts[j]? = some 67) (hd : ds[j]? = some (insT x)) :
    x.ty.length ≤ 140737488351232 ∧ x.cl.length ≤ 140737488351232 ∧ x.nm.length ≤ 140737488351232 := by
  have hw : DataW.weights Tryz.prog 67 (insT x : DataW H) = [x.ty.length, x.cl.length, x.nm.length] := by
    simp only [DataW.weights, insT, Tryz.underlying67]
    rfl
  have k := fun n hn => List.all_eq_true.1 h _ (DataW.weights_mem_each ht hd n hn)
  rw [hw] at k
  have k0 := k x.ty.length (by simp)
  have k1 := k x.cl.length (by simp)
  have k2 := k x.nm.length (by simp)
  exact ⟨of_decide_eq_true k0, of_decide_eq_true k1, of_decide_eq_true k2⟩
theorem upto_ins {l : List (DataW H)} (hk : Rows.uptoSmall H l = true) {x : InsD} (j : Nat) (hd : l[j]? = some (insT x)) : x.ty.length ≤ 1048576 ∧ x.cl.length ≤ 1048576 ∧ x.nm.length ≤ 1048576 := by
  have := upto_part hk hd
  simp only [insT, Rows.uptoBulk, Rows.uptoBulkAll] at this
  omega
end
end Go.Proofs.YtkolpbjpgobkcaaGreatDoor
namespace Go.Proofs.YtkolpbjpgobkcaaGreatDoor
open Go.ChangeShapes Go.WideShapes Go.ChangeAt Go.RowKit
set_option linter.unusedVariables false

section
variable {H : Type} {enc : TypeId × Value → H} {W : World}
instance : Inhabited InsD := ⟨zeroI⟩
theorem cells_take {w : World} {base : Nat} {p : Addr} {n : Nat} {cs : List Value} (h : w.cells? base p n = some cs) : ∀ k u, cs[k]? = some u → w.cell? (p.add k) = some u := by
  obtain ⟨h1, h2, h3⟩ := World.cells?_some h
  intro k u hu
  rw [h3 k (by have := (List.getElem?_eq_some_iff.1 hu).1; omega), hu]
/-- What an argument that is a list of instructions reads as. -/
def codeT (l : List InsD) (d : DataW H) : Prop := d = .nil ∧ l = [] ∨ ∃ sp, d = .slice (l.map insT) sp
set_option maxRecDepth 100000 in
theorem arg_code {r : Reach} {base : Nat} {v : Value} {d : DataW H} {ps : List MemPlace} (hval : Value.okWide Tryz.prog W r base 32 v) (h : DataW.Trod enc Tryz.prog W 0 (fun _ => true) true 32 v d ps) :
    ∃ A n c l, v = .slice A n c ∧ InsRow W A n c l ∧ (A = none → n = 0 ∧ c = 0) ∧ codeT l d ∧ (∀ x ∈ l, x.wf) ∧ n ≤ maxLen := by
  obtain ⟨a0, len, cap, rfl⟩ := okWide_slice Tryz.underlying32 hval
  obtain ⟨fuel, hf⟩ := h
  have c6 : Tryz.prog.cellsOf 67 = 6 := by kernel_rfl
  rcases Deep.open_slice Tryz.underlying32 hf with ⟨hcs, hx⟩ | ⟨a, len', cap', m, n, D, Pl, hcs, _, hl, hm, hmm, hx, hcell⟩
  · obtain ⟨rfl, rfl, rfl⟩ : a0 = none ∧ len = 0 ∧ cap = 0 := by simpa [Value.cells] using hcs
    exact ⟨none, 0, 0, [], rfl, InsRow.nil_ _ _ _, fun _ => ⟨rfl, rfl⟩, .inl ⟨congrArg Prod.fst hx, rfl⟩, fun x hx => (by cases hx), Nat.zero_le _⟩
  · obtain ⟨rfl, rfl, rfl⟩ : a0 = some a ∧ len = len' ∧ cap = cap' := by simpa [Value.cells] using hcs
    simp only [if_true] at hmm
    subst hmm
    rw [c6] at hcell
    obtain ⟨X, hX⟩ := Deep.choose_lt (α := InsD) (p := fun i x => W.cells? 0 (a.add (i * 6)) 6 = some (insL x) ∧ D i = insT x ∧ x.wf) (fun i hi => by
      obtain ⟨cs', h1, h2⟩ := hcell i hi
      obtain ⟨x, hx1, hx2, hx3, hx4, _⟩ := ins_of_trod h2
      exact ⟨x, by rw [h1, hx1], hx2, hx4⟩)
    have hml : ∀ x ∈ (List.range len).map X, x.wf := fun x hx => by
      obtain ⟨i, hi, rfl⟩ := List.mem_map.1 hx
      exact (hX i (by have := List.mem_range.1 hi; omega)).2.2
    refine ⟨some a, len, m, (List.range len).map X, rfl, ⟨by simp, hl, fun h0 => ?_⟩, fun h => by (cases h), .inr ?_, hml, by omega⟩
    · have hc0 := (cells_take (hX 0 (by omega)).1) 0 _ rfl
      obtain ⟨b, o, spot⟩ := a
      obtain rfl : spot = none := by simpa [Addr.add] using World.cell?_spot hc0
      refine ⟨b, o, rfl, block_of_cell hc0, fun j x hx => insAt_of _ _ _ fun k u hu => ?_⟩
      have hj : j < len := by
        have := (List.getElem?_eq_some_iff.1 hx).1
        simpa using this
      have hxj : X j = x := by
        rw [List.getElem?_map, List.getElem?_range hj] at hx
        exact Option.some.inj hx
      subst hxj
      have := cells_take (hX j (by omega)).1 k u hu
      rw [add_spotless, add_spotless] at this
      exact this
    · have hd := congrArg Prod.fst hx
      simp only at hd
      refine ⟨(List.range (m - len)).map fun j => D (len + j), ?_⟩
      rw [hd]
      congr 1
      rw [List.map_map]
      exact List.map_congr_left fun i hi => (hX i (by have := List.mem_range.1 hi; omega)).2.1
theorem weights_all {x : InsD} : ∀ {l : List InsD}, x ∈ l → ∀ n ∈ DataW.weights Tryz.prog 67 (insT x : DataW H), n ∈ DataW.weightsAll Tryz.prog 67 (l.map insT : List (DataW H))
  | [], h, n, hn => by cases h
  | y :: r, h, n, hn => by
    simp only [List.map_cons, DataW.weightsAll, List.mem_append]
    rcases List.mem_cons.1 h with rfl | h
    · exact .inl hn
    · exact .inr (weights_all h n hn)
set_option maxRecDepth 100000 in
theorem reach_code {ts : List TypeId} {ds : List (DataW H)} {d : DataW H} (h : (DataW.weightsEach Tryz.prog ts ds).all (· ≤ reachBytes) = true) (j : Nat) {l : List InsD} (ht : ts[j]? = some 32) (hd : ds[j]? = some d) (hc : codeT l d) :
    ∀ x ∈ l, x.fits := by
  rcases hc with ⟨_, rfl⟩ | ⟨sp, rfl⟩
  · intro x hx; cases hx
  intro x hx
  have hw : DataW.weights Tryz.prog 67 (insT x : DataW H) = [x.ty.length, x.cl.length, x.nm.length] := by
    simp only [DataW.weights, insT, Tryz.underlying67]
    rfl
  have k : ∀ n ∈ [x.ty.length, x.cl.length, x.nm.length], n ≤ 140737488351232 := fun n hn => by
    rw [← hw] at hn
    have := List.all_eq_true.1 h n (DataW.weights_mem_each ht hd n (by
      simp only [DataW.weights, Tryz.underlying32, List.mem_cons, List.mem_append]
      exact .inr (.inl (weights_all hx n hn))))
    exact Nat.le_trans (of_decide_eq_true this) (by decide)
  exact ⟨k _ (by simp), k _ (by simp), k _ (by simp)⟩
set_option maxRecDepth 100000 in
theorem reach_count {ts : List TypeId} {ds : List (DataW H)} {d : DataW H} (h : (DataW.weightsEach Tryz.prog ts ds).all (· ≤ reachBytes) = true) (j : Nat) {l : List InsD} (ht : ts[j]? = some 32) (hd : ds[j]? = some d) (hc : codeT l d) :
    l.length * 72 ≤ 140737488351232 := by
  rcases hc with ⟨_, rfl⟩ | ⟨sp, rfl⟩
  · exact Nat.zero_le _
  have := sized_slice h ht hd Tryz.underlying32
  have hb : Tryz.prog.bytesOf 67 = 72 := by kernel_rfl
  rw [hb, List.length_map] at this
  unfold reachBytes at this
  omega
theorem bulk_code (H : Type) {x : InsD} : ∀ {l : List InsD}, x ∈ l → Rows.uptoBulk (insT x : DataW H) ≤ Rows.uptoBulkAll (l.map insT : List (DataW H))
  | [], h => by cases h
  | y :: r, h => by
    simp only [List.map_cons, Rows.uptoBulkAll]
    rcases List.mem_cons.1 h with rfl | h
    · omega
    · have := bulk_code H h; omega
theorem bulk_count (H : Type) (l : List InsD) : l.length ≤ Rows.uptoBulkAll (l.map insT : List (DataW H)) := by
  induction l with
  | nil => exact Nat.zero_le _
  | cons y r ih =>
    simp only [List.map_cons, Rows.uptoBulkAll, List.length_cons]
    have : 1 ≤ Rows.uptoBulk (insT y : DataW H) := by simp only [insT, Rows.uptoBulk]; omega
    omega
theorem upto_code {ds : List (DataW H)} {d : DataW H} (hk : Rows.uptoSmall H ds = true) (j : Nat) {l : List InsD} (hd : ds[j]? = some d) (hc : codeT l d) : l.length ≤ 1048576 ∧ ∀ x ∈ l, x.ty.length ≤ 1048576 ∧ x.cl.length ≤ 1048576 ∧ x.nm.length ≤ 1048576 := by
  have hp := upto_part hk hd
  rcases hc with ⟨_, rfl⟩ | ⟨sp, rfl⟩
  · exact ⟨Nat.zero_le _, fun x hx => by cases hx⟩
  simp only [Rows.uptoBulk] at hp
  refine ⟨Nat.le_trans (bulk_count H l) (by omega), fun x hx => ?_⟩
  have := bulk_code H hx
  simp only [insT, Rows.uptoBulk, Rows.uptoBulkAll] at this
  omega
end
end Go.Proofs.YtkolpbjpgobkcaaGreatDoor
namespace Go.Proofs.YtkolpbjpgobkcaaGreatDoor
open Go.ChangeShapes Go.WideShapes Go.ChangeAt Go.RowKit
set_option linter.unusedVariables false

section
variable {H : Type} {enc : TypeId × Value → H} {W : World}
def strRel (x : List UInt8) (d : DataW H) : Prop := d = .lit (.string x)
def insRel (x : InsD) (d : DataW H) : Prop := d = insT x
def fieldRel (x : FieldD) (d : DataW H) : Prop := d = .agg [.lit (.string x.nm), .lit (.string x.ty)]
def handRel (x : HandD) (d : DataW H) : Prop := d = .agg [.lit (.int .i64 x.fr), .lit (.int .i64 x.tu), .lit (.int .i64 x.pos), .lit (.string x.cl)]
def methRel (m : MethD) (d : DataW H) : Prop := ∃ dc dh, d = .agg [.lit (.string m.nm), .lit (.string m.ty), .lit (.bool m.st), .lit (.bool m.ab), .lit (.bool m.pr), .lit (.int .i64 m.lo), dc, dh] ∧ relL insRel m.code dc ∧ relL handRel m.hs dh
def classRel (c : ClassD) (d : DataW H) : Prop := ∃ df dd dm, d = .agg [.lit (.string c.nm), .lit (.string c.su), df, .lit (.bool c.face), dd, dm] ∧ relL strRel c.faces df ∧ relL fieldRel c.fields dd ∧ relL methRel c.meths dm

section
variable {base : Nat} {sp : Nat → Bool} {held : Bool} {fuel : Nat} {cs : List Value} {d : DataW H} {p : List MemPlace} {b o : Nat}
theorem str_of (hc : ∀ i u, cs[i]? = some u → W.cell? ⟨b, o + i, none⟩ = some u) (h : DataW.trod enc Tryz.prog W base sp held fuel 9 cs = some (d, p)) : ∃ x : List UInt8, StrAt W b o x ∧ strRel x d ∧ True := by
  obtain ⟨s, rfl, hx, _⟩ := DataW.trod_string Tryz.underlying9 h
  exact ⟨s.data.toList, hc 0 _ rfl, congrArg Prod.fst hx, trivial⟩
theorem ins_of (hc : ∀ i u, cs[i]? = some u → W.cell? ⟨b, o + i, none⟩ = some u) (h : DataW.trod enc Tryz.prog W base sp held fuel 67 cs = some (d, p)) : ∃ x : InsD, InsAt W b o x ∧ insRel x d ∧ x.wf := by
  obtain ⟨x, rfl, h2, _, h4, _⟩ := ins_of_trod h
  exact ⟨x, insAt_of b o x hc, h2, h4⟩
set_option maxRecDepth 100000 in
theorem field_of (hc : ∀ i u, cs[i]? = some u → W.cell? ⟨b, o + i, none⟩ = some u) (h : DataW.trod enc Tryz.prog W base sp held fuel 27 cs = some (d, p)) : ∃ x : FieldD, FieldAt W b o x ∧ fieldRel x d ∧ True := by
  obtain ⟨xs, m, _, hx, hl, hxl, hf⟩ := DataW.trod_struct Tryz.underlying27 h
  rw [show Tryz.prog.cellsOf 27 = 2 by kernel_rfl] at hl
  have cs1 : Tryz.prog.cellsOf 9 = 1 := by kernel_rfl
  match cs, hl with
  | [v0, v1], _ =>
    match xs, hxl with
    | [x0, x1], _ =>
      have h0 : DataW.trod enc Tryz.prog W base sp held m 9 (List.take (Tryz.prog.cellsOf 9) (List.drop 0 [v0, v1])) = some x0 := hf 0 _ rfl
      have h1 : DataW.trod enc Tryz.prog W base sp held m 9 (List.take (Tryz.prog.cellsOf 9) (List.drop 1 [v0, v1])) = some x1 := hf 1 _ rfl
      simp only [cs1, List.drop_zero, List.drop_succ_cons, List.take_succ_cons, List.take_zero] at h0 h1
      obtain ⟨s0, e0, rfl, _⟩ := DataW.trod_string Tryz.underlying9 h0
      obtain ⟨s1, e1, rfl, _⟩ := DataW.trod_string Tryz.underlying9 h1
      simp only [List.cons.injEq, and_true] at e0 e1
      subst e0 e1
      exact ⟨⟨s0.data.toList, s1.data.toList⟩, ⟨hc 0 _ rfl, hc 1 _ rfl⟩, congrArg Prod.fst hx, trivial⟩
set_option maxRecDepth 100000 in
theorem hand_of (hc : ∀ i u, cs[i]? = some u → W.cell? ⟨b, o + i, none⟩ = some u) (h : DataW.trod enc Tryz.prog W base sp held fuel 81 cs = some (d, p)) : ∃ x : HandD, HandAt W b o x ∧ handRel x d ∧ x.wf := by
  obtain ⟨xs, m, _, hx, hl, hxl, hf⟩ := DataW.trod_struct Tryz.underlying81 h
  rw [show Tryz.prog.cellsOf 81 = 4 by kernel_rfl] at hl
  have cs1 : Tryz.prog.cellsOf 9 = 1 := by kernel_rfl
  have ci : Tryz.prog.cellsOf 3 = 1 := by kernel_rfl
  match cs, hl with
  | [v0, v1, v2, v3], _ =>
    match xs, hxl with
    | [x0, x1, x2, x3], _ =>
      have h0 : DataW.trod enc Tryz.prog W base sp held m 3 (List.take (Tryz.prog.cellsOf 3) (List.drop 0 [v0, v1, v2, v3])) = some x0 := hf 0 _ rfl
      have h1 : DataW.trod enc Tryz.prog W base sp held m 3 (List.take (Tryz.prog.cellsOf 3) (List.drop 1 [v0, v1, v2, v3])) = some x1 := hf 1 _ rfl
      have h2 : DataW.trod enc Tryz.prog W base sp held m 3 (List.take (Tryz.prog.cellsOf 3) (List.drop 2 [v0, v1, v2, v3])) = some x2 := hf 2 _ rfl
      have h3 : DataW.trod enc Tryz.prog W base sp held m 9 (List.take (Tryz.prog.cellsOf 9) (List.drop 3 [v0, v1, v2, v3])) = some x3 := hf 3 _ rfl
      simp only [cs1, ci, List.drop_zero, List.drop_succ_cons, List.take_succ_cons, List.take_zero] at h0 h1 h2 h3
      obtain ⟨a0, e0, rfl, w0⟩ := DataW.trod_int Tryz.underlying3 h0
      obtain ⟨a1, e1, rfl, w1⟩ := DataW.trod_int Tryz.underlying3 h1
      obtain ⟨a2, e2, rfl, w2⟩ := DataW.trod_int Tryz.underlying3 h2
      obtain ⟨s3, e3, rfl, _⟩ := DataW.trod_string Tryz.underlying9 h3
      simp only [List.cons.injEq, and_true] at e0 e1 e2 e3
      subst e0 e1 e2 e3
      exact ⟨⟨a0, a1, a2, s3.data.toList⟩, ⟨hc 0 _ rfl, hc 1 _ rfl, hc 2 _ rfl, hc 3 _ rfl⟩, congrArg Prod.fst hx, ⟨wf_i64 w0, wf_i64 w1, wf_i64 w2⟩⟩
theorem codes_of {fuel : Nat} {cs : List Value} {d : DataW H} {p : List MemPlace} (h : DataW.trod enc Tryz.prog W base sp held fuel 32 cs = some (d, p)) :
    ∃ A n c l, cs = [.slice A n c] ∧ InsRow W A n c l ∧ (A = none → n = 0 ∧ c = 0) ∧ relL insRel l d ∧ (∀ x ∈ l, x.wf) ∧ c ≤ maxLen :=
  open_rows Tryz.underlying32 (show Tryz.prog.cellsOf 67 = 6 by kernel_rfl) (by decide) InsAt insRel InsD.wf (fun _ _ _ _ _ _ hc h => ins_of hc h) h
theorem hands_of {fuel : Nat} {cs : List Value} {d : DataW H} {p : List MemPlace} (h : DataW.trod enc Tryz.prog W base sp held fuel 33 cs = some (d, p)) :
    ∃ A n c l, cs = [.slice A n c] ∧ HandRow W A n c l ∧ (A = none → n = 0 ∧ c = 0) ∧ relL handRel l d ∧ (∀ x ∈ l, x.wf) ∧ c ≤ maxLen :=
  open_rows Tryz.underlying33 (show Tryz.prog.cellsOf 81 = 4 by kernel_rfl) (by decide) HandAt handRel HandD.wf (fun _ _ _ _ _ _ hc h => hand_of hc h) h
theorem strs_of {fuel : Nat} {cs : List Value} {d : DataW H} {p : List MemPlace} (h : DataW.trod enc Tryz.prog W base sp held fuel 47 cs = some (d, p)) :
    ∃ A n c l, cs = [.slice A n c] ∧ StrRow W A n c l ∧ (A = none → n = 0 ∧ c = 0) ∧ relL strRel l d ∧ (∀ x ∈ l, True) ∧ c ≤ maxLen :=
  open_rows Tryz.underlying47 (show Tryz.prog.cellsOf 9 = 1 by kernel_rfl) (by decide) StrAt strRel (fun _ => True) (fun _ _ _ _ _ _ hc h => str_of hc h) h
theorem fields_of {fuel : Nat} {cs : List Value} {d : DataW H} {p : List MemPlace} (h : DataW.trod enc Tryz.prog W base sp held fuel 48 cs = some (d, p)) :
    ∃ A n c l, cs = [.slice A n c] ∧ FieldRow W A n c l ∧ (A = none → n = 0 ∧ c = 0) ∧ relL fieldRel l d ∧ (∀ x ∈ l, True) ∧ c ≤ maxLen :=
  open_rows Tryz.underlying48 (show Tryz.prog.cellsOf 27 = 2 by kernel_rfl) (by decide) FieldAt fieldRel (fun _ => True) (fun _ _ _ _ _ _ hc h => field_of hc h) h
set_option maxRecDepth 100000 in
theorem meth_of (hc : ∀ i u, cs[i]? = some u → W.cell? ⟨b, o + i, none⟩ = some u) (h : DataW.trod enc Tryz.prog W base sp held fuel 35 cs = some (d, p)) : ∃ x : MethD, MethAt W b o x ∧ methRel x d ∧ x.wf := by
  obtain ⟨xs, m, _, hx, hl, hxl, hf⟩ := DataW.trod_struct Tryz.underlying35 h
  rw [show Tryz.prog.cellsOf 35 = 8 by kernel_rfl] at hl
  have cs1 : Tryz.prog.cellsOf 9 = 1 := by kernel_rfl
  have ci : Tryz.prog.cellsOf 3 = 1 := by kernel_rfl
  have cb : Tryz.prog.cellsOf 4 = 1 := by kernel_rfl
  have cc : Tryz.prog.cellsOf 32 = 1 := by kernel_rfl
  have ch : Tryz.prog.cellsOf 33 = 1 := by kernel_rfl
  match cs, hl with
  | [v0, v1, v2, v3, v4, v5, v6, v7], _ =>
    match xs, hxl with
    | [x0, x1, x2, x3, x4, x5, x6, x7], _ =>
      have h0 : DataW.trod enc Tryz.prog W base sp held m 9 (List.take (Tryz.prog.cellsOf 9) (List.drop 0 [v0, v1, v2, v3, v4, v5, v6, v7])) = some x0 := hf 0 _ rfl
      have h1 : DataW.trod enc Tryz.prog W base sp held m 9 (List.take (Tryz.prog.cellsOf 9) (List.drop 1 [v0, v1, v2, v3, v4, v5, v6, v7])) = some x1 := hf 1 _ rfl
      have h2 : DataW.trod enc Tryz.prog W base sp held m 4 (List.take (Tryz.prog.cellsOf 4) (List.drop 2 [v0, v1, v2, v3, v4, v5, v6, v7])) = some x2 := hf 2 _ rfl
      have h3 : DataW.trod enc Tryz.prog W base sp held m 4 (List.take (Tryz.prog.cellsOf 4) (List.drop 3 [v0, v1, v2, v3, v4, v5, v6, v7])) = some x3 := hf 3 _ rfl
      have h4 : DataW.trod enc Tryz.prog W base sp held m 4 (List.take (Tryz.prog.cellsOf 4) (List.drop 4 [v0, v1, v2, v3, v4, v5, v6, v7])) = some x4 := hf 4 _ rfl
      have h5 : DataW.trod enc Tryz.prog W base sp held m 3 (List.take (Tryz.prog.cellsOf 3) (List.drop 5 [v0, v1, v2, v3, v4, v5, v6, v7])) = some x5 := hf 5 _ rfl
      have h6 : DataW.trod enc Tryz.prog W base sp held m 32 (List.take (Tryz.prog.cellsOf 32) (List.drop 6 [v0, v1, v2, v3, v4, v5, v6, v7])) = some x6 := hf 6 _ rfl
      have h7 : DataW.trod enc Tryz.prog W base sp held m 33 (List.take (Tryz.prog.cellsOf 33) (List.drop 7 [v0, v1, v2, v3, v4, v5, v6, v7])) = some x7 := hf 7 _ rfl
      simp only [cs1, ci, cb, cc, ch, List.drop_zero, List.drop_succ_cons, List.take_succ_cons, List.take_zero] at h0 h1 h2 h3 h4 h5 h6 h7
      obtain ⟨s0, e0, rfl, _⟩ := DataW.trod_string Tryz.underlying9 h0
      obtain ⟨s1, e1, rfl, _⟩ := DataW.trod_string Tryz.underlying9 h1
      obtain ⟨b2, e2, rfl⟩ := DataW.trod_bool Tryz.underlying4 h2
      obtain ⟨b3, e3, rfl⟩ := DataW.trod_bool Tryz.underlying4 h3
      obtain ⟨b4, e4, rfl⟩ := DataW.trod_bool Tryz.underlying4 h4
      obtain ⟨a5, e5, rfl, w5⟩ := DataW.trod_int Tryz.underlying3 h5
      obtain ⟨d6, p6⟩ := x6
      obtain ⟨d7, p7⟩ := x7
      obtain ⟨A6, n6, c6, l6, e6, r6, k6, q6, w6, _⟩ := codes_of h6
      obtain ⟨A7, n7, c7, l7, e7, r7, k7, q7, w7, _⟩ := hands_of h7
      simp only [List.cons.injEq, and_true] at e0 e1 e2 e3 e4 e5 e6 e7
      subst e0 e1 e2 e3 e4 e5 e6 e7
      exact ⟨⟨s0.data.toList, s1.data.toList, b2, b3, b4, a5, l6, l7⟩, ⟨hc 0 _ rfl, hc 1 _ rfl, hc 2 _ rfl, hc 3 _ rfl, hc 4 _ rfl, hc 5 _ rfl, ⟨A6, n6, c6, hc 6 _ rfl, r6, k6⟩, ⟨A7, n7, c7, hc 7 _ rfl, r7, k7⟩⟩,
        ⟨d6, d7, congrArg Prod.fst hx, q6, q7⟩, ⟨wf_i64 w5, w6, w7⟩⟩
theorem meths_of {fuel : Nat} {cs : List Value} {d : DataW H} {p : List MemPlace} (h : DataW.trod enc Tryz.prog W base sp held fuel 49 cs = some (d, p)) :
    ∃ A n c l, cs = [.slice A n c] ∧ MethRow W A n c l ∧ (A = none → n = 0 ∧ c = 0) ∧ relL methRel l d ∧ (∀ x ∈ l, x.wf) ∧ c ≤ maxLen :=
  open_rows Tryz.underlying49 (show Tryz.prog.cellsOf 35 = 8 by kernel_rfl) (by decide) MethAt methRel MethD.wf (fun _ _ _ _ _ _ hc h => meth_of hc h) h
set_option maxRecDepth 100000 in
/-- A class's six cells, read. -/
theorem class_parts (h : DataW.trod enc Tryz.prog W base sp held fuel 51 cs = some (d, p)) :
    ∃ (c : ClassD) (A B C : Option Addr) (i j k l m n : Nat), cs = [.string (bs c.nm), .string (bs c.su), .slice A i j, .bool c.face, .slice B k l, .slice C m n] ∧ StrRow W A i j c.faces ∧ FieldRow W B k l c.fields ∧ MethRow W C m n c.meths ∧
      (A = none → i = 0 ∧ j = 0) ∧ (B = none → k = 0 ∧ l = 0) ∧ (C = none → m = 0 ∧ n = 0) ∧ classRel c d ∧ c.wf := by
  obtain ⟨xs, m, _, hx, hl, hxl, hf⟩ := DataW.trod_struct Tryz.underlying51 h
  rw [show Tryz.prog.cellsOf 51 = 6 by kernel_rfl] at hl
  have cs1 : Tryz.prog.cellsOf 9 = 1 := by kernel_rfl
  have cb : Tryz.prog.cellsOf 4 = 1 := by kernel_rfl
  have c2 : Tryz.prog.cellsOf 47 = 1 := by kernel_rfl
  have c4 : Tryz.prog.cellsOf 48 = 1 := by kernel_rfl
  have c5 : Tryz.prog.cellsOf 49 = 1 := by kernel_rfl
  match cs, hl with
  | [v0, v1, v2, v3, v4, v5], _ =>
    match xs, hxl with
    | [x0, x1, x2, x3, x4, x5], _ =>
      have h0 : DataW.trod enc Tryz.prog W base sp held m 9 (List.take (Tryz.prog.cellsOf 9) (List.drop 0 [v0, v1, v2, v3, v4, v5])) = some x0 := hf 0 _ rfl
      have h1 : DataW.trod enc Tryz.prog W base sp held m 9 (List.take (Tryz.prog.cellsOf 9) (List.drop 1 [v0, v1, v2, v3, v4, v5])) = some x1 := hf 1 _ rfl
      have h2 : DataW.trod enc Tryz.prog W base sp held m 47 (List.take (Tryz.prog.cellsOf 47) (List.drop 2 [v0, v1, v2, v3, v4, v5])) = some x2 := hf 2 _ rfl
      have h3 : DataW.trod enc Tryz.prog W base sp held m 4 (List.take (Tryz.prog.cellsOf 4) (List.drop 3 [v0, v1, v2, v3, v4, v5])) = some x3 := hf 3 _ rfl
      have h4 : DataW.trod enc Tryz.prog W base sp held m 48 (List.take (Tryz.prog.cellsOf 48) (List.drop 4 [v0, v1, v2, v3, v4, v5])) = some x4 := hf 4 _ rfl
      have h5 : DataW.trod enc Tryz.prog W base sp held m 49 (List.take (Tryz.prog.cellsOf 49) (List.drop 5 [v0, v1, v2, v3, v4, v5])) = some x5 := hf 5 _ rfl
      simp only [cs1, cb, c2, c4, c5, List.drop_zero, List.drop_succ_cons, List.take_succ_cons, List.take_zero] at h0 h1 h2 h3 h4 h5
      obtain ⟨s0, e0, rfl, _⟩ := DataW.trod_string Tryz.underlying9 h0
      obtain ⟨s1, e1, rfl, _⟩ := DataW.trod_string Tryz.underlying9 h1
      obtain ⟨b3, e3, rfl⟩ := DataW.trod_bool Tryz.underlying4 h3
      obtain ⟨d2, p2⟩ := x2
      obtain ⟨d4, p4⟩ := x4
      obtain ⟨d5, p5⟩ := x5
      obtain ⟨A2, n2, m2, l2, e2, r2, k2, q2, _, _⟩ := strs_of h2
      obtain ⟨A4, n4, m4, l4, e4, r4, k4, q4, _, _⟩ := fields_of h4
      obtain ⟨A5, n5, m5, l5, e5, r5, k5, q5, w5, _⟩ := meths_of h5
      simp only [List.cons.injEq, and_true] at e0 e1 e2 e3 e4 e5
      subst e0 e1 e2 e3 e4 e5
      exact ⟨⟨s0.data.toList, s1.data.toList, l2, b3, l4, l5⟩, A2, A4, A5, n2, m2, n4, m4, n5, m5, rfl, r2, r4, r5, k2, k4, k5, ⟨d2, d4, d5, congrArg Prod.fst hx, q2, q4, q5⟩, w5⟩
theorem class_of (hc : ∀ i u, cs[i]? = some u → W.cell? ⟨b, o + i, none⟩ = some u) (h : DataW.trod enc Tryz.prog W base sp held fuel 51 cs = some (d, p)) : ∃ x : ClassD, ClassAt W b o x ∧ classRel x d ∧ x.wf := by
  obtain ⟨c, A, B, C, i, j, k, l, m, n, rfl, r1, r2, r3, k1, k2, k3, hr, hw⟩ := class_parts h
  exact ⟨c, ⟨hc 0 _ rfl, hc 1 _ rfl, ⟨A, i, j, hc 2 _ rfl, r1, k1⟩, hc 3 _ rfl, ⟨B, k, l, hc 4 _ rfl, r2, k2⟩, ⟨C, m, n, hc 5 _ rfl, r3, k3⟩⟩, hr, hw⟩
end
set_option maxRecDepth 100000 in
theorem arg_class {r : Reach} {base : Nat} {v : Value} {d : DataW H} {ps : List MemPlace} (hval : Value.okWide Tryz.prog W r base 51 v) (h : DataW.Trod enc Tryz.prog W 0 (fun _ => true) true 51 v d ps) :
    ∃ (c : ClassD) (A B C : Option Addr) (i j k l m n : Nat), v = classV c A i j B k l C m n ∧ StrRow W A i j c.faces ∧ FieldRow W B k l c.fields ∧ MethRow W C m n c.meths ∧
      (A = none → i = 0 ∧ j = 0) ∧ (B = none → k = 0 ∧ l = 0) ∧ (C = none → m = 0 ∧ n = 0) ∧ classRel c d ∧ c.wf := by
  obtain ⟨cs, rfl, _⟩ := okWide_struct Tryz.underlying51 hval
  obtain ⟨fuel, hf⟩ := h
  obtain ⟨c, A, B, C, i, j, k, l, m, n, h1, rest⟩ := class_parts hf
  refine ⟨c, A, B, C, i, j, k, l, m, n, ?_, rest⟩
  obtain ⟨x⟩ := cs
  exact congrArg (fun l : List Value => Value.agg l.toArray) (show x = _ from h1)

/-! The sizes that the statement grants. -/
section
variable {R : Nat}
theorem sizes_lit {t : TypeId} {s : List UInt8} (h : ∀ n ∈ DataW.weights Tryz.prog t (.lit (.string s) : DataW H), n ≤ R) : s.length ≤ R := by
  simp only [DataW.weights, List.mem_singleton] at h
  exact h _ rfl
theorem sizes_ins {x : InsD} {d : DataW H} (hr : insRel x d) (h : ∀ n ∈ DataW.weights Tryz.prog 67 d, n ≤ R) : x.upto R := by
  subst hr
  have hw : DataW.weights Tryz.prog 67 (insT x : DataW H) = [x.ty.length, x.cl.length, x.nm.length] := by
    simp only [DataW.weights, insT, Tryz.underlying67]
    rfl
  rw [hw] at h
  exact ⟨h _ (by simp), h _ (by simp), h _ (by simp)⟩
theorem sizes_field {x : FieldD} {d : DataW H} (hr : fieldRel x d) (h : ∀ n ∈ DataW.weights Tryz.prog 27 d, n ≤ R) : x.upto R := by
  subst hr
  have hw : DataW.weights Tryz.prog 27 (.agg [.lit (.string x.nm), .lit (.string x.ty)] : DataW H) = [x.nm.length, x.ty.length] := by
    simp only [DataW.weights, Tryz.underlying27]
    rfl
  rw [hw] at h
  exact ⟨h _ (by simp), h _ (by simp)⟩
theorem sizes_hand {x : HandD} {d : DataW H} (hr : handRel x d) (h : ∀ n ∈ DataW.weights Tryz.prog 81 d, n ≤ R) : x.upto R := by
  subst hr
  have hw : DataW.weights Tryz.prog 81 (.agg [.lit (.int .i64 x.fr), .lit (.int .i64 x.tu), .lit (.int .i64 x.pos), .lit (.string x.cl)] : DataW H) = [x.cl.length] := by
    simp only [DataW.weights, Tryz.underlying81]
    rfl
  rw [hw] at h
  exact h _ (by simp)
theorem count_le {k b : Nat} (h : k * b ≤ R) (hb : 0 < b) : k ≤ R := Nat.le_trans (Nat.le_mul_of_pos_right _ hb) h
theorem sizes_meth {x : MethD} {d : DataW H} (hr : methRel x d) (h : ∀ n ∈ DataW.weights Tryz.prog 35 d, n ≤ R) : x.upto R := by
  obtain ⟨dc, dh, rfl, hc, hh⟩ := hr
  have hw : DataW.weights Tryz.prog 35 (.agg [.lit (.string x.nm), .lit (.string x.ty), .lit (.bool x.st), .lit (.bool x.ab), .lit (.bool x.pr), .lit (.int .i64 x.lo), dc, dh] : DataW H) =
      x.nm.length :: x.ty.length :: (DataW.weights Tryz.prog 32 dc ++ (DataW.weights Tryz.prog 33 dh ++ [])) := by
    simp only [DataW.weights, Tryz.underlying35]
    rfl
  rw [hw] at h
  simp only [List.append_nil, List.mem_cons, List.mem_append] at h
  obtain ⟨c1, c2⟩ := sizes_rows Tryz.underlying32 (fun n hn => h n (.inr (.inr (.inl hn)))) hc (Q := fun x => x.upto R) (fun x d' h1 h2 => sizes_ins h1 h2)
  obtain ⟨g1, g2⟩ := sizes_rows Tryz.underlying33 (fun n hn => h n (.inr (.inr (.inr hn)))) hh (Q := fun x => x.upto R) (fun x d' h1 h2 => sizes_hand h1 h2)
  exact ⟨h _ (.inl rfl), h _ (.inr (.inl rfl)), ⟨c1, count_le c2 (by rw [show Tryz.prog.bytesOf 67 = 72 by kernel_rfl]; decide)⟩, g1, count_le g2 (by rw [show Tryz.prog.bytesOf 81 = 40 by kernel_rfl]; decide)⟩
theorem sizes_class {x : ClassD} {d : DataW H} (hr : classRel x d) (h : ∀ n ∈ DataW.weights Tryz.prog 51 d, n ≤ R) : x.upto R := by
  obtain ⟨df, dd, dm, rfl, hf, hd, hm⟩ := hr
  have hw : DataW.weights Tryz.prog 51 (.agg [.lit (.string x.nm), .lit (.string x.su), df, .lit (.bool x.face), dd, dm] : DataW H) =
      x.nm.length :: x.su.length :: (DataW.weights Tryz.prog 47 df ++ (DataW.weights Tryz.prog 48 dd ++ (DataW.weights Tryz.prog 49 dm ++ []))) := by
    simp only [DataW.weights, Tryz.underlying51]
    rfl
  rw [hw] at h
  simp only [List.append_nil, List.mem_cons, List.mem_append] at h
  obtain ⟨c1, c2⟩ := sizes_rows Tryz.underlying47 (fun n hn => h n (.inr (.inr (.inl hn)))) hf (Q := fun x => x.length ≤ R) (fun x d' h1 h2 => by subst h1; exact sizes_lit h2)
  obtain ⟨g1, g2⟩ := sizes_rows Tryz.underlying48 (fun n hn => h n (.inr (.inr (.inr (.inl hn))))) hd (Q := fun x => x.upto R) (fun x d' h1 h2 => sizes_field h1 h2)
  obtain ⟨m1, m2⟩ := sizes_rows Tryz.underlying49 (fun n hn => h n (.inr (.inr (.inr (.inr hn))))) hm (Q := fun x => x.upto R) (fun x d' h1 h2 => sizes_meth h1 h2)
  exact ⟨h _ (.inl rfl), h _ (.inr (.inl rfl)), ⟨c1, count_le c2 (by rw [show Tryz.prog.bytesOf 9 = 16 by kernel_rfl]; decide)⟩, ⟨g1, count_le g2 (by rw [show Tryz.prog.bytesOf 27 = 32 by kernel_rfl]; decide)⟩, m1, count_le m2 (by rw [show Tryz.prog.bytesOf 35 = 96 by kernel_rfl]; decide)⟩
theorem reach_class {ts : List TypeId} {ds : List (DataW H)} {d : DataW H} (h : (DataW.weightsEach Tryz.prog ts ds).all (· ≤ reachBytes) = true) (j : Nat) {c : ClassD} (ht : ts[j]? = some 51) (hd : ds[j]? = some d) (hc : classRel c d) : c.upto 140737488351232 :=
  sizes_class hc fun n hn => Nat.le_trans (of_decide_eq_true (List.all_eq_true.1 h n (DataW.weights_mem_each ht hd n hn))) (by decide)
theorem bulk_ins {x : InsD} {d : DataW H} (hr : insRel x d) (h : Rows.uptoBulk d ≤ R) : x.upto R := by
  subst hr
  simp only [insT, Rows.uptoBulk, Rows.uptoBulkAll] at h
  exact ⟨by omega, by omega, by omega⟩
theorem bulk_field {x : FieldD} {d : DataW H} (hr : fieldRel x d) (h : Rows.uptoBulk d ≤ R) : x.upto R := by
  subst hr
  simp only [Rows.uptoBulk, Rows.uptoBulkAll] at h
  exact ⟨by omega, by omega⟩
theorem bulk_hand {x : HandD} {d : DataW H} (hr : handRel x d) (h : Rows.uptoBulk d ≤ R) : x.upto R := by
  subst hr
  simp only [Rows.uptoBulk, Rows.uptoBulkAll] at h
  unfold HandD.upto
  omega
theorem bulk_meth {x : MethD} {d : DataW H} (hr : methRel x d) (h : Rows.uptoBulk d ≤ R) : x.upto R := by
  obtain ⟨dc, dh, rfl, hc, hh⟩ := hr
  simp only [Rows.uptoBulk, Rows.uptoBulkAll] at h
  exact ⟨by omega, by omega, bulk_rows (M := R) (by omega) hc (Q := fun x => x.upto R) (fun x d' h1 h2 => bulk_ins h1 h2), bulk_rows (M := R) (by omega) hh (Q := fun x => x.upto R) (fun x d' h1 h2 => bulk_hand h1 h2)⟩
theorem bulk_class {x : ClassD} {d : DataW H} (hr : classRel x d) (h : Rows.uptoBulk d ≤ R) : x.upto R := by
  obtain ⟨df, dd, dm, rfl, hf, hd, hm⟩ := hr
  simp only [Rows.uptoBulk, Rows.uptoBulkAll] at h
  exact ⟨by omega, by omega, bulk_rows (M := R) (by omega) hf (Q := fun x => x.length ≤ R) (fun x d' h1 h2 => by subst h1; simp only [Rows.uptoBulk] at h2; omega), bulk_rows (M := R) (by omega) hd (Q := fun x => x.upto R) (fun x d' h1 h2 => bulk_field h1 h2),
    bulk_rows (M := R) (by omega) hm (Q := fun x => x.upto R) (fun x d' h1 h2 => bulk_meth h1 h2)⟩
theorem upto_class {ds : List (DataW H)} {d : DataW H} (hk : Rows.uptoSmall H ds = true) (j : Nat) {c : ClassD} (hd : ds[j]? = some d) (hc : classRel c d) : c.upto 1048576 := bulk_class hc (upto_part hk hd)
end
end
end Go.Proofs.YtkolpbjpgobkcaaGreatDoor
namespace Go.Proofs.YtkolpbjpgobkcaaGreatDoor
theorem witness_zip {H : Type} {enc : TypeId × Value → H} {C : Checked} {os : Os} {f : FuncId} {fn : Func} {s : OpenSpec} {conds : List PathCond} {apart : Bool} {laid : List (String × DataW Unit)} (modest : Bool) (w0 : World) (args : Array Value) (hos : w0.os = os)
    (hsh : (w0.forCall (fun _ _ => 0) ⟨#[], args, []⟩).Shaped C.prog)
    (hok : Input.okWideB C.prog (w0.forCall (fun _ _ => 0) ⟨#[], args, []⟩) f ⟨#[], args, []⟩ = true)
    (hrow : s.preRow enc C.prog fn conds apart laid (w0.forCall (fun _ _ => 0) ⟨#[], args, []⟩).memory args) :
    ∃ (w : World) (tape : Tape) (i : Input), w.os = os ∧ (w.forCall tape i).Shaped C.prog ∧ i.vars = [] ∧ Input.okWide C.prog (w.forCall tape i) .any w.heap.size f i ∧
      s.preRow enc C.prog fn conds apart laid (w.forCall tape i).memory i.args ∧ ({ modest := modest } : Assume).holds C.prog (lone (Frame.enter C.prog f i.args .normal) [] (w.forCall tape i)) :=
  ⟨w0, fun _ _ => 0, ⟨#[], args, []⟩, hos, hsh, (Input.okWide_of_okWideB (base := 0) hok).1, (Input.okWide_of_okWideB hok).2, hrow, by
    simp only [Assume.holds]
    exact ⟨by simp, by simp, fun _ => Modest.zero, by simp, by simp⟩⟩
end Go.Proofs.YtkolpbjpgobkcaaGreatDoor
