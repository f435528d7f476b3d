/- What a row's listed variables give the walks: the table of the operations. -/
import Derived.Test.YtkabkpkfglngnaaDoorIn2
import Derived.OpenShut
import Derived.LaidLaws
import Derived.Lib.LaidTab
import Derived.MakeChecks
namespace Go.Proofs.YtkabkpkfglngnaaDoor
open Go.ChangeShapes Go.WideShapes Go.ChangeAt Go.RowKit
set_option linter.unusedVariables false

/-- One of the listed variables reads as it is listed. -/
theorem laid_mem {P : Program} {W : World} {n : String} {d : DataW Unit} : ∀ (l : List (String × DataW Unit)) (ps : List MemPlace), DataW.LaidVars P W l ps → (n, d) ∈ l →
    ∃ g t cs fuel p, P.globalNamed n = some g ∧ (P.globals[g]?).map (·.type) = some t ∧ W.var? P n = some cs ∧ DataW.trod (fun _ => ()) P W 0 (fun _ => true) false fuel t cs.toList = some (d, p)
  | [], ps, h, hm => by cases hm
  | (m, e) :: r, ps, h, hm => by
    obtain ⟨g, t, cs, fuel, p, q, h1, h2, h3, h4, h5, _⟩ := h
    rcases List.mem_cons.1 hm with hm | hm
    · simp only [Prod.mk.injEq] at hm
      obtain ⟨rfl, rfl⟩ := hm
      exact ⟨g, t, cs, fuel, p, h1, h2, h3, h4⟩
    · exact laid_mem r q h5 hm
theorem laid_var {P : Program} {W : World} {l : List (String × DataW Unit)} (h : laidMet P l W) (n : String) (d : DataW Unit) (hm : (n, d) ∈ l) :
    ∃ g t cs fuel p, P.globalNamed n = some g ∧ (P.globals[g]?).map (·.type) = some t ∧ W.var? P n = some cs ∧ DataW.trod (fun _ => ()) P W 0 (fun _ => true) false fuel t cs.toList = some (d, p) := by
  obtain ⟨ps, hv, _⟩ := h
  exact laid_mem l ps hv hm

theorem laid_tab {W : World} {l : List (String × DataW Unit)} (h : laidMet Tryd.prog l W) (hm : ("coffeehouse/ins.operations", Rows.laid_coffeehouse_ins_operations) ∈ l) : Tab W := by
  obtain ⟨g, t, cs, fuel, p, h1, h2, h3, h4⟩ := laid_var h _ _ hm
  obtain rfl := Option.some.inj ((show Tryd.prog.globalNamed "coffeehouse/ins.operations" = some 0 by kernel_rfl).symm.trans h1)
  obtain rfl := Option.some.inj ((show (Tryd.prog.globals[0]?).map (·.type) = some 88 by kernel_rfl).symm.trans h2)
  have e : (Rows.laid_coffeehouse_ins_operations : DataW Unit) = .agg (opTab.map fun x => .agg [.lit (.string x.1), .lit (.int .u8 (x.2 : Int))]) := by rfl
  obtain ⟨xs, m, rfl, hx, hlen, hn, hel⟩ := DataW.trod_array Tryd.underlying88 h4
  rw [e] at hx
  simp only [Prod.mk.injEq, DataW.agg.injEq] at hx
  have c2 : Tryd.prog.cellsOf 87 = 2 := by kernel_rfl
  intro k hk
  have hk2 := hel k hk
  rw [c2] at hk2
  have hxk : (xs[k]?).map (·.1) = some (.agg [.lit (.string (opW k)), .lit (.int .u8 (opF k : Int))]) := by
    rw [← List.getElem?_map, ← hx.1, List.getElem?_map]
    have hk3 : opTab[k]? = some (opTab.getD k ([], 0)) := by
      rw [List.getD_eq_getElem?_getD, List.getElem?_eq_getElem (show k < opTab.length from hk)]; rfl
    rw [hk3]; rfl
  obtain ⟨x, hx1, hx2⟩ := Option.map_eq_some_iff.1 hxk
  rw [hx1] at hk2
  obtain ⟨y0, y1, n, hy, hlen2, hy0, hy1⟩ := trod_struct2 Tryd.underlying87 hk2
  subst hy
  simp only [DataW.agg.injEq, List.cons.injEq, and_true] at hx2
  obtain ⟨hx2, hx3⟩ := hx2
  rw [c2] at hlen2
  have hd : ∃ a b, List.take 2 (List.drop (k * 2) cs.toList) = [a, b] := by
    revert hlen2
    generalize List.take 2 (List.drop (k * 2) cs.toList) = z
    intro hlen2
    match z, hlen2 with
    | [a, b], _ => exact ⟨a, b, rfl⟩
  obtain ⟨a, b, hab⟩ := hd
  rw [hab] at hy0 hy1
  have cs1 : Tryd.prog.cellsOf 9 = 1 := by kernel_rfl
  have cs2 : Tryd.prog.cellsOf 85 = 1 := by kernel_rfl
  simp only [cs1, cs2, List.drop_zero, List.drop_succ_cons, List.take_succ_cons, List.take_zero] at hy0 hy1
  obtain ⟨s, hs1, hs2, _⟩ := DataW.trod_string Tryd.underlying9 hy0
  obtain ⟨z, hz1, hz2, _⟩ := DataW.trod_int Tryd.underlying85 hy1
  simp only [List.cons.injEq, and_true] at hs1 hz1
  subst hs1 hz1 hs2 hz2
  simp only [DataW.lit.injEq, Lit.string.injEq, Lit.int.injEq, true_and] at hx2 hx3
  have ha : cs[k * 2]? = some (.string s) := by
    have := congrArg (·[0]?) hab
    simpa [List.getElem?_take, List.getElem?_drop] using this
  have hb : cs[k * 2 + 1]? = some (.int .u8 z) := by
    have := congrArg (·[1]?) hab
    simpa [List.getElem?_take, List.getElem?_drop] using this
  have v := fun j => World.var?_cell h1 h3 j
  refine ⟨(v (k * 2)).trans (ha.trans ?_), (v (k * 2 + 1)).trans (hb.trans ?_)⟩
  · rw [bs_eq hx2]
  · rw [hx3]
end Go.Proofs.YtkabkpkfglngnaaDoor
