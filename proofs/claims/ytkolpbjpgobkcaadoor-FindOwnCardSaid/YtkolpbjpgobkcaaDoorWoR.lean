/- A law's argument that is a list of classes, as the call finds it; the sizes that the statement grants. -/
import Derived.Test.YtkolpbjpgobkcaaDoorGK
namespace Go.Proofs.YtkolpbjpgobkcaaDoor
open Go.ChangeShapes Go.WideShapes Go.ChangeAt Go.RowKit
set_option linter.unusedVariables false

section
variable {H : Type} {enc : TypeId × Value → H} {W : World}
theorem classes_of {base : Nat} {sp : Nat → Bool} {held : Bool} {fuel : Nat} {cs : List Value} {d : DataW H} {p : List MemPlace} (h : DataW.trod enc Tryd.prog W base sp held fuel 22 cs = some (d, p)) :
    ∃ A n c l, cs = [.slice A n c] ∧ ClassRow W A n c l ∧ (A = none → n = 0 ∧ c = 0) ∧ relL classRel l d ∧ (∀ x ∈ l, x.wf) ∧ c ≤ maxLen :=
  open_rows Tryd.underlying22 (show Tryd.prog.cellsOf 31 = 6 by kernel_rfl) (by decide) ClassAt classRel ClassD.wf (fun _ _ _ _ _ _ hc h => class_of hc h) h
set_option maxRecDepth 100000 in
theorem arg_classes {r : Reach} {base : Nat} {v : Value} {d : DataW H} {ps : List MemPlace} (hval : Value.okWide Tryd.prog W r base 22 v) (h : DataW.Trod enc Tryd.prog W 0 (fun _ => true) true 22 v d ps) :
    ∃ A n c l, v = .slice A n c ∧ ClassRow W A n c l ∧ (A = none → n = 0 ∧ c = 0) ∧ relL classRel l d ∧ ∀ x ∈ l, x.wf := by
  obtain ⟨a0, len, cap, rfl⟩ := okWide_slice Tryd.underlying22 hval
  obtain ⟨fuel, hf⟩ := h
  obtain ⟨A, n, c, l, h1, h2, h3, h4, h5, _⟩ := classes_of hf
  have h1' : a0 = A ∧ len = n ∧ cap = c := by simpa [Value.cells] using h1
  obtain ⟨rfl, rfl, rfl⟩ := h1'
  exact ⟨_, _, _, l, rfl, h2, h3, h4, h5⟩
theorem reach_classes {ts : List TypeId} {ds : List (DataW H)} {d : DataW H} (h : (DataW.weightsEach Tryd.prog ts ds).all (· ≤ reachBytes) = true) (j : Nat) {l : List ClassD} (ht : ts[j]? = some 22) (hd : ds[j]? = some d) (hc : relL classRel l d) :
    (∀ x ∈ l, x.upto 140737488351232) ∧ l.length ≤ 140737488351232 := by
  obtain ⟨c1, c2⟩ := sizes_rows Tryd.underlying22 (R := 140737488351232) (fun n hn => Nat.le_trans (of_decide_eq_true (List.all_eq_true.1 h n (DataW.weights_mem_each ht hd n hn))) (by decide)) hc (Q := fun x => x.upto 140737488351232) (fun x d' h1 h2 => sizes_class h1 h2)
  exact ⟨c1, count_le c2 (by rw [show Tryd.prog.bytesOf 31 = 112 by kernel_rfl]; decide)⟩
theorem upto_classes {ds : List (DataW H)} {d : DataW H} (hk : Rows.uptoSmall H ds = true) (j : Nat) {l : List ClassD} (hd : ds[j]? = some d) (hc : relL classRel l d) : (∀ x ∈ l, x.upto 1048576) ∧ l.length ≤ 1048576 :=
  bulk_rows (M := 1048576) (upto_part hk hd) hc (Q := fun x => x.upto 1048576) (fun x d' h1 h2 => bulk_class h1 h2)
end
end Go.Proofs.YtkolpbjpgobkcaaDoor
