/- A law's arguments: the sizes that the statement grants. -/
import Derived.Test.YtkabkpkfglngnaaDoorRow
import Derived.Test.YtkabkpkfglngnaaDoorLaw
import Derived.SliceStrings
import Derived.SizedLaws
import Derived.Deep.CondSized
namespace Go.Proofs.YtkabkpkfglngnaaDoor
open Go.ChangeShapes Go.WideShapes Go.ChangeAt Go.RowKit
set_option linter.unusedVariables false

theorem add_spotless (b o i : Nat) : (⟨b, o, none⟩ : Addr).add i = ⟨b, o + i, none⟩ := by unfold Addr.add; split <;> simp_all
theorem block_of_cell {w : World} {p : Addr} {u : Value} (h : w.cell? p = some u) : p.block < w.heap.size := by
  rcases Nat.lt_or_ge p.block w.heap.size with h1 | h1
  · exact h1
  · unfold World.cell? at h
    rw [Array.getElem?_eq_none h1] at h
    cases h

section
variable {H : Type} {enc : TypeId × Value → H} {W : World}
theorem reach_string {ts : List TypeId} {ds : List (DataW H)} (h : (DataW.weightsEach Tryd.prog ts ds).all (· ≤ reachBytes) = true) (j : Nat) {t : TypeId} {s : ByteArray} (ht : ts[j]? = some t) (hd : ds[j]? = some (.lit (.string s.data.toList))) : s.size ≤ 140737488351232 := by
  have := sized_string h ht hd
  simpa [reachBytes] using this

theorem upto_part {l : List (DataW H)} (hk : Rows.uptoSmall H l = true) {d : DataW H} {j : Nat} (hd : l[j]? = some d) : Rows.uptoBulk d ≤ 1048576 := by
  have h1 : Rows.uptoBulkAll l ≤ 1048576 := by simpa [Rows.uptoSmall] using hk
  have h2 : ∀ (l : List (DataW H)), d ∈ l → Rows.uptoBulk d ≤ Rows.uptoBulkAll l := by
    intro l
    induction l with
    | nil => intro h; cases h
    | cons x r ih =>
      intro h
      simp only [Rows.uptoBulkAll]
      rcases List.mem_cons.1 h with rfl | h
      · omega
      · have := ih h; omega
  exact Nat.le_trans (h2 l (List.mem_of_getElem? hd)) h1
theorem upto_string {l : List (DataW H)} (hk : Rows.uptoSmall H l = true) {s : ByteArray} (j : Nat) (hd : l[j]? = some (.lit (.string s.data.toList))) : s.size ≤ 1048576 := by
  have := upto_part hk hd
  simp [Rows.uptoBulk] at this
  omega
end
end Go.Proofs.YtkabkpkfglngnaaDoor
