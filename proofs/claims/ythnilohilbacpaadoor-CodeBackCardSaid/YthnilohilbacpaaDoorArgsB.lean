/- A law's arguments as the call finds them: a list of bytes. (As ArgsU, for a seat without 16-bit units.) -/
import Derived.Test.YthnilohilbacpaaDoorArgs0
import Derived.Test.YthnilohilbacpaaDoorByR
import Derived.ChangeSlices
namespace Go.Proofs.YthnilohilbacpaaDoor
open Go.ChangeShapes Go.WideShapes Go.ChangeAt Go.RowKit
set_option linter.unusedVariables false

section
variable {H : Type} {enc : TypeId × Value → H} {W : World}
theorem bulk_all (k : IntKind) (zs : List Int) : Rows.uptoBulkAll (H := H) (lits k zs) = zs.length := by
  induction zs with
  | nil => rfl
  | cons z zs ih =>
    show Rows.uptoBulk (.lit (.int k z)) + Rows.uptoBulkAll (lits k zs) = _
    rw [ih]
    simp [Rows.uptoBulk]
    omega
set_option maxRecDepth 100000 in
theorem arg_nums {t e : TypeId} {k : IntKind} (ht : Tryd.prog.underlying t = some (.slice e)) (he : Tryd.prog.underlying e = some (.int k)) (hc : Tryd.prog.cellsOf e = 1) {r : Reach} {base : Nat} {v : Value} {d : DataW H} {ps : List MemPlace}
    (hval : Value.okWide Tryd.prog W r base t v) (h : DataW.Trod enc Tryd.prog W 0 (fun _ => true) true t v d ps) :
    ∃ A n c zs, v = .slice A n c ∧ Row W A n c ((zs : List Int).map (Value.int k)) ∧ (A = none → n = 0 ∧ c = 0) ∧ n ≤ Rows.uptoBulk d ∧ ∀ z ∈ zs, (Lit.int k z).wf = true := by
  obtain ⟨a0, len, cap, rfl⟩ := okWide_slice ht hval
  obtain ⟨fuel, hf⟩ := h
  rcases open_ints ht he hc hf with ⟨hcs, hx⟩ | ⟨a, len', cap', ss, hcs, _, hl, hm, hz, hx, hcell, hwf⟩
  · obtain ⟨rfl, rfl, rfl⟩ : a0 = none ∧ len = 0 ∧ cap = 0 := by simpa [Value.cells] using hcs
    exact ⟨none, 0, 0, [], rfl, Row.nil_ _ _ _, fun _ => ⟨rfl, rfl⟩, Nat.zero_le _, fun z hz => by cases hz⟩
  · obtain ⟨rfl, rfl, rfl⟩ : a0 = some a ∧ len = len' ∧ cap = cap' := by simpa [Value.cells] using hcs
    simp only [if_true] at hz
    refine ⟨some a, len, cap, ss.take len, rfl, ?_, fun h => by (cases h), ?_, fun z hz => hwf z (List.mem_of_mem_take hz)⟩
    · refine ⟨by simp; omega, hl, fun h0 => ?_⟩
      have hc0 := hcell 0 (by omega)
      obtain ⟨b, o, spot⟩ := a
      obtain rfl : spot = none := by simpa [Addr.add] using World.cell?_spot hc0
      refine ⟨b, o, rfl, block_of_cell hc0, fun j u hu => ?_⟩
      have hj : j < len := by
        have := (List.getElem?_eq_some_iff.1 hu).1
        simp at this
        omega
      have := hcell j (by omega)
      rw [add_spotless] at this
      rw [this]
      have hjs : j < ss.length := by omega
      rw [List.getElem?_map, List.getElem?_take_of_lt hj, List.getElem?_eq_getElem hjs] at hu
      simp only [Option.map_some, Option.some.injEq] at hu
      rw [← hu]
      simp [List.getD, hjs]
    · have hd := congrArg Prod.fst hx
      simp only at hd
      rw [hd]
      simp only [Rows.uptoBulk, bulk_all, List.length_take]
      omega
theorem bytes_of (zs : List Int) (h : ∀ z ∈ zs, (Lit.int .u8 z).wf = true) : zs.map (Value.int .u8) = (zs.map fun z => UInt8.ofNat z.toNat).map byteV := by
  rw [List.map_map]
  apply List.map_congr_left
  intro z hz
  have hx : 0 ≤ z ∧ z ≤ 255 := by simpa [Lit.wf, IntKind.min, IntKind.max, IntKind.signed, IntKind.bits] using h z hz
  have h1 : (UInt8.ofNat z.toNat).toNat = z.toNat := by simp; omega
  show Value.int .u8 z = Value.int .u8 ((UInt8.ofNat z.toNat).toNat : Int)
  rw [h1]
  congr 1
  omega
set_option maxRecDepth 100000 in
theorem arg_bytes {r : Reach} {base : Nat} {v : Value} {d : DataW H} {ps : List MemPlace} (hval : Value.okWide Tryd.prog W r base 28 v) (h : DataW.Trod enc Tryd.prog W 0 (fun _ => true) true 28 v d ps) :
    ∃ A n c xs, v = .slice A n c ∧ Row W A n c ((xs : List UInt8).map byteV) ∧ (A = none → n = 0 ∧ c = 0) ∧ n ≤ Rows.uptoBulk d := by
  obtain ⟨A, n, c, zs, hv, R, hA, hn, hw⟩ := arg_nums Tryd.underlying28 Tryd.underlying5 (by kernel_rfl) hval h
  exact ⟨A, n, c, _, hv, by rw [← bytes_of zs hw]; exact R, hA, hn⟩
end
end Go.Proofs.YthnilohilbacpaaDoor
