/- A law's arguments: an instruction; the sizes that the statement grants. -/
import Derived.Test.YtkabkpkfglngnaaDoorArgs0
import Derived.Test.YtkabkpkfglngnaaDoorInM
import Derived.OpenShut
namespace Go.Proofs.YtkabkpkfglngnaaDoor
open Go.ChangeShapes Go.WideShapes Go.ChangeAt Go.RowKit
set_option linter.unusedVariables false

section
variable {H : Type} {enc : TypeId × Value → H} {W : World}
def insL (x : InsD) : List Value := [.int .i64 x.op, .int .i64 x.a, .int .i64 x.b, .string (bs x.ty), .string (bs x.cl), .string (bs x.nm)]
def insT (x : InsD) : DataW H := .agg [.lit (.int .i64 x.op), .lit (.int .i64 x.a), .lit (.int .i64 x.b), .lit (.string x.ty), .lit (.string x.cl), .lit (.string x.nm)]
theorem wf_i64 {n : Int} (h : (Lit.int .i64 n).wf = true) : i64B n := by
  simpa [Lit.wf, IntKind.min, IntKind.max, IntKind.signed, IntKind.bits, i64B] using h
set_option maxRecDepth 100000 in
/-- A reading of an instruction's six cells. -/
theorem ins_of_trod {base : Nat} {sp : Nat → Bool} {held : Bool} {fuel : Nat} {cs : List Value} {d : DataW H} {p : List MemPlace} (h : DataW.trod enc Tryd.prog W base sp held fuel 64 cs = some (d, p)) :
    ∃ x : InsD, cs = insL x ∧ d = insT x ∧ p = [] ∧ x.wf ∧ x.ty.length ≤ maxLen ∧ x.cl.length ≤ maxLen ∧ x.nm.length ≤ maxLen := by
  obtain ⟨xs, m, _, hx, hl, hxl, hf⟩ := DataW.trod_struct Tryd.underlying64 h
  have c6 : Tryd.prog.cellsOf 64 = 6 := by kernel_rfl
  have ci : Tryd.prog.cellsOf 3 = 1 := by kernel_rfl
  have cs1 : Tryd.prog.cellsOf 9 = 1 := by kernel_rfl
  rw [c6] at hl
  match cs, hl with
  | [v0, v1, v2, v3, v4, v5], _ =>
    match xs, hxl with
    | [x0, x1, x2, x3, x4, x5], _ =>
      have h0 : DataW.trod enc Tryd.prog W base sp held m 3 (List.take (Tryd.prog.cellsOf 3) (List.drop 0 [v0, v1, v2, v3, v4, v5])) = some x0 := hf 0 _ rfl
      have h1 : DataW.trod enc Tryd.prog W base sp held m 3 (List.take (Tryd.prog.cellsOf 3) (List.drop 1 [v0, v1, v2, v3, v4, v5])) = some x1 := hf 1 _ rfl
      have h2 : DataW.trod enc Tryd.prog W base sp held m 3 (List.take (Tryd.prog.cellsOf 3) (List.drop 2 [v0, v1, v2, v3, v4, v5])) = some x2 := hf 2 _ rfl
      have h3 : DataW.trod enc Tryd.prog W base sp held m 9 (List.take (Tryd.prog.cellsOf 9) (List.drop 3 [v0, v1, v2, v3, v4, v5])) = some x3 := hf 3 _ rfl
      have h4 : DataW.trod enc Tryd.prog W base sp held m 9 (List.take (Tryd.prog.cellsOf 9) (List.drop 4 [v0, v1, v2, v3, v4, v5])) = some x4 := hf 4 _ rfl
      have h5 : DataW.trod enc Tryd.prog W base sp held m 9 (List.take (Tryd.prog.cellsOf 9) (List.drop 5 [v0, v1, v2, v3, v4, v5])) = some x5 := hf 5 _ rfl
      simp only [ci, cs1, List.drop_zero, List.drop_succ_cons, List.take_succ_cons, List.take_zero] at h0 h1 h2 h3 h4 h5
      obtain ⟨a0, e0, rfl, w0⟩ := DataW.trod_int Tryd.underlying3 h0
      obtain ⟨a1, e1, rfl, w1⟩ := DataW.trod_int Tryd.underlying3 h1
      obtain ⟨a2, e2, rfl, w2⟩ := DataW.trod_int Tryd.underlying3 h2
      obtain ⟨s3, e3, rfl, w3⟩ := DataW.trod_string Tryd.underlying9 h3
      obtain ⟨s4, e4, rfl, w4⟩ := DataW.trod_string Tryd.underlying9 h4
      obtain ⟨s5, e5, rfl, w5⟩ := DataW.trod_string Tryd.underlying9 h5
      simp only [List.cons.injEq, and_true] at e0 e1 e2 e3 e4 e5
      subst e0 e1 e2 e3 e4 e5
      simp only [Prod.mk.injEq] at hx
      exact ⟨⟨a0, a1, a2, s3.data.toList, s4.data.toList, s5.data.toList⟩, rfl, hx.1, hx.2, ⟨wf_i64 w0, wf_i64 w1, wf_i64 w2⟩, w3, w4, w5⟩
set_option maxRecDepth 100000 in
theorem arg_ins {r : Reach} {base : Nat} {v : Value} {d : DataW H} {ps : List MemPlace} (hval : Value.okWide Tryd.prog W r base 64 v) (h : DataW.Trod enc Tryd.prog W 0 (fun _ => true) true 64 v d ps) :
    ∃ x : InsD, v = insV x ∧ d = insT x ∧ ps = [] ∧ x.wf := by
  obtain ⟨cs, rfl, _⟩ := okWide_struct Tryd.underlying64 hval
  obtain ⟨fuel, hf⟩ := h
  obtain ⟨x, h1, h2, h3, h4, _⟩ := ins_of_trod hf
  refine ⟨x, ?_, h2, h3, h4⟩
  obtain ⟨l⟩ := cs
  exact congrArg (fun l : List Value => Value.agg l.toArray) (show l = insL x from h1)
set_option maxRecDepth 100000 in
theorem reach_ins {ts : List TypeId} {ds : List (DataW H)} (h : (DataW.weightsEach Tryd.prog ts ds).all (· ≤ reachBytes) = true) (j : Nat) {x : InsD} (ht : ts[j]? = some 64) (hd : ds[j]? = some (insT x)) :
    x.ty.length ≤ 140737488351232 ∧ x.cl.length ≤ 140737488351232 ∧ x.nm.length ≤ 140737488351232 := by
  have hw : DataW.weights Tryd.prog 64 (insT x : DataW H) = [x.ty.length, x.cl.length, x.nm.length] := by
    simp only [DataW.weights, insT, Tryd.underlying64]
    rfl
  have k := fun n hn => List.all_eq_true.1 h _ (DataW.weights_mem_each ht hd n hn)
  rw [hw] at k
  have k0 := k x.ty.length (by simp)
  have k1 := k x.cl.length (by simp)
  have k2 := k x.nm.length (by simp)
  exact ⟨of_decide_eq_true k0, of_decide_eq_true k1, of_decide_eq_true k2⟩
theorem upto_ins {l : List (DataW H)} (hk : Rows.uptoSmall H l = true) {x : InsD} (j : Nat) (hd : l[j]? = some (insT x)) : x.ty.length ≤ 1048576 ∧ x.cl.length ≤ 1048576 ∧ x.nm.length ≤ 1048576 := by
  have := upto_part hk hd
  simp only [insT, Rows.uptoBulk, Rows.uptoBulkAll] at this
  omega
end
end Go.Proofs.YtkabkpkfglngnaaDoor
