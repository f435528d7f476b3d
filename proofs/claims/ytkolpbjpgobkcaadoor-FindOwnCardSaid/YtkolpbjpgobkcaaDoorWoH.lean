/- The walk of coffeehouselaw2.WorldUp, from what package world says. -/
import Derived.Test.YtkolpbjpgobkcaaDoorGV
import Derived.Test.YtkolpbjpgobkcaaDoorWoT
import Derived.BigQuiet
namespace Go.Proofs.YtkolpbjpgobkcaaDoor
open Go.ChangeShapes Go.WideShapes Go.ChangeAt Go.RowKit
set_option linter.unusedVariables false
attribute [local go_sem] eqGuard_errV_nil eqGuard_errV_iface eql_errV_nil neq_errV_nil eql_errV_form

theorem err_bad {P : Program} {f : FuncId} {args : Array Value} {w : World} {q : Nat} (h : Calls P f args w fun e w' => e = .returned (errV q) ∧ Below w.heap.size w w') (h0 : q = 0) : Calls P f args w fun e w' => e = .returned .nilIface ∧ Below w.heap.size w w' := by
  subst h0; exact h
theorem Chain.last {l : List ClassD} (hJ : Joined l) {n : List UInt8} {s : List (List UInt8)} (h : Chain l n s) : ∃ t, s = t ++ [objB] := by
  induction h with
  | @top n c h hs =>
    rcases classOf_in h with ⟨rfl, _⟩ | ⟨_, rfl⟩ | ⟨hm, _⟩
    · exact ⟨[], rfl⟩
    · exact absurd hs (by decide)
    · exact absurd hs (link_zero (hJ.link hm)).1
  | up _ _ _ ih =>
    obtain ⟨t, rfl⟩ := ih
    exact ⟨_ :: t, rfl⟩
theorem Chain.above {l : List ClassD} {x : ClassD} {s : List (List UInt8)} (hc : classOf l x.nm = some x) (hs : x.su ≠ []) (h : Chain l x.nm s) : ∃ t, s = x.nm :: t ∧ Chain l x.su t := by
  cases h with
  | top h' hs' => rw [hc] at h'; obtain rfl := Option.some.inj h'; exact absurd hs' hs
  | up h' _ k => rw [hc] at h'; obtain rfl := Option.some.inj h'; exact ⟨_, rfl, k⟩
theorem any_yes {s : List (List UInt8)} {x : List UInt8} (h : x ∈ s) : s.any (· == x) = true := any_mem.2 h

/-- A list of texts without its first element. -/
def tailA (A : Option Addr) (c : Nat) : Option Addr := if c = 1 then A else A.map (·.add (1 * 1))
theorem tail_str (A : Option Addr) (n c : Nat) (h : 1 ≤ n) (W : World) : (Instr.sliceAt 27 (.slice A n c) (some (.int .i64 1)) none none).run Tryd.prog W = .ok (.slice (tailA A c) (n - 1) (c - 1)) W := by
  have e : Tryd.prog.underlying 27 = some (.slice (Tryd.prog.elem 27)) := by kernel_rfl
  have e2 : Tryd.prog.elem 27 = 9 := by kernel_rfl
  rw [run_sliceAt_slice W _ _ _ _ _ e, run_slice_l W _ A n c e .i64 1 (by omega) (by omega), e2, size_str]
  rfl
theorem StrRow.tail {w : World} {A : Option Addr} {n c : Nat} {x : List UInt8} {r : List (List UInt8)} (h : StrRow w A n c (x :: r)) : StrRow w (tailA A c) (n - 1) (c - 1) r := by
  obtain ⟨h1, h2, h3⟩ := h
  have h1' : r.length + 1 = n := h1
  refine ⟨by omega, by omega, fun h0 => ?_⟩
  obtain ⟨b, o, rfl, hb, hc⟩ := h3 (by omega)
  refine ⟨b, o + 1, ?_, hb, fun j y hy => ?_⟩
  · unfold tailA
    rw [if_neg (by omega)]
    simp [add_spotless]
  · have := hc (j + 1) y (by simpa using hy)
    rw [show o + (j + 1) * 1 = o + 1 + j * 1 by omega] at this
    exact this
end Go.Proofs.YtkolpbjpgobkcaaDoor
