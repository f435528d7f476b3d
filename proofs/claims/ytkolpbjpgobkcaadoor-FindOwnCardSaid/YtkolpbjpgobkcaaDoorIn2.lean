/- The contract of ins.Check: for every instruction. -/
import Derived.Test.YtkolpbjpgobkcaaDoorIn1
namespace Go.Proofs.YtkolpbjpgobkcaaDoor
open Go.ChangeShapes Go.WideShapes Go.ChangeAt Go.RowKit
set_option linter.unusedVariables false
attribute [local go_sem] eqGuard_errV_nil eqGuard_errV_iface eql_errV_nil neq_errV_nil eql_errV_form

/-- The table of the operations lies where the program has laid it. -/
def Tab (w : World) : Prop := ∀ k, k < 29 → w.cell? ⟨0, k * 2, none⟩ = some (.string (bs (opW k))) ∧ w.cell? ⟨0, k * 2 + 1, none⟩ = some (.int .u8 (opF k : Int))
theorem Tab.lt {w : World} (h : Tab w) : 0 < w.heap.size := by
  have := (h 0 (by decide)).1
  rcases Nat.lt_or_ge 0 w.heap.size with h1 | h1
  · exact h1
  · unfold World.cell? at this
    rw [Array.getElem?_eq_none h1] at this
    cases this
theorem Tab.below {w w' : World} (h : Tab w) (hb : Below w.heap.size w w') : Tab w' := fun k hk => by
  rw [hb.cell (p := ⟨0, k * 2, none⟩) h.lt, hb.cell (p := ⟨0, k * 2 + 1, none⟩) h.lt]
  exact h k hk

/-- An instruction in a block of its own. -/
def Box (w : World) (n : Nat) (x : InsD) : Prop := n < w.heap.size ∧ w.cell? ⟨n, 0, none⟩ = some (.int .i64 x.op) ∧ w.cell? ⟨n, 1, none⟩ = some (.int .i64 x.a) ∧ w.cell? ⟨n, 2, none⟩ = some (.int .i64 x.b) ∧
  w.cell? ⟨n, 3, none⟩ = some (.string (bs x.ty)) ∧ w.cell? ⟨n, 4, none⟩ = some (.string (bs x.cl)) ∧ w.cell? ⟨n, 5, none⟩ = some (.string (bs x.nm))
theorem Box.below {w w' : World} {n : Nat} {x : InsD} (h : Box w n x) (hb : Below w.heap.size w w') : Box w' n x := by
  obtain ⟨h0, h1, h2, h3, h4, h5, h6⟩ := h
  refine ⟨Nat.lt_of_lt_of_le h0 hb.size, ?_, ?_, ?_, ?_, ?_, ?_⟩
  · rw [hb.cell (p := ⟨n, 0, none⟩) h0, h1]
  · rw [hb.cell (p := ⟨n, 1, none⟩) h0, h2]
  · rw [hb.cell (p := ⟨n, 2, none⟩) h0, h3]
  · rw [hb.cell (p := ⟨n, 3, none⟩) h0, h4]
  · rw [hb.cell (p := ⟨n, 4, none⟩) h0, h5]
  · rw [hb.cell (p := ⟨n, 5, none⟩) h0, h6]
theorem box_at (w : World) (x : InsD) (t : TypeId) (f : Nat × Nat) : Box (w.alloc (.cells #[.int .i64 x.op, .int .i64 x.a, .int .i64 x.b, .string (bs x.ty), .string (bs x.cl), .string (bs x.nm)] t f)) w.heap.size x := by
  refine ⟨by simp, ?_, ?_, ?_, ?_, ?_, ?_⟩ <;> exact World.cell?_alloc_mark ..
theorem box_new {w w' : World} {o : Obj} (x : InsD) (t : TypeId) (f : Nat × Nat) (ho : o = .cells #[.int .i64 x.op, .int .i64 x.a, .int .i64 x.b, .string (bs x.ty), .string (bs x.cl), .string (bs x.nm)] t f) (hb : Below (w.alloc o).heap.size (w.alloc o) w') :
    Box w' w.heap.size x ∧ Below w.heap.size w w' := by
  subst ho
  exact ⟨(box_at w x t f).below hb, ((Below.refl _ _).alloc (Nat.le_refl _) _).trans (hb.mono (by simp))⟩
theorem bnext {w a b : World} (h : Below w.heap.size w a) (k : Below a.heap.size a b) : Below w.heap.size w b := h.trans (k.mono h.size)
theorem al1 (w : World) (o : Obj) : Below w.heap.size w (w.alloc o) := (Below.refl _ _).alloc (Nat.le_refl _) _

theorem var_below {w w' : World} {n : String} {cs : Array Value} (h : w.var? Tryd.prog n = some cs) (hb : Below w.heap.size w w') : w'.var? Tryd.prog n = some cs := by
  unfold World.var? at h ⊢
  cases hg : Tryd.prog.globalNamed n with
  | none => simp [hg] at h
  | some g =>
    simp only [hg, Option.bind_some] at h ⊢
    have hlt : g < w.heap.size := by
      rcases Nat.lt_or_ge g w.heap.size with h' | h'
      · exact h'
      · simp [Array.getElem?_eq_none h'] at h
    rw [hb.block g hlt]
    exact h

theorem check_low (x : InsD) (hx : x.op ≤ 0 ∨ 29 ≤ x.op) (w : World) : Calls Tryd.prog 79 #[insV x] w fun e w' => e = .returned (errV (insF x)) ∧ Below w.heap.size w w' := by
  have E := Lib.hid (show insF x = 1 by unfold insF; rw [if_pos hx])
  obtain ⟨op, a, b, ty, cl, nm⟩ := x
  unfold insV
  simp only at hx
  go_enter Tryd.func79, Tryd.ntmps79
  go_wp2
  all_goals
    first
    | (go_ret
       exact ⟨ret_err (by rw [E.out]; rfl), (Below.refl _ _).alloc (Nat.le_refl _) _⟩)
    | (exfalso; omega)
theorem check_in (x : InsD) (k : Nat) (h0 : 0 < k) (hk : k < 29) (hx : x.op = k) (w : World) (T : Tab w) (hty : x.ty.length ≤ 140737488351232) (hc : x.cl.length ≤ 140737488351232) (hn : x.nm.length ≤ 140737488351232) :
    Calls Tryd.prog 79 #[insV x] w fun e w' => e = .returned (errV (insF x)) ∧ Below w.heap.size w w' := by
  have H1 := Lib.hid (fun w => hasOnly_any x (opF k) (opF_lt hk) w)
  have H2 := Lib.hid (fun w => range_any x w)
  have H3 := Lib.hid (fun w => typed_any x w hty)
  have H4 := Lib.hid (fun w => named_any2 x (opF k) (opF_lt hk) w hc hn)
  obtain ⟨op, a, b, ty, cl, nm⟩ := x
  obtain rfl : op = k := hx
  unfold insV at *
  have hT := fun o => ((T.below ((Below.refl w.heap.size w).alloc (Nat.le_refl _) o)) k hk).2
  have hkk : (k : Int) < 29 := by omega
  have hk0 : ¬ (k : Int) ≤ 0 := by omega
  have hK := Lib.hid (show ¬ ((k : Int) ≤ 0 ∨ 29 ≤ (k : Int)) by omega)
  go_enter Tryd.func79, Tryd.ntmps79
  go_wp2_with (first
    | (go_at_call 83; (with_reducible refine (H1.out _).mono ?_); rintro e w1 ⟨rfl, b1⟩
       have BX1 := box_new ⟨k, a, b, ty, cl, nm⟩ _ _ rfl b1
       have B1 := Lib.hid BX1.1
       have L1 := Lib.hid BX1.2
       obtain ⟨q0, q1, q2, q3, q4, q5, q6⟩ := BX1.1
       clear BX1 b1)
    | (go_at_call 84; (with_reducible refine (H2.out _).mono ?_); rintro e w2 ⟨rfl, b2⟩
       have B2 := Lib.hid (B1.out.below b2)
       have L2 := Lib.hid (bnext L1.out b2)
       obtain ⟨q0, q1, q2, q3, q4, q5, q6⟩ := B2.out
       clear b2)
    | (go_at_call 85; (with_reducible refine (H3.out _).mono ?_); rintro e w3 ⟨rfl, b3⟩
       have B3 := Lib.hid (B2.out.below b3)
       have L3 := Lib.hid (bnext L2.out b3)
       obtain ⟨q0, q1, q2, q3, q4, q5, q6⟩ := B3.out
       clear b3)
    | (go_at_call 86; (with_reducible refine (H4.out _).mono ?_); rintro e w4 ⟨rfl, b4⟩
       have L4 := Lib.hid (bnext L3.out b4)
       clear b4))
  all_goals
    go_ret
    refine ⟨ret_err ?_, ?_⟩
    · clear H1 H2 H3 H4
      unfold insF
      rw [if_neg hK.out]
      simp_all [errV]
    · first | exact L4.out | exact L3.out | exact L2.out | exact L1.out

/-- ins.Check at every instruction. -/
theorem ins_check (x : InsD) (w : World) (T : Tab w) (hty : x.ty.length ≤ 140737488351232) (hc : x.cl.length ≤ 140737488351232) (hn : x.nm.length ≤ 140737488351232) :
    Calls Tryd.prog 79 #[insV x] w fun e w' => e = .returned (errV (insF x)) ∧ Below w.heap.size w w' := by
  by_cases h : x.op ≤ 0 ∨ 29 ≤ x.op
  · exact check_low x h w
  · exact check_in x x.op.toNat (by omega) (by omega) (by omega) w T hty hc hn
end Go.Proofs.YtkolpbjpgobkcaaDoor
