/- The contracts of ins.read and ins.Parse. -/
import Derived.Test.YthnilohilbacpaaDoorIn4
import Derived.Test.YthnilohilbacpaaDoorIn3
import Derived.WalkSmall
namespace Go.Proofs.YthnilohilbacpaaDoor
open Go.ChangeShapes Go.WideShapes Go.ChangeAt Go.RowKit
set_option linter.unusedVariables false
attribute [local go_sem] eqGuard_errV_nil eqGuard_errV_iface eql_errV_nil neq_errV_nil eql_errV_form

/-- A block of cells that may be written. -/
def Cells (w : World) (n : Nat) (cs : Array Value) : Prop := ∃ t, w.heap[n]? = some (.cells cs t (0, 0))
theorem Cells.cell {w : World} {n : Nat} {cs : Array Value} (h : Cells w n cs) (j : Nat) : w.cell? ⟨n, j, none⟩ = cs[j]? := by
  obtain ⟨t, h⟩ := h
  simp [World.cell?, h]
theorem Cells.frozen {w : World} {n : Nat} {cs : Array Value} (h : Cells w n cs) (j : Nat) : w.frozen? ⟨n, j, none⟩ = false := by
  obtain ⟨t, h⟩ := h
  simp [World.frozen?, h]
theorem Cells.lt {w : World} {n : Nat} {cs : Array Value} (h : Cells w n cs) : n < w.heap.size := by
  obtain ⟨t, h⟩ := h
  rcases Nat.lt_or_ge n w.heap.size with h1 | h1
  · exact h1
  · rw [Array.getElem?_eq_none h1] at h; cases h
theorem Cells.below {w w' : World} {n : Nat} {cs : Array Value} (h : Cells w n cs) (hb : Below w.heap.size w w') : Cells w' n cs := by
  have hl := h.lt
  obtain ⟨t, h⟩ := h
  exact ⟨t, (hb.block n hl).trans h⟩
theorem Cells.set {w : World} {n : Nat} {cs : Array Value} (h : Cells w n cs) (j : Nat) (v : Value) : Cells (w.setCell ⟨n, j, none⟩ v) n (cs.setIfInBounds j v) := by
  obtain ⟨t, h⟩ := h
  exact ⟨t, heap_setCell_same w n j cs t v h⟩
theorem Cells.other {w : World} {n m : Nat} {cs : Array Value} (h : Cells w n cs) (hm : n ≠ m) (j : Nat) (v : Value) : Cells (w.setCell ⟨m, j, none⟩ v) n cs := by
  obtain ⟨t, h⟩ := h
  exact ⟨t, (Below.heap_setCell w ⟨m, j, none⟩ v n hm).trans h⟩
theorem cells_at (w : World) (cs : Array Value) (t : TypeId) : Cells (w.alloc (.cells cs t)) w.heap.size cs :=
  ⟨t, by show (w.heap.push _)[w.heap.size]? = _; simp⟩
theorem size_set (w : World) (a : Addr) (v : Value) : (w.setCell a v).heap.size = w.heap.size := by simp [World.setCell]

def icells (x : InsD) : Array Value := #[.int .i64 x.op, .int .i64 x.a, .int .i64 x.b, .string (bs x.ty), .string (bs x.cl), .string (bs x.nm)]
/-- Where read stands: the result's block, the instruction so far in the next, the reader in the third. -/
def Reading (w wr : World) (x : InsD) (r : List UInt8) : Prop :=
  Cells wr w.heap.size (icells zeroI) ∧ Cells wr (w.heap.size + 1) (icells x) ∧ Cells wr (w.heap.size + 2) #[.string (bs r)] ∧ Below w.heap.size w wr ∧ r.length ≤ 140737488355328
theorem Reading.bel {w wr : World} {x : InsD} {r : List UInt8} (h : Reading w wr x r) : Below w.heap.size w wr := h.2.2.2.1
theorem Reading.len {w wr : World} {x : InsD} {r : List UInt8} (h : Reading w wr x r) : r.length ≤ 140737488355328 := h.2.2.2.2
theorem Reading.rest {w wr : World} {x : InsD} {r : List UInt8} (h : Reading w wr x r) : wr.cell? ⟨w.heap.size + 2, 0, none⟩ = some (.string (bs r)) := h.2.2.1.cell 0
theorem Reading.restf {w wr : World} {x : InsD} {r : List UInt8} (h : Reading w wr x r) : wr.frozen? ⟨w.heap.size + 2, 0, none⟩ = false := h.2.2.1.frozen 0
theorem Reading.took {w wr wn : World} {x : InsD} {r : List UInt8} (h : Reading w wr x r) (k : Nat)
    (hb : Below wr.heap.size ((wr.drewN k).setCell ⟨w.heap.size + 2, 0, none⟩ (.string (bs (restL r)))) wn) : Reading w wn x (restL r) := by
  obtain ⟨h1, h2, h3, h4, h5⟩ := h
  have e : ((wr.drewN k).setCell ⟨w.heap.size + 2, 0, none⟩ (.string (bs (restL r)))).heap.size = wr.heap.size := by rw [size_set]; rfl
  have hb' : Below ((wr.drewN k).setCell ⟨w.heap.size + 2, 0, none⟩ (.string (bs (restL r)))).heap.size ((wr.drewN k).setCell ⟨w.heap.size + 2, 0, none⟩ (.string (bs (restL r)))) wn := by rw [e]; exact hb
  refine ⟨(Cells.other (w := wr.drewN k) h1 (by omega) _ _).below hb', (Cells.other (w := wr.drewN k) h2 (by omega) _ _).below hb', ?_, ?_, Nat.le_trans (rest_len r) h5⟩
  · exact (Cells.set (w := wr.drewN k) h3 0 (.string (bs (restL r)))).below hb'
  · exact ((below_drewN h4 k).setCell (p := ⟨w.heap.size + 2, 0, none⟩) (by show w.heap.size ≤ w.heap.size + 2; omega) _).trans (hb.mono h4.size)
theorem Reading.put {w wr : World} {x : InsD} {r : List UInt8} (h : Reading w wr x r) (j : Nat) (v : Value) (y : InsD) (hy : (icells x).setIfInBounds j v = icells y) : Reading w (wr.setCell ⟨w.heap.size + 1, j, none⟩ v) y r := by
  obtain ⟨h1, h2, h3, h4, h5⟩ := h
  exact ⟨h1.other (by omega) _ _, hy ▸ h2.set j v, h3.other (by omega) _ _, h4.setCell (p := ⟨w.heap.size + 1, j, none⟩) (by show w.heap.size ≤ w.heap.size + 1; omega) _, h5⟩
theorem Reading.put0 {w wr wn : World} {op a b : Int} {ty cl nm r : List UInt8} {v : Int} (h : Reading w wr ⟨op, a, b, ty, cl, nm⟩ r) (e : wr.setCell ⟨w.heap.size + 1, 0, none⟩ (.int .i64 v) = wn) : Reading w wn ⟨v, a, b, ty, cl, nm⟩ r := e ▸ h.put 0 _ _ rfl
theorem Reading.put1 {w wr wn : World} {op a b : Int} {ty cl nm r : List UInt8} {v : Int} (h : Reading w wr ⟨op, a, b, ty, cl, nm⟩ r) (e : wr.setCell ⟨w.heap.size + 1, 1, none⟩ (.int .i64 v) = wn) : Reading w wn ⟨op, v, b, ty, cl, nm⟩ r := e ▸ h.put 1 _ _ rfl
theorem Reading.put2 {w wr wn : World} {op a b : Int} {ty cl nm r : List UInt8} {v : Int} (h : Reading w wr ⟨op, a, b, ty, cl, nm⟩ r) (e : wr.setCell ⟨w.heap.size + 1, 2, none⟩ (.int .i64 v) = wn) : Reading w wn ⟨op, a, v, ty, cl, nm⟩ r := e ▸ h.put 2 _ _ rfl
theorem Reading.put3 {w wr wn : World} {op a b : Int} {ty cl nm r : List UInt8} {v : List UInt8} (h : Reading w wr ⟨op, a, b, ty, cl, nm⟩ r) (e : wr.setCell ⟨w.heap.size + 1, 3, none⟩ (.string (bs v)) = wn) : Reading w wn ⟨op, a, b, v, cl, nm⟩ r := e ▸ h.put 3 _ _ rfl
theorem Reading.put4 {w wr wn : World} {op a b : Int} {ty cl nm r : List UInt8} {v : List UInt8} (h : Reading w wr ⟨op, a, b, ty, cl, nm⟩ r) (e : wr.setCell ⟨w.heap.size + 1, 4, none⟩ (.string (bs v)) = wn) : Reading w wn ⟨op, a, b, ty, v, nm⟩ r := e ▸ h.put 4 _ _ rfl
theorem reading_start (w : World) (s : List UInt8) (hs : s.length ≤ 140737488355328) (t1 t2 t3 : TypeId) :
    Reading w (((w.alloc (.cells #[.int .i64 0, .int .i64 0, .int .i64 0, .string ⟨#[]⟩, .string ⟨#[]⟩, .string ⟨#[]⟩] t1)).alloc (.cells #[.int .i64 0, .int .i64 0, .int .i64 0, .string ⟨#[]⟩, .string ⟨#[]⟩, .string ⟨#[]⟩] t2)).alloc (.cells #[.string (bs s)] t3)) zeroI s := by
  have k1 : ∀ (W : World) o, Below W.heap.size W (W.alloc o) := fun W o => (Below.refl _ _).alloc (Nat.le_refl _) _
  have e1 : (w.alloc (.cells (icells zeroI) t1)).heap.size = w.heap.size + 1 := by simp
  have e2 : ((w.alloc (.cells (icells zeroI) t1)).alloc (.cells (icells zeroI) t2)).heap.size = w.heap.size + 2 := by simp
  refine ⟨((cells_at w (icells zeroI) t1).below (k1 _ _)).below (k1 _ _), ?_, ?_, bnext (bnext (k1 _ _) (k1 _ _)) (k1 _ _), hs⟩
  · have := (cells_at (w.alloc (.cells (icells zeroI) t1)) (icells zeroI) t2).below (k1 _ (.cells #[.string (bs s)] t3))
    rw [e1] at this
    exact this
  · have := cells_at ((w.alloc (.cells (icells zeroI) t1)).alloc (.cells (icells zeroI) t2)) #[.string (bs s)] t3
    rw [e2] at this
    exact this
/-- What the walk wants of the instruction's block and of the result's. -/
theorem Reading.facts {w wr : World} {op a b : Int} {ty cl nm r : List UInt8} (h : Reading w wr ⟨op, a, b, ty, cl, nm⟩ r) :
    ((wr.frozen? ⟨w.heap.size + 1, 0, none⟩ = false ∧ wr.frozen? ⟨w.heap.size + 1, 1, none⟩ = false ∧ wr.frozen? ⟨w.heap.size + 1, 2, none⟩ = false ∧ wr.frozen? ⟨w.heap.size + 1, 3, none⟩ = false ∧ wr.frozen? ⟨w.heap.size + 1, 4, none⟩ = false ∧ wr.frozen? ⟨w.heap.size + 1, 5, none⟩ = false) ∧
    (wr.frozen? ⟨w.heap.size, 0, none⟩ = false ∧ wr.frozen? ⟨w.heap.size, 1, none⟩ = false ∧ wr.frozen? ⟨w.heap.size, 2, none⟩ = false ∧ wr.frozen? ⟨w.heap.size, 3, none⟩ = false ∧ wr.frozen? ⟨w.heap.size, 4, none⟩ = false ∧ wr.frozen? ⟨w.heap.size, 5, none⟩ = false)) ∧
    (wr.cell? ⟨w.heap.size + 1, 0, none⟩ = some (.int .i64 op) ∧ wr.cell? ⟨w.heap.size + 1, 1, none⟩ = some (.int .i64 a) ∧ wr.cell? ⟨w.heap.size + 1, 2, none⟩ = some (.int .i64 b) ∧ wr.cell? ⟨w.heap.size + 1, 3, none⟩ = some (.string (bs ty)) ∧ wr.cell? ⟨w.heap.size + 1, 4, none⟩ = some (.string (bs cl)) ∧ wr.cell? ⟨w.heap.size + 1, 5, none⟩ = some (.string (bs nm))) ∧
    (wr.cell? ⟨w.heap.size, 0, none⟩ = some (.int .i64 0) ∧ wr.cell? ⟨w.heap.size, 1, none⟩ = some (.int .i64 0) ∧ wr.cell? ⟨w.heap.size, 2, none⟩ = some (.int .i64 0) ∧ wr.cell? ⟨w.heap.size, 3, none⟩ = some (.string ⟨#[]⟩) ∧ wr.cell? ⟨w.heap.size, 4, none⟩ = some (.string ⟨#[]⟩) ∧ wr.cell? ⟨w.heap.size, 5, none⟩ = some (.string ⟨#[]⟩)) :=
  ⟨⟨⟨h.2.1.frozen _, h.2.1.frozen _, h.2.1.frozen _, h.2.1.frozen _, h.2.1.frozen _, h.2.1.frozen _⟩, ⟨h.1.frozen _, h.1.frozen _, h.1.frozen _, h.1.frozen _, h.1.frozen _, h.1.frozen _⟩⟩,
   ⟨h.2.1.cell 0, h.2.1.cell 1, h.2.1.cell 2, h.2.1.cell 3, h.2.1.cell 4, h.2.1.cell 5⟩, ⟨h.1.cell 0, h.1.cell 1, h.1.cell 2, h.1.cell 3, h.1.cell 4, h.1.cell 5⟩⟩

theorem bset {B b j : Nat} {a w : World} {v : Value} (h : Below B a w) (hb : B ≤ b) : Below B a (w.setCell ⟨b, j, none⟩ v) := h.setCell (p := ⟨b, j, none⟩) hb v
theorem findN_lt (l : List UInt8) : findN l < 29 := by
  unfold findN
  cases h : ((List.range 29).drop 1).find? (fun k => opW k == l) with
  | none => decide
  | some k =>
    have := List.mem_of_find?_eq_some h
    have h29 : ∀ k ∈ (List.range 29).drop 1, k < 29 := by decide
    exact h29 k this
theorem read_eq (l : List UInt8) (k : Nat) (b0 b1 b2 b3 b4 : Bool) (hk : findN (wordL l) = k)
    (e0 : (opF k).testBit 0 = b0) (e1 : (opF k).testBit 1 = b1) (e2 : (opF k).testBit 2 = b2) (e3 : (opF k).testBit 3 = b3) (e4 : (opF k).testBit 4 = b4) :
    readM l = (let r0 := restL l
      let r1 := if b0 then restL r0 else r0
      let r2 := if b1 then restL r1 else r1
      let r3 := if b2 then restL r2 else r2
      let r4 := if b3 then restL r3 else r3
      ⟨k, if b0 then numM (wordL r0) else 0, if b1 then numM (wordL r1) else 0, if b2 then wordL r2 else [], if b3 then wordL r3 else [], if b4 then wordL r4 else []⟩) := by
  subst hk e0 e1 e2 e3 e4; rfl
set_option maxHeartbeats 4000000 in
set_option maxRecDepth 100000 in
theorem read_bits (l : List UInt8) (k : Nat) (hk : k < 29) (hf : findN (wordL l) = k) (w : World) (T : Tab w) (E : Errs w) (hl : l.length ≤ 140737488351232) (b0 b1 b2 b3 b4 : Bool)
    (e0 : (opF k).testBit 0 = b0) (e1 : (opF k).testBit 1 = b1) (e2 : (opF k).testBit 2 = b2) (e3 : (opF k).testBit 3 = b3) (e4 : (opF k).testBit 4 = b4)
    (hb : (b0, b1, b2, b3, b4) ∈ [(false, false, false, false, false), (true, false, false, false, false), (true, true, false, false, false), (false, false, true, false, false), (true, false, true, false, false), (false, false, false, true, false), (false, false, false, true, true), (false, false, true, true, true)]) :
    Calls Tryd.prog 47 #[.string (bs l)] w fun e w' => e = .returned (insV (readM l)) ∧ Below w.heap.size w w' := by
  have R := Lib.hid (read_eq l k _ _ _ _ _ hf e0 e1 e2 e3 e4)
  have H0 := fun w => has_any (opF k) (opF_lt hk) 0 (by decide) 1 rfl w
  have H1 := fun w => has_any (opF k) (opF_lt hk) 1 (by decide) 2 rfl w
  have H2 := fun w => has_any (opF k) (opF_lt hk) 2 (by decide) 4 rfl w
  have H3 := fun w => has_any (opF k) (opF_lt hk) 3 (by decide) 8 rfl w
  have H4 := fun w => has_any (opF k) (opF_lt hk) 4 (by decide) 16 rfl w
  rw [e0] at H0
  rw [e1] at H1
  rw [e2] at H2
  rw [e3] at H3
  rw [e4] at H4
  replace H0 := Lib.hid H0
  replace H1 := Lib.hid H1
  replace H2 := Lib.hid H2
  replace H3 := Lib.hid H3
  replace H4 := Lib.hid H4
  clear e0 e1 e2 e3 e4
  have HF := fun w T => find_any (wordL l) w T
  rw [hf] at HF
  replace HF := Lib.hid HF
  have HT := Lib.hid T
  have HE := Lib.hid E
  have HL := Lib.hid (show l.length ≤ 140737488355328 by omega)
  have HW := Lib.hid (fun r wr x (h : Reading w wr x r) => word_any2 (w.heap.size + 2) r wr h.rest h.restf h.len)
  have HN := Lib.hid (fun r wr x (h : Reading w wr x r) => number_any (w.heap.size + 2) r wr h.rest h.restf h.len (fun wn k hb => E.below (h.took k hb).bel))
  have HR := Lib.hid (reading_start w l (by omega) 27 27 83)
  have hkk : (k : Int) < 29 := by omega
  clear hl T E
  simp only [List.mem_cons, Prod.mk.injEq, List.not_mem_nil, or_false] at hb
  rcases hb with ⟨rfl, rfl, rfl, rfl, rfl⟩ | ⟨rfl, rfl, rfl, rfl, rfl⟩ | ⟨rfl, rfl, rfl, rfl, rfl⟩ | ⟨rfl, rfl, rfl, rfl, rfl⟩ | ⟨rfl, rfl, rfl, rfl, rfl⟩ | ⟨rfl, rfl, rfl, rfl, rfl⟩ | ⟨rfl, rfl, rfl, rfl, rfl⟩ | ⟨rfl, rfl, rfl, rfl, rfl⟩
  all_goals
    go_enter Tryd.func47, Tryd.ntmps47
    go_wp2_with (first
      | (go_at_call 57; (with_reducible refine (HW.out _ _ _ HR.out).mono ?_); rintro e w1 ⟨rfl, kk, hb⟩
         have HR := Lib.hid (HR.out.took kk hb)
         clear hb
         obtain ⟨⟨⟨f0, f1, f2, f3, f4, f5⟩, ⟨g0, g1, g2, g3, g4, g5⟩⟩, ⟨c0, c1, c2, c3, c4, c5⟩, ⟨d0, d1, d2, d3, d4, d5⟩⟩ := HR.out.facts)
      | (go_at_call 58; (with_reducible refine (HN.out _ _ _ HR.out).mono ?_); rintro e w1 ⟨rfl, kk, hb⟩
         have HR := Lib.hid (HR.out.took kk hb)
         clear hb
         obtain ⟨⟨⟨f0, f1, f2, f3, f4, f5⟩, ⟨g0, g1, g2, g3, g4, g5⟩⟩, ⟨c0, c1, c2, c3, c4, c5⟩, ⟨d0, d1, d2, d3, d4, d5⟩⟩ := HR.out.facts)
      | (go_at_call 56; (with_reducible refine (HF.out _ (HT.out.below HR.out.bel)).mono ?_); rintro e w1 ⟨rfl, rfl⟩
         have hT := (HT.out.below HR.out.bel k hk).2
         have hg := (HT.out.lt))
      | (go_at_call 43; first
          | (with_reducible refine (H0.out _).mono ?_); rintro e w1 ⟨rfl, hw1⟩; have HR := Lib.hid (HR.out.put0 hw1); clear hw1
            obtain ⟨⟨⟨f0, f1, f2, f3, f4, f5⟩, ⟨g0, g1, g2, g3, g4, g5⟩⟩, ⟨c0, c1, c2, c3, c4, c5⟩, ⟨d0, d1, d2, d3, d4, d5⟩⟩ := HR.out.facts
          | (with_reducible refine (H1.out _).mono ?_); rintro e w1 ⟨rfl, hw1⟩; first | (have HR := Lib.hid (HR.out.put1 hw1); clear hw1; obtain ⟨⟨⟨f0, f1, f2, f3, f4, f5⟩, ⟨g0, g1, g2, g3, g4, g5⟩⟩, ⟨c0, c1, c2, c3, c4, c5⟩, ⟨d0, d1, d2, d3, d4, d5⟩⟩ := HR.out.facts) | subst hw1
          | (with_reducible refine (H2.out _).mono ?_); rintro e w1 ⟨rfl, hw1⟩; first | (have HR := Lib.hid (HR.out.put2 hw1); clear hw1; obtain ⟨⟨⟨f0, f1, f2, f3, f4, f5⟩, ⟨g0, g1, g2, g3, g4, g5⟩⟩, ⟨c0, c1, c2, c3, c4, c5⟩, ⟨d0, d1, d2, d3, d4, d5⟩⟩ := HR.out.facts) | (have HR := Lib.hid (HR.out.put1 hw1); clear hw1; obtain ⟨⟨⟨f0, f1, f2, f3, f4, f5⟩, ⟨g0, g1, g2, g3, g4, g5⟩⟩, ⟨c0, c1, c2, c3, c4, c5⟩, ⟨d0, d1, d2, d3, d4, d5⟩⟩ := HR.out.facts) | subst hw1
          | (with_reducible refine (H3.out _).mono ?_); rintro e w1 ⟨rfl, hw1⟩; first | (have HR := Lib.hid (HR.out.put3 hw1); clear hw1; obtain ⟨⟨⟨f0, f1, f2, f3, f4, f5⟩, ⟨g0, g1, g2, g3, g4, g5⟩⟩, ⟨c0, c1, c2, c3, c4, c5⟩, ⟨d0, d1, d2, d3, d4, d5⟩⟩ := HR.out.facts) | subst hw1
          | (with_reducible refine (H4.out _).mono ?_); rintro e w1 ⟨rfl, hw1⟩; first | (have HR := Lib.hid (HR.out.put4 hw1); clear hw1; obtain ⟨⟨⟨f0, f1, f2, f3, f4, f5⟩, ⟨g0, g1, g2, g3, g4, g5⟩⟩, ⟨c0, c1, c2, c3, c4, c5⟩, ⟨d0, d1, d2, d3, d4, d5⟩⟩ := HR.out.facts) | subst hw1))
    refine bodyPost_ret (v := insV (readM l)) ?_ rfl ⟨rfl, ?_⟩
    · rw [R.out]
      clear HR HW HN H0 H1 H2 H3 H4 HF R HT HE
      simp [results, Tryd.results47, go_sem, insV, *]
    · have B := HR.out.bel
      clear HR HW HN H0 H1 H2 H3 H4 HF R HT HE
      repeat (first | with_reducible exact B | with_reducible refine bset ?_ (by omega))
theorem read_any (l : List UInt8) (w : World) (T : Tab w) (E : Errs w) (hl : l.length ≤ 140737488351232) : Calls Tryd.prog 47 #[.string (bs l)] w fun e w' => e = .returned (insV (readM l)) ∧ Below w.heap.size w w' :=
  read_bits l _ (findN_lt _) rfl w T E hl _ _ _ _ _ rfl rfl rfl rfl rfl (bits_all _ (findN_lt _))
end Go.Proofs.YthnilohilbacpaaDoor
