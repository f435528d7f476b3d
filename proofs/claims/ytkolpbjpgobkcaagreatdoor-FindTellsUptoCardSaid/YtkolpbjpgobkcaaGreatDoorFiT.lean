/- The walk of coffeehouselaw2.FindTells, from what package find says. -/
import Derived.Test.YtkolpbjpgobkcaaGreatDoorFiS
namespace Go.Proofs.YtkolpbjpgobkcaaGreatDoor
open Go.ChangeShapes Go.WideShapes Go.ChangeAt Go.RowKit
set_option linter.unusedVariables false
attribute [local go_sem] eqGuard_errV_nil eqGuard_errV_iface eql_errV_nil neq_errV_nil eql_errV_form

/-- A block of two cells that may be written. -/
def Two (w : World) (g : Nat) (x y : Value) : Prop := g < w.heap.size ∧ w.cell? ⟨g, 0, none⟩ = some x ∧ w.cell? ⟨g, 1, none⟩ = some y ∧ w.frozen? ⟨g, 0, none⟩ = false ∧ w.frozen? ⟨g, 1, none⟩ = false
theorem two_at {w : World} {x y : Value} {t : TypeId} {b : Nat} (hb : b = w.heap.size) : Two (w.alloc (.cells #[x, y] t)) b x y := by
  subst hb
  exact ⟨by simp, World.cell?_alloc_mark .., World.cell?_alloc_mark .., frozen_at .., frozen_at ..⟩
theorem Two.below {w w' : World} {g : Nat} {x y : Value} (h : Two w g x y) (hb : Below w.heap.size w w') : Two w' g x y := by
  obtain ⟨h0, h1, h2, h3, h4⟩ := h
  exact ⟨Nat.lt_of_lt_of_le h0 hb.size, (hb.cell (by exact h0)).trans h1, (hb.cell (by exact h0)).trans h2, (hb.frozen (by exact h0)).trans h3, (hb.frozen (by exact h0)).trans h4⟩
theorem laid8_eq {w : World} {t : TypeId} {b : Nat} (hb : b = w.heap.size) : Laid8 (w.alloc (.cells #[.string ⟨#[]⟩, .string ⟨#[]⟩, .bool false, .bool false, .bool false, .int .i64 0, .slice none 0 0, .slice none 0 0] t)) b := by
  subst hb
  exact laid8_at w t
theorem cell_oth {w : World} {p a : Addr} {v : Value} (h : p ≠ a) : (w.setCell p v).cell? a = w.cell? a := by
  apply World.cell?_setCell_other
  exact h
theorem cell_sam {w : World} {a : Addr} {u v : Value} (h : w.cell? a = some u) : (w.setCell a v).cell? a = some v := by
  apply World.cell?_setCell_same
  exact h
theorem ne_addr {g h j k : Nat} (e : h ≠ g) : (⟨h, j, none⟩ : Addr) ≠ ⟨g, k, none⟩ := fun x => e (by injection x)
theorem Two.far {w : World} {g h j : Nat} {x y v : Value} (t : Two w g x y) (e : h ≠ g) : Two (w.setCell ⟨h, j, none⟩ v) g x y := by
  obtain ⟨h0, h1, h2, h3, h4⟩ := t
  exact ⟨by simp [World.setCell]; exact h0, (cell_oth (ne_addr e)).trans h1, (cell_oth (ne_addr e)).trans h2, by simpa using h3, by simpa using h4⟩
theorem Two.put {w : World} {g : Nat} {x y u v : Value} (t : Two w g x y) : Two ((w.setCell ⟨g, 0, none⟩ u).setCell ⟨g, 1, none⟩ v) g u v := by
  obtain ⟨h0, h1, h2, h3, h4⟩ := t
  have n : (⟨g, 0, none⟩ : Addr) ≠ ⟨g, 1, none⟩ := fun x => by injection x; omega
  exact ⟨by simp [World.setCell]; exact h0, (cell_oth n.symm).trans (cell_sam h1), cell_sam ((cell_oth n).trans h2), by simpa using h3, by simpa using h4⟩
theorem Laid8.far {w : World} {g h j : Nat} {v : Value} (t : Laid8 w g) (e : h ≠ g) : Laid8 (w.setCell ⟨h, j, none⟩ v) g := by
  obtain ⟨h0, h1, h2, h3, h4, h5, h6, h7, h8, f1, f2, f3, f4, f5, f6, f7, f8⟩ := t
  have F := fun {k : Nat} {x : Option Value} (q : w.cell? ⟨g, k, none⟩ = x) => (cell_oth (v := v) (ne_addr (j := j) (k := k) e)).trans q
  exact ⟨by simp [World.setCell]; exact h0, F h1, F h2, F h3, F h4, F h5, F h6, F h7, F h8, by simpa using f1, by simpa using f2, by simpa using f3, by simpa using f4, by simpa using f5, by simpa using f6, by simpa using f7, by simpa using f8⟩
theorem Cells.far {w : World} {g h j : Nat} {v : Value} {vs : Array Value} (t : Cells w g vs) (e : h ≠ g) : Cells (w.setCell ⟨h, j, none⟩ v) g vs := ⟨by simp [World.setCell]; exact t.1, fun k => (cell_oth (ne_addr e)).trans (t.2 k)⟩
theorem fsame_self (q : Nat) (w : World) : Calls Tryz.prog 10 #[errV q, .int .i64 (q : Int)] w fun e w' => e = .returned (.bool true) ∧ w = w' :=
  (sameError_any q q w).mono fun _ _ ⟨h1, h2⟩ => ⟨by rw [h1]; simp, h2⟩
theorem fsame_zero (w : World) : Calls Tryz.prog 10 #[errV 0, .int .i64 0] w fun e w' => e = .returned (.bool true) ∧ w = w' := fsame_self 0 w
theorem fsame_three (w : World) : Calls Tryz.prog 10 #[errV 3, .int .i64 3] w fun e w' => e = .returned (.bool true) ∧ w = w' := fsame_self 3 w
theorem fsame_nil (w : World) : Calls Tryz.prog 10 #[.nilIface, .int .i64 0] w fun e w' => e = .returned (.bool true) ∧ w = w' := fsame_self 0 w
/-- An error is as it was told: a call that is stated to keep the memory, not to leave the world alone. -/
theorem fsame_on {u v : Value} (h : ∀ w, Calls Tryz.prog 10 #[u, v] w fun e w' => e = .returned (.bool true) ∧ w = w') (w : World) : Calls Tryz.prog 10 #[u, v] w fun e w' => e = .returned (.bool true) ∧ Below w.heap.size w w' :=
  (h w).mono fun _ _ ⟨h1, h2⟩ => ⟨h1, by rw [← h2]; exact Below.refl _ _⟩
theorem Cells.put {w : World} {g k : Nat} {v : Value} {vs : Array Value} (t : Cells w g vs) (hk : k < vs.size) : Cells (w.setCell ⟨g, k, none⟩ v) g (vs.set k v hk) := by
  refine ⟨by simp [World.setCell]; exact t.1, fun j => ?_⟩
  by_cases e : k = j
  · subst e
    rw [Array.getElem?_set_self]
    exact cell_sam ((t.2 k).trans (Array.getElem?_eq_getElem hk))
  · rw [Array.getElem?_set_ne hk e]
    exact (cell_oth (fun x => by injection x; exact e ‹_›)).trans (t.2 j)
theorem cells_two {w : World} {g : Nat} {z0 z1 z2 z3 z4 z5 z6 z7 c d : Value} (h : Cells w g #[z0, z1, z2, z3, z4, z5, z6, z7]) :
    Cells ((w.setCell ⟨g, 6, none⟩ c).setCell ⟨g, 7, none⟩ d) g #[z0, z1, z2, z3, z4, z5, c, d] := by
  have h1 := h.put (k := 6) (v := c) (by decide : 6 < 8)
  exact h1.put (k := 7) (v := d) (by decide : 7 < 8)
theorem cells_eight {w : World} {g : Nat} {z0 z1 z2 z3 z4 z5 z6 z7 a0 a1 a2 a3 a4 a5 a6 a7 : Value} (h : Cells w g #[z0, z1, z2, z3, z4, z5, z6, z7]) :
    Cells ((((((((w.setCell ⟨g, 0, none⟩ a0).setCell ⟨g, 1, none⟩ a1).setCell ⟨g, 2, none⟩ a2).setCell ⟨g, 3, none⟩ a3).setCell ⟨g, 4, none⟩ a4).setCell ⟨g, 5, none⟩ a5).setCell ⟨g, 6, none⟩ a6).setCell ⟨g, 7, none⟩ a7) g #[a0, a1, a2, a3, a4, a5, a6, a7] := by
  have h0 := h.put (k := 0) (v := a0) (by decide : 0 < 8)
  have h1 := h0.put (k := 1) (v := a1) (by decide : 1 < 8)
  have h2 := h1.put (k := 2) (v := a2) (by decide : 2 < 8)
  have h3 := h2.put (k := 3) (v := a3) (by decide : 3 < 8)
  have h4 := h3.put (k := 4) (v := a4) (by decide : 4 < 8)
  have h5 := h4.put (k := 5) (v := a5) (by decide : 5 < 8)
  have h6 := h5.put (k := 6) (v := a6) (by decide : 6 < 8)
  exact h6.put (k := 7) (v := a7) (by decide : 7 < 8)
theorem Two.ten {w w9 : World} {g h : Nat} {x y : Value} {a0 a1 a2 a3 a4 a5 a6 a7 c d : Value} (t : Two w g x y) (e : h ≠ g) (hb : Below ((((((((((w.setCell ⟨h, 0, none⟩ a0).setCell ⟨h, 1, none⟩ a1).setCell ⟨h, 2, none⟩ a2).setCell ⟨h, 3, none⟩ a3).setCell ⟨h, 4, none⟩ a4).setCell ⟨h, 5, none⟩ a5).setCell ⟨h, 6, none⟩ a6).setCell ⟨h, 7, none⟩ a7).setCell ⟨h, 6, none⟩ c).setCell ⟨h, 7, none⟩ d).heap.size ((((((((((w.setCell ⟨h, 0, none⟩ a0).setCell ⟨h, 1, none⟩ a1).setCell ⟨h, 2, none⟩ a2).setCell ⟨h, 3, none⟩ a3).setCell ⟨h, 4, none⟩ a4).setCell ⟨h, 5, none⟩ a5).setCell ⟨h, 6, none⟩ a6).setCell ⟨h, 7, none⟩ a7).setCell ⟨h, 6, none⟩ c).setCell ⟨h, 7, none⟩ d) w9) : Two w9 g x y :=
  (((((((((((t.far e).far e).far e).far e).far e).far e).far e).far e).far e).far e)).below hb
theorem Cells.ten {w w9 : World} {g h : Nat} {vs : Array Value} {a0 a1 a2 a3 a4 a5 a6 a7 c d : Value} (t : Cells w g vs) (e : h ≠ g) (hb : Below ((((((((((w.setCell ⟨h, 0, none⟩ a0).setCell ⟨h, 1, none⟩ a1).setCell ⟨h, 2, none⟩ a2).setCell ⟨h, 3, none⟩ a3).setCell ⟨h, 4, none⟩ a4).setCell ⟨h, 5, none⟩ a5).setCell ⟨h, 6, none⟩ a6).setCell ⟨h, 7, none⟩ a7).setCell ⟨h, 6, none⟩ c).setCell ⟨h, 7, none⟩ d).heap.size ((((((((((w.setCell ⟨h, 0, none⟩ a0).setCell ⟨h, 1, none⟩ a1).setCell ⟨h, 2, none⟩ a2).setCell ⟨h, 3, none⟩ a3).setCell ⟨h, 4, none⟩ a4).setCell ⟨h, 5, none⟩ a5).setCell ⟨h, 6, none⟩ a6).setCell ⟨h, 7, none⟩ a7).setCell ⟨h, 6, none⟩ c).setCell ⟨h, 7, none⟩ d) w9) : Cells w9 g vs :=
  (((((((((((t.far e).far e).far e).far e).far e).far e).far e).far e).far e).far e)).below hb
theorem cells_ten {w w9 : World} {h : Nat} {z0 z1 z2 z3 z4 z5 z6 z7 : Value} {a0 a1 a2 a3 a4 a5 a6 a7 c d : Value} (t : Cells w h #[z0, z1, z2, z3, z4, z5, z6, z7]) (hb : Below ((((((((((w.setCell ⟨h, 0, none⟩ a0).setCell ⟨h, 1, none⟩ a1).setCell ⟨h, 2, none⟩ a2).setCell ⟨h, 3, none⟩ a3).setCell ⟨h, 4, none⟩ a4).setCell ⟨h, 5, none⟩ a5).setCell ⟨h, 6, none⟩ a6).setCell ⟨h, 7, none⟩ a7).setCell ⟨h, 6, none⟩ c).setCell ⟨h, 7, none⟩ d).heap.size ((((((((((w.setCell ⟨h, 0, none⟩ a0).setCell ⟨h, 1, none⟩ a1).setCell ⟨h, 2, none⟩ a2).setCell ⟨h, 3, none⟩ a3).setCell ⟨h, 4, none⟩ a4).setCell ⟨h, 5, none⟩ a5).setCell ⟨h, 6, none⟩ a6).setCell ⟨h, 7, none⟩ a7).setCell ⟨h, 6, none⟩ c).setCell ⟨h, 7, none⟩ d) w9) : Cells w9 h #[a0, a1, a2, a3, a4, a5, c, d] :=
  (cells_two (cells_eight t)).below hb
theorem below_ten {w0 w w9 : World} {B h : Nat} {a0 a1 a2 a3 a4 a5 a6 a7 c d : Value} (t : Below B w0 w) (e : B ≤ h) (hb : Below ((((((((((w.setCell ⟨h, 0, none⟩ a0).setCell ⟨h, 1, none⟩ a1).setCell ⟨h, 2, none⟩ a2).setCell ⟨h, 3, none⟩ a3).setCell ⟨h, 4, none⟩ a4).setCell ⟨h, 5, none⟩ a5).setCell ⟨h, 6, none⟩ a6).setCell ⟨h, 7, none⟩ a7).setCell ⟨h, 6, none⟩ c).setCell ⟨h, 7, none⟩ d).heap.size ((((((((((w.setCell ⟨h, 0, none⟩ a0).setCell ⟨h, 1, none⟩ a1).setCell ⟨h, 2, none⟩ a2).setCell ⟨h, 3, none⟩ a3).setCell ⟨h, 4, none⟩ a4).setCell ⟨h, 5, none⟩ a5).setCell ⟨h, 6, none⟩ a6).setCell ⟨h, 7, none⟩ a7).setCell ⟨h, 6, none⟩ c).setCell ⟨h, 7, none⟩ d) w9) (hB : B ≤ w.heap.size) : Below B w0 w9 :=
  (bput_ (bput_ (bput_ (bput_ (bput_ (bput_ (bput_ (bput_ (bput_ (bput_ t e) e) e) e) e) e) e) e) e) e).trans (hb.mono (by simpa [World.setCell] using hB))
theorem Two.two {w w9 : World} {g h : Nat} {x y c d : Value} (t : Two w g x y) (e : h ≠ g) (hb : Below ((w.setCell ⟨h, 6, none⟩ c).setCell ⟨h, 7, none⟩ d).heap.size ((w.setCell ⟨h, 6, none⟩ c).setCell ⟨h, 7, none⟩ d) w9) : Two w9 g x y := ((t.far e).far e).below hb
theorem Cells.two {w w9 : World} {g h : Nat} {vs : Array Value} {c d : Value} (t : Cells w g vs) (e : h ≠ g) (hb : Below ((w.setCell ⟨h, 6, none⟩ c).setCell ⟨h, 7, none⟩ d).heap.size ((w.setCell ⟨h, 6, none⟩ c).setCell ⟨h, 7, none⟩ d) w9) : Cells w9 g vs := ((t.far e).far e).below hb
theorem below_two {w0 w w9 : World} {B h : Nat} {c d : Value} (t : Below B w0 w) (e : B ≤ h) (hb : Below ((w.setCell ⟨h, 6, none⟩ c).setCell ⟨h, 7, none⟩ d).heap.size ((w.setCell ⟨h, 6, none⟩ c).setCell ⟨h, 7, none⟩ d) w9) (hB : B ≤ w.heap.size) : Below B w0 w9 :=
  (bput_ (bput_ t e) e).trans (hb.mono (by simpa [World.setCell] using hB))
/-- What is found among the fields, by the program and by the reference. -/
theorem two_fields (KF : FindFields) {l : List ClassD} {q : Nat} (hq : WorldIs l q) {y z : List UInt8} {A : Option Addr} {n m : Nat} (NA : A = none → n = 0 ∧ m = 0) (hu : ∀ x ∈ l, x.upto 1048576) (hw : ∀ x ∈ l, x.wf) (hn : n ≤ 1048576) (hy : y.length ≤ 1048576) (hz : z.length ≤ 1048576)
    (h0 : namedQ l q y = 0) {s : List (List UInt8)} (hs : Chain l y s) (hs12 : s.length ≤ 12) :
    ∃ (n1 : List UInt8) (f1 : FieldD) (i1 : Bool), (∀ W, Tab W → ClassRow W A n m l → Calls Tryz.prog 6 #[.slice A n m, .string (bs y), .string (bs z)] W fun e w' => e = .returned (.tuple #[.string (bs n1), .agg #[.string (bs f1.nm), .string (bs f1.ty)], if i1 = true then .nilIface else errV 3]) ∧ Below W.heap.size W w') ∧
      (∀ W, ClassRow W A n m l → Calls Tryz.prog 8 #[.slice A n m, .string (bs y), .string (bs z)] W fun e w' => e = .returned (.tuple #[.string (bs n1), .agg #[.string (bs f1.nm), .string (bs f1.ty)], .bool i1]) ∧ Below W.heap.size W w') := by
  have hu2 : ∀ x ∈ l, x.upto 140737488351232 := fun x hx => (hu x hx).more (by decide)
  have HF := fun W T R => KF l q y z (fieldFirst l z s) A n m W hq ⟨fun _ => ⟨s, hs, rfl⟩, fun h => absurd h0 h⟩ T R NA hu2 hw (by omega) (by omega) (by omega)
  have HR := fun W R => rfieldOf_any l y z s hs A n m W R (by omega) (by omega) (fun x _ => (classD_len hu x).1)
  cases ho : fieldFirst l z s with
  | none =>
    rw [ho] at HF HR
    exact ⟨[], zeroF, false, fun W T R => (HF W T R).mono fun e w' ⟨h1, h2⟩ => ⟨by rw [h1, foundQ_none h0]; rfl, h2⟩, fun W R => (HR W R).mono fun e w' ⟨h1, h2⟩ => ⟨by rw [h1]; rfl, h2⟩⟩
  | some r =>
    rw [ho] at HF HR
    exact ⟨r.1, r.2, true, fun W T R => (HF W T R).mono fun e w' ⟨h1, h2⟩ => ⟨by rw [h1, foundQ_some h0]; rfl, h2⟩, fun W R => (HR W R).mono fun e w' ⟨h1, h2⟩ => ⟨by rw [h1]; rfl, h2⟩⟩
/-- .. among the methods. -/
theorem two_meths (KM : FindMeths) {l : List ClassD} {q : Nat} (hq : WorldIs l q) (hV : Valid l) {y z u : List UInt8} (hky : knownB l y = true) {A : Option Addr} {n m : Nat} (NA : A = none → n = 0 ∧ m = 0) (hu : ∀ x ∈ l, x.upto 1048576) (hw : ∀ x ∈ l, x.wf) (hn : n ≤ 1048576) (hy : y.length ≤ 1048576) (hz : z.length ≤ 1048576) (hk : u.length ≤ 1048576)
    (h0 : namedQ l q y = 0) {s ev : List (List UInt8)} (hs : Chain l y s) (hev : Sorted l y ev) (hs12 : s.length ≤ 12) :
    ∃ (n2 : List UInt8) (m2 : MethD) (i2 : Bool), (∀ W, Tab W → ClassRow W A n m l → Calls Tryz.prog 7 #[.slice A n m, .string (bs y), .string (bs z), .string (bs u)] W fun e w' => ∃ A4 c4 B4 d4, e = .returned (.tuple #[.string (bs n2), .agg #[.string (bs m2.nm), .string (bs m2.ty), .bool m2.st, .bool m2.ab, .bool m2.pr, .int .i64 m2.lo, .slice A4 0 c4, .slice B4 0 d4], if i2 = true then .nilIface else errV 3]) ∧ Below W.heap.size W w') ∧
      (∀ W, ClassRow W A n m l → Calls Tryz.prog 9 #[.slice A n m, .string (bs y), .string (bs z), .string (bs u)] W fun e w' => ∃ A5 i5 j5 B5 k5 l5, e = .returned (.tuple #[.string (bs n2), .agg #[.string (bs m2.nm), .string (bs m2.ty), .bool m2.st, .bool m2.ab, .bool m2.pr, .int .i64 m2.lo, .slice A5 i5 j5, .slice B5 k5 l5], .bool i2]) ∧ Below W.heap.size W w') := by
  have hu2 : ∀ x ∈ l, x.upto 140737488351232 := fun x hx => (hu x hx).more (by decide)
  have HF := fun W T R => KM l q y z u (foundFirst l z u s ev) A n m W hq ⟨fun _ => ⟨s, ev, hs, hev, rfl⟩, fun h => absurd h0 h⟩ T R NA hu2 hw (by omega) (by omega) (by omega) (by omega)
  have HR := fun W R => rfound_any l hV y z u hky s ev hs hev A n m W R (by omega) (by omega) (fun x => (classD_len hu x).2)
  cases ho : foundFirst l z u s ev with
  | none =>
    rw [ho] at HF HR
    exact ⟨[], zeroM, false, fun W T R => (HF W T R).mono fun e w' ⟨v, h1, ⟨A4, c4, B4, d4, hv⟩, h2⟩ => ⟨A4, c4, B4, d4, by rw [h1, hv, foundQ_none h0]; rfl, h2⟩, fun W R => (HR W R).mono fun e w' ⟨v, h1, ⟨A5, i5, j5, B5, k5, l5, hv⟩, h2⟩ => ⟨A5, i5, j5, B5, k5, l5, by rw [h1, hv]; rfl, h2⟩⟩
  | some r =>
    rw [ho] at HF HR
    exact ⟨r.1, r.2, true, fun W T R => (HF W T R).mono fun e w' ⟨v, h1, ⟨A4, c4, B4, d4, hv⟩, h2⟩ => ⟨A4, c4, B4, d4, by rw [h1, hv, foundQ_some h0]; rfl, h2⟩, fun W R => (HR W R).mono fun e w' ⟨v, h1, ⟨A5, i5, j5, B5, k5, l5, hv⟩, h2⟩ => ⟨A5, i5, j5, B5, k5, l5, by rw [h1, hv]; rfl, h2⟩⟩
set_option maxRecDepth 20000 in
set_option maxHeartbeats 16000000 in
theorem findTells_good (KF : FindFields) (KM : FindMeths) (l : List ClassD) (q : Nat) (hq : WorldIs l q) (y z u : List UInt8) (A : Option Addr) (n m : Nat) (w : World) (T : Tab w) (R : ClassRow w A n m l) (NA : A = none → n = 0 ∧ m = 0) (hu : ∀ x ∈ l, x.upto 1048576) (hw : ∀ x ∈ l, x.wf) (hn : n ≤ 1048576) (hy : y.length ≤ 1048576) (hz : z.length ≤ 1048576) (hk : u.length ≤ 1048576) (h0 : namedQ l q y = 0) :
    Calls Tryz.prog 3 #[.slice A n m, .string (bs y), .string (bs z), .string (bs u)] w fun e w' => e = .returned (.bool true) ∧ Below w.heap.size w w' := by
  have HFo := Lib.hid (fun W T => found_any KF W T)
  have HRn := fun W R => rnamed_any l q hq y A n m W R hu hw (by omega)
  have HMe := Lib.hid (fun m v u hv hu W => methNone m v u hv hu W)
  have HT := Lib.hid T
  have HR := Lib.hid R
  obtain ⟨hq0, hky⟩ := namedQ_zero.1 h0
  have hV : Valid l := worldIs_zero (by rw [hq0] at hq; exact hq)
  obtain ⟨s, hs, hs12⟩ := chain_is hV hky
  obtain ⟨ev, hev⟩ := sorted_is hV hky
  obtain ⟨n1, f1, i1, HFf, HRf⟩ := two_fields KF (z := z) hq NA hu hw hn hy hz h0 hs hs12
  obtain ⟨n2, m2, i2, HFm, HRm⟩ := two_meths KM (z := z) (u := u) hq hV hky NA hu hw hn hy hz hk h0 hs hev hs12
  rw [h0] at HRn
  have HMe := Lib.hid (show ∀ A4 c4 B4 d4 W, Calls Tryz.prog 11 #[.agg #[.string (bs m2.nm), .string (bs m2.ty), .bool m2.st, .bool m2.ab, .bool m2.pr, .int .i64 m2.lo, .slice A4 0 c4, .slice B4 0 d4], .agg #[.string (bs m2.nm), .string (bs m2.ty), .bool m2.st, .bool m2.ab, .bool m2.pr, .int .i64 m2.lo, .slice none 0 0, .slice none 0 0]] W (fun e w' => e = .returned (.bool true) ∧ Below W.heap.size W w') from fun A4 c4 B4 d4 W => HMe.out m2 _ _ ⟨A4, c4, B4, d4, rfl⟩ ⟨none, 0, none, 0, rfl⟩ W)
  have HSz := Lib.hid fsame_nil
  have HSt := Lib.hid fsame_three
  have HOz := Lib.hid (fun w => fsame_on fsame_nil w)
  have HOt := Lib.hid (fun w => fsame_on fsame_three w)
  have e1 : ((bs n1).toList == (bs n1).toList) = true := by simp
  have e2 : ((bs n2).toList == (bs n2).toList) = true := by simp
  have e3 : ((bs f1.nm).toList == (bs f1.nm).toList) = true := by simp
  have e4 : ((bs f1.ty).toList == (bs f1.ty).toList) = true := by simp
  have tok := Lib.hid True.intro
  clear hq hu hw KF KM T R NA hV hs hev hky h0 hq0 hn hy hz hk hs12
  cases i1 <;> cases i2
  all_goals
    simp only [Bool.false_eq_true, ↓reduceIte] at HFf HFm
    replace HFf := Lib.hid HFf
    replace HFm := Lib.hid HFm
    replace HRf := Lib.hid HRf
    replace HRm := Lib.hid HRm
    replace HRn := Lib.hid HRn
    go_enter Tryz.func3, Tryz.ntmps3
    go_wp2_with (first
      | (go_at_call 4; (with_reducible refine (HFo.out _ HT.out).mono ?_); rintro e w1 ⟨rfl, hb⟩
         have HB1 := Lib.hid hb
         clear hb)
      | (go_at_call 5; (with_reducible refine (HRn.out _ (ClassRow.below HR.out HB1.out)).mono ?_); rintro e w2 ⟨rfl, hb⟩
         have HB2 := Lib.hid (bnext HB1.out hb)
         clear hb)
      | (go_at_call 6; (with_reducible refine (HFf.out _ (HT.out.below HB2.out) (ClassRow.below HR.out HB2.out)).mono ?_); rintro e w3 ⟨rfl, hb⟩
         have hb3 := bnext HB2.out hb
         have HB3 := Lib.hid (hb3.alloc hb3.size (.cells #[.string (bs f1.nm), .string (bs f1.ty)] 27))
         clear hb hb3)
      | (go_at_call 7; (with_reducible refine (HFm.out _ (HT.out.below HB3.out) (ClassRow.below HR.out HB3.out)).mono ?_); rintro e w4 ⟨A4, c4, B4, d4, rfl, hb⟩
         have hb4 := bnext HB3.out hb
         have hx4 := (show Two (w3.alloc (.cells #[.string (bs f1.nm), .string (bs f1.ty)] 27)) w3.heap.size (.string (bs f1.nm)) (.string (bs f1.ty)) from two_at rfl).below hb
         have HX4 := Lib.hid (((hx4.below (al1 _ (.cells #[.string (bs m2.nm), .string (bs m2.ty), .bool m2.st, .bool m2.ab, .bool m2.pr, .int .i64 m2.lo, .slice A4 0 c4, .slice B4 0 d4] 35))).below (al1 _ (.cells #[.string ⟨#[]⟩, .string ⟨#[]⟩] 27))).below (al1 _ (.cells #[.string ⟨#[]⟩, .string ⟨#[]⟩, .bool false, .bool false, .bool false, .int .i64 0, .slice none 0 0, .slice none 0 0] 35)))
         have HY4 := Lib.hid (show Two (((w4.alloc (.cells #[.string (bs m2.nm), .string (bs m2.ty), .bool m2.st, .bool m2.ab, .bool m2.pr, .int .i64 m2.lo, .slice A4 0 c4, .slice B4 0 d4] 35)).alloc (.cells #[.string ⟨#[]⟩, .string ⟨#[]⟩] 27)).alloc (.cells #[.string ⟨#[]⟩, .string ⟨#[]⟩, .bool false, .bool false, .bool false, .int .i64 0, .slice none 0 0, .slice none 0 0] 35)) (w4.heap.size + 1) (.string ⟨#[]⟩) (.string ⟨#[]⟩) from (two_at (by simp)).below (al1 _ _))
         have HM4 := Lib.hid (((cells_at w4 #[.string (bs m2.nm), .string (bs m2.ty), .bool m2.st, .bool m2.ab, .bool m2.pr, .int .i64 m2.lo, .slice A4 0 c4, .slice B4 0 d4] 35).below (al1 _ (.cells #[.string ⟨#[]⟩, .string ⟨#[]⟩] 27))).below (al1 _ (.cells #[.string ⟨#[]⟩, .string ⟨#[]⟩, .bool false, .bool false, .bool false, .int .i64 0, .slice none 0 0, .slice none 0 0] 35)))
         have HN4 := Lib.hid (show Cells (((w4.alloc (.cells #[.string (bs m2.nm), .string (bs m2.ty), .bool m2.st, .bool m2.ab, .bool m2.pr, .int .i64 m2.lo, .slice A4 0 c4, .slice B4 0 d4] 35)).alloc (.cells #[.string ⟨#[]⟩, .string ⟨#[]⟩] 27)).alloc (.cells #[.string ⟨#[]⟩, .string ⟨#[]⟩, .bool false, .bool false, .bool false, .int .i64 0, .slice none 0 0, .slice none 0 0] 35)) (w4.heap.size + 1 + 1) #[.string ⟨#[]⟩, .string ⟨#[]⟩, .bool false, .bool false, .bool false, .int .i64 0, .slice none 0 0, .slice none 0 0] from by
           have := cells_at ((w4.alloc (.cells #[.string (bs m2.nm), .string (bs m2.ty), .bool m2.st, .bool m2.ab, .bool m2.pr, .int .i64 m2.lo, .slice A4 0 c4, .slice B4 0 d4] 35)).alloc (.cells #[.string ⟨#[]⟩, .string ⟨#[]⟩] 27)) #[.string ⟨#[]⟩, .string ⟨#[]⟩, .bool false, .bool false, .bool false, .int .i64 0, .slice none 0 0, .slice none 0 0] 35
           simpa using this)
         have hz4 : w3.heap.size + 1 ≤ w4.heap.size := by have := hb.size; simpa using this
         have hz0 : w.heap.size ≤ w3.heap.size + 1 := by have := HB3.out.size; simpa using this
         have HL4 := Lib.hid (show Laid8 (((w4.alloc (.cells #[.string (bs m2.nm), .string (bs m2.ty), .bool m2.st, .bool m2.ab, .bool m2.pr, .int .i64 m2.lo, .slice A4 0 c4, .slice B4 0 d4] 35)).alloc (.cells #[.string ⟨#[]⟩, .string ⟨#[]⟩] 27)).alloc (.cells #[.string ⟨#[]⟩, .string ⟨#[]⟩, .bool false, .bool false, .bool false, .int .i64 0, .slice none 0 0, .slice none 0 0] 35)) (w4.heap.size + 1 + 1) from laid8_eq (by simp))
         have HB4 := Lib.hid (show Below w.heap.size w (((w4.alloc (.cells #[.string (bs m2.nm), .string (bs m2.ty), .bool m2.st, .bool m2.ab, .bool m2.pr, .int .i64 m2.lo, .slice A4 0 c4, .slice B4 0 d4] 35)).alloc (.cells #[.string ⟨#[]⟩, .string ⟨#[]⟩] 27)).alloc (.cells #[.string ⟨#[]⟩, .string ⟨#[]⟩, .bool false, .bool false, .bool false, .int .i64 0, .slice none 0 0, .slice none 0 0] 35)) from bal_ (bal_ (bal_ hb4 hb4.size) (by have := hb4.size; simp; omega)) (by have := hb4.size; simp; omega))
         clear hb hb4 hx4)
      | (go_at_call 8; (with_reducible refine (HRf.out _ (ClassRow.below HR.out HB4.out)).mono ?_); rintro e w5 ⟨rfl, hb⟩
         have hy5 := HY4.out.below hb
         have HY5 := Lib.hid (hy5.put (u := .string (bs f1.nm)) (v := .string (bs f1.ty)))
         have HX5 := Lib.hid (((HX4.out.below hb).far (h := w4.heap.size + 1) (j := 0) (v := .string (bs f1.nm)) (by omega)).far (h := w4.heap.size + 1) (j := 1) (v := .string (bs f1.ty)) (by omega))
         have HM5 := Lib.hid (((HM4.out.below hb).far (h := w4.heap.size + 1) (j := 0) (v := .string (bs f1.nm)) (by omega)).far (h := w4.heap.size + 1) (j := 1) (v := .string (bs f1.ty)) (by omega))
         have HN5 := Lib.hid (((HN4.out.below hb).far (h := w4.heap.size + 1) (j := 0) (v := .string (bs f1.nm)) (by omega)).far (h := w4.heap.size + 1) (j := 1) (v := .string (bs f1.ty)) (by omega))
         have HL5 := Lib.hid (((HL4.out.below hb).far (h := w4.heap.size + 1) (j := 0) (v := .string (bs f1.nm)) (by omega)).far (h := w4.heap.size + 1) (j := 1) (v := .string (bs f1.ty)) (by omega))
         have HB5 := Lib.hid (bput_ (j := 1) (v := .string (bs f1.ty)) (bput_ (b := w4.heap.size + 1) (j := 0) (v := .string (bs f1.nm)) (bnext HB4.out hb) (by omega)) (show w.heap.size ≤ w4.heap.size + 1 by omega))
         obtain ⟨y0, y1, y2, y3, y4⟩ := hy5
         clear hb)
      | (go_at_call 9; (with_reducible refine (HRm.out _ (ClassRow.below HR.out HB5.out)).mono ?_); rintro e w6 ⟨A5, i5, j5, B5, k5, l5, rfl, hb⟩
         have HB6 := Lib.hid (bnext HB5.out hb)
         have HX6 := Lib.hid (HX5.out.below hb)
         have HY6 := Lib.hid (HY5.out.below hb)
         have HM6 := Lib.hid (HM5.out.below hb)
         have HN6 := Lib.hid (HN5.out.below hb)
         obtain ⟨g0, g1, g2, g3, g4, g5, g6, g7, g8, h1, h2, h3, h4, h5, h6, h7, h8⟩ := HL5.out.below hb
         clear hb)
      | (go_at_call 10; (first | (with_reducible refine (HOz.out _).mono ?_) | (with_reducible refine (HOt.out _).mono ?_)); rintro e w9 ⟨rfl, hb⟩
         clear tok
         have hz6 := HB6.out.size
         have HX9 := Lib.hid (HX6.out.ten (h := w4.heap.size + 1 + 1) (by omega) hb)
         have HY9 := Lib.hid (HY6.out.ten (h := w4.heap.size + 1 + 1) (by omega) hb)
         have HB9 := Lib.hid (below_ten HB6.out (h := w4.heap.size + 1 + 1) (by omega) hb hz6)
         obtain ⟨p0, p1, p2, p3, p4, p5, p6, p7⟩ := (HM6.out.ten (h := w4.heap.size + 1 + 1) (by omega) hb).get8
         obtain ⟨k0, k1, k2, k3, k4, k5, k6, k7⟩ := (cells_ten HN6.out hb).get8
         clear hb g0 g1 g2 g3 g4 g5 g6 g7 g8 h1 h2 h3 h4 h5 h6 h7 h8 y0 y1 y2 y3 y4)
      | (go_at_call 10; (first | (with_reducible refine (HSz.out _).mono ?_) | (with_reducible refine (HSt.out _).mono ?_)); rintro e w10 ⟨rfl, rfl⟩)
      | (go_at_call 11; (with_reducible refine (HMe.out _ _ _ _ _).mono ?_); rintro e w11 ⟨rfl, hb⟩
         have HB11 := Lib.hid (bnext HB9.out hb)
         obtain ⟨x0, x1, x2, x3, x4⟩ := HX9.out.below hb
         obtain ⟨v0, v1, v2, v3, v4⟩ := HY9.out.below hb
         clear hb))
    go_ret
    exact ⟨rfl, HB11.out⟩
set_option maxRecDepth 20000 in
set_option maxHeartbeats 16000000 in
theorem findTells_bad (KF : FindFields) (KM : FindMeths) (l : List ClassD) (q : Nat) (hq : WorldIs l q) (y z u : List UInt8) (A : Option Addr) (n m : Nat) (w : World) (T : Tab w) (R : ClassRow w A n m l) (NA : A = none → n = 0 ∧ m = 0) (hu : ∀ x ∈ l, x.upto 1048576) (hw : ∀ x ∈ l, x.wf) (hn : n ≤ 1048576) (hy : y.length ≤ 1048576) (hz : z.length ≤ 1048576) (hk : u.length ≤ 1048576) (h0 : namedQ l q y ≠ 0) :
    Calls Tryz.prog 3 #[.slice A n m, .string (bs y), .string (bs z), .string (bs u)] w fun e w' => e = .returned (.bool true) ∧ Below w.heap.size w w' := by
  have hu2 : ∀ x ∈ l, x.upto 140737488351232 := fun x hx => (hu x hx).more (by decide)
  have HFo := Lib.hid (fun W T => found_any KF W T)
  have HRn := Lib.hid (fun W R => rnamed_any l q hq y A n m W R hu hw (by omega))
  have HMe := Lib.hid (fun m v u hv hu W => methNone m v u hv hu W)
  have HT := Lib.hid T
  have HR := Lib.hid R
  have HFf := Lib.hid (show ∀ W, Tab W → ClassRow W A n m l → Calls Tryz.prog 6 #[.slice A n m, .string (bs y), .string (bs z)] W (fun e w' => e = .returned (.tuple #[.string ⟨#[]⟩, .agg #[.string ⟨#[]⟩, .string ⟨#[]⟩], errV (namedQ l q y)]) ∧ Below W.heap.size W w') from fun W T R => (KF l q y z none A n m W hq ⟨fun h => absurd h h0, fun _ => rfl⟩ T R NA hu2 hw (by omega) (by omega) (by omega)).mono fun e w' ⟨h1, h2⟩ => ⟨by rw [h1, foundQ_bad h0]; rfl, h2⟩)
  have HFm := Lib.hid (show ∀ W, Tab W → ClassRow W A n m l → Calls Tryz.prog 7 #[.slice A n m, .string (bs y), .string (bs z), .string (bs u)] W (fun e w' => ∃ A4 c4 B4 d4, e = .returned (.tuple #[.string ⟨#[]⟩, .agg #[.string ⟨#[]⟩, .string ⟨#[]⟩, .bool false, .bool false, .bool false, .int .i64 0, .slice A4 0 c4, .slice B4 0 d4], errV (namedQ l q y)]) ∧ Below W.heap.size W w') from fun W T R => (KM l q y z u none A n m W hq ⟨fun h => absurd h h0, fun _ => rfl⟩ T R NA hu2 hw (by omega) (by omega) (by omega) (by omega)).mono fun e w' ⟨v, h1, ⟨A4, c4, B4, d4, hv⟩, h2⟩ => ⟨A4, c4, B4, d4, by rw [h1, hv, foundQ_bad h0]; rfl, h2⟩)
  have HMe := Lib.hid (show ∀ A4 c4 B4 d4 W, Calls Tryz.prog 11 #[.agg #[.string ⟨#[]⟩, .string ⟨#[]⟩, .bool false, .bool false, .bool false, .int .i64 0, .slice A4 0 c4, .slice B4 0 d4], .agg #[.string ⟨#[]⟩, .string ⟨#[]⟩, .bool false, .bool false, .bool false, .int .i64 0, .slice none 0 0, .slice none 0 0]] W (fun e w' => e = .returned (.bool true) ∧ Below W.heap.size W w') from fun A4 c4 B4 d4 W => HMe.out zeroM _ _ ⟨A4, c4, B4, d4, rfl⟩ ⟨none, 0, none, 0, rfl⟩ W)
  have hne : (((namedQ l q y : Nat) : Int) == 0) = false := by rw [beq_eq_false_iff_ne]; omega
  have tok := Lib.hid True.intro
  clear hq hu hu2 hw KF KM T R NA h0 hn hy hz hk
  generalize namedQ l q y = q3 at *
  have HSe := Lib.hid (fun w => fsame_self q3 w)
  have HOe := Lib.hid (fun w => fsame_on (fsame_self q3) w)
  go_enter Tryz.func3, Tryz.ntmps3
  go_wp2_with (first
    | (go_at_call 4; (with_reducible refine (HFo.out _ HT.out).mono ?_); rintro e w1 ⟨rfl, hb⟩
       have HB1 := Lib.hid hb
       clear hb)
    | (go_at_call 5; (with_reducible refine (HRn.out _ (ClassRow.below HR.out HB1.out)).mono ?_); rintro e w2 ⟨rfl, hb⟩
       have HB2 := Lib.hid (bnext HB1.out hb)
       clear hb)
    | (go_at_call 6; (with_reducible refine (HFf.out _ (HT.out.below HB2.out) (ClassRow.below HR.out HB2.out)).mono ?_); rintro e w3 ⟨rfl, hb⟩
       have hb3 := bnext HB2.out hb
       have HB3 := Lib.hid (hb3.alloc hb3.size (.cells #[.string ⟨#[]⟩, .string ⟨#[]⟩] 27))
       clear hb hb3)
    | (go_at_call 7; (with_reducible refine (HFm.out _ (HT.out.below HB3.out) (ClassRow.below HR.out HB3.out)).mono ?_); rintro e w4 ⟨A4, c4, B4, d4, rfl, hb⟩
       have hb4 := bnext HB3.out hb
       have hx4 := (show Two (w3.alloc (.cells #[.string ⟨#[]⟩, .string ⟨#[]⟩] 27)) w3.heap.size (.string ⟨#[]⟩) (.string ⟨#[]⟩) from two_at rfl).below hb
       have HX4 := Lib.hid (((hx4.below (al1 _ (.cells #[.string ⟨#[]⟩, .string ⟨#[]⟩, .bool false, .bool false, .bool false, .int .i64 0, .slice A4 0 c4, .slice B4 0 d4] 35))).below (al1 _ (.cells #[.string ⟨#[]⟩, .string ⟨#[]⟩] 27))).below (al1 _ (.cells #[.string ⟨#[]⟩, .string ⟨#[]⟩, .bool false, .bool false, .bool false, .int .i64 0, .slice none 0 0, .slice none 0 0] 35)))
       have HY4 := Lib.hid (show Two (((w4.alloc (.cells #[.string ⟨#[]⟩, .string ⟨#[]⟩, .bool false, .bool false, .bool false, .int .i64 0, .slice A4 0 c4, .slice B4 0 d4] 35)).alloc (.cells #[.string ⟨#[]⟩, .string ⟨#[]⟩] 27)).alloc (.cells #[.string ⟨#[]⟩, .string ⟨#[]⟩, .bool false, .bool false, .bool false, .int .i64 0, .slice none 0 0, .slice none 0 0] 35)) (w4.heap.size + 1) (.string ⟨#[]⟩) (.string ⟨#[]⟩) from (two_at (by simp)).below (al1 _ _))
       have HM4 := Lib.hid (((cells_at w4 #[.string ⟨#[]⟩, .string ⟨#[]⟩, .bool false, .bool false, .bool false, .int .i64 0, .slice A4 0 c4, .slice B4 0 d4] 35).below (al1 _ (.cells #[.string ⟨#[]⟩, .string ⟨#[]⟩] 27))).below (al1 _ (.cells #[.string ⟨#[]⟩, .string ⟨#[]⟩, .bool false, .bool false, .bool false, .int .i64 0, .slice none 0 0, .slice none 0 0] 35)))
       have HN4 := Lib.hid (show Cells (((w4.alloc (.cells #[.string ⟨#[]⟩, .string ⟨#[]⟩, .bool false, .bool false, .bool false, .int .i64 0, .slice A4 0 c4, .slice B4 0 d4] 35)).alloc (.cells #[.string ⟨#[]⟩, .string ⟨#[]⟩] 27)).alloc (.cells #[.string ⟨#[]⟩, .string ⟨#[]⟩, .bool false, .bool false, .bool false, .int .i64 0, .slice none 0 0, .slice none 0 0] 35)) (w4.heap.size + 1 + 1) #[.string ⟨#[]⟩, .string ⟨#[]⟩, .bool false, .bool false, .bool false, .int .i64 0, .slice none 0 0, .slice none 0 0] from by
         have := cells_at ((w4.alloc (.cells #[.string ⟨#[]⟩, .string ⟨#[]⟩, .bool false, .bool false, .bool false, .int .i64 0, .slice A4 0 c4, .slice B4 0 d4] 35)).alloc (.cells #[.string ⟨#[]⟩, .string ⟨#[]⟩] 27)) #[.string ⟨#[]⟩, .string ⟨#[]⟩, .bool false, .bool false, .bool false, .int .i64 0, .slice none 0 0, .slice none 0 0] 35
         simpa using this)
       have hz4 : w3.heap.size + 1 ≤ w4.heap.size := by have := hb.size; simpa using this
       have hz0 : w.heap.size ≤ w3.heap.size + 1 := by have := HB3.out.size; simpa using this
       have HB4 := Lib.hid (show Below w.heap.size w (((w4.alloc (.cells #[.string ⟨#[]⟩, .string ⟨#[]⟩, .bool false, .bool false, .bool false, .int .i64 0, .slice A4 0 c4, .slice B4 0 d4] 35)).alloc (.cells #[.string ⟨#[]⟩, .string ⟨#[]⟩] 27)).alloc (.cells #[.string ⟨#[]⟩, .string ⟨#[]⟩, .bool false, .bool false, .bool false, .int .i64 0, .slice none 0 0, .slice none 0 0] 35)) from bal_ (bal_ (bal_ hb4 hb4.size) (by have := hb4.size; simp; omega)) (by have := hb4.size; simp; omega))
       obtain ⟨g0, g1, g2, g3, g4, g5, g6, g7, g8, h1, h2, h3, h4, h5, h6, h7, h8⟩ := (show Laid8 (((w4.alloc (.cells #[.string ⟨#[]⟩, .string ⟨#[]⟩, .bool false, .bool false, .bool false, .int .i64 0, .slice A4 0 c4, .slice B4 0 d4] 35)).alloc (.cells #[.string ⟨#[]⟩, .string ⟨#[]⟩] 27)).alloc (.cells #[.string ⟨#[]⟩, .string ⟨#[]⟩, .bool false, .bool false, .bool false, .int .i64 0, .slice none 0 0, .slice none 0 0] 35)) (w4.heap.size + 1 + 1) from laid8_eq (by simp))
       clear hb hb4 hx4)
    | (go_at_call 10; (with_reducible refine (HOe.out _).mono ?_); rintro e w9 ⟨rfl, hb⟩
       clear tok
       have hz6 := HB4.out.size
       have HX9 := Lib.hid (HX4.out.below hb)
       have HY9 := Lib.hid (HY4.out.below hb)
       have HB9 := Lib.hid (bnext HB4.out hb)
       obtain ⟨p0, p1, p2, p3, p4, p5, p6, p7⟩ := (HM4.out.below hb).get8
       obtain ⟨k0, k1, k2, k3, k4, k5, k6, k7⟩ := (HN4.out.below hb).get8
       clear hb g0 g1 g2 g3 g4 g5 g6 g7 g8 h1 h2 h3 h4 h5 h6 h7 h8)
    | (go_at_call 10; (with_reducible refine (HSe.out _).mono ?_); rintro e w10 ⟨rfl, rfl⟩)
    | (go_at_call 11; (with_reducible refine (HMe.out _ _ _ _ _).mono ?_); rintro e w11 ⟨rfl, hb⟩
       have HB11 := Lib.hid (bnext HB9.out hb)
       obtain ⟨x0, x1, x2, x3, x4⟩ := HX9.out.below hb
       obtain ⟨v0, v1, v2, v3, v4⟩ := HY9.out.below hb
       clear hb))
  go_ret
  exact ⟨rfl, HB11.out⟩
theorem findTells_walk (KF : FindFields) (KM : FindMeths) (l : List ClassD) (y z u : List UInt8) (A : Option Addr) (n m : Nat) (w : World) (T : Tab w) (R : ClassRow w A n m l) (NA : A = none → n = 0 ∧ m = 0) (hu : ∀ x ∈ l, x.upto 1048576) (hw : ∀ x ∈ l, x.wf) (hn : n ≤ 1048576) (hy : y.length ≤ 1048576) (hz : z.length ≤ 1048576) (hk : u.length ≤ 1048576) :
    Calls Tryz.prog 3 #[.slice A n m, .string (bs y), .string (bs z), .string (bs u)] w fun e w' => e = .returned (.bool true) ∧ Below w.heap.size w w' := by
  obtain ⟨q, hq⟩ := world_is l
  by_cases h0 : namedQ l q y = 0
  · exact findTells_good KF KM l q hq y z u A n m w T R NA hu hw hn hy hz hk h0
  · exact findTells_bad KF KM l q hq y z u A n m w T R NA hu hw hn hy hz hk h0
end Go.Proofs.YtkolpbjpgobkcaaGreatDoor
