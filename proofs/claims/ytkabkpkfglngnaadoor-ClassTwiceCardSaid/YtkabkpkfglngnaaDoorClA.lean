/- A law's arguments as the call finds them: classes; the sizes that the statement grants. -/
import Derived.Test.YtkabkpkfglngnaaDoorClR
import Derived.Test.YtkabkpkfglngnaaDoorCoA
namespace Go.Proofs.YtkabkpkfglngnaaDoor
open Go.ChangeShapes Go.WideShapes Go.ChangeAt Go.RowKit
set_option linter.unusedVariables false

section
variable {H : Type} {enc : TypeId × Value → H} {W : World}
def strRel (x : List UInt8) (d : DataW H) : Prop := d = .lit (.string x)
def insRel (x : InsD) (d : DataW H) : Prop := d = insT x
def fieldRel (x : FieldD) (d : DataW H) : Prop := d = .agg [.lit (.string x.nm), .lit (.string x.ty)]
def handRel (x : HandD) (d : DataW H) : Prop := d = .agg [.lit (.int .i64 x.fr), .lit (.int .i64 x.tu), .lit (.int .i64 x.pos), .lit (.string x.cl)]
def methRel (m : MethD) (d : DataW H) : Prop := ∃ dc dh, d = .agg [.lit (.string m.nm), .lit (.string m.ty), .lit (.bool m.st), .lit (.bool m.ab), .lit (.bool m.pr), .lit (.int .i64 m.lo), dc, dh] ∧ relL insRel m.code dc ∧ relL handRel m.hs dh
def classRel (c : ClassD) (d : DataW H) : Prop := ∃ df dd dm, d = .agg [.lit (.string c.nm), .lit (.string c.su), df, .lit (.bool c.face), dd, dm] ∧ relL strRel c.faces df ∧ relL fieldRel c.fields dd ∧ relL methRel c.meths dm

section
variable {base : Nat} {sp : Nat → Bool} {held : Bool} {fuel : Nat} {cs : List Value} {d : DataW H} {p : List MemPlace} {b o : Nat}
theorem str_of (hc : ∀ i u, cs[i]? = some u → W.cell? ⟨b, o + i, none⟩ = some u) (h : DataW.trod enc Tryd.prog W base sp held fuel 9 cs = some (d, p)) : ∃ x : List UInt8, StrAt W b o x ∧ strRel x d ∧ True := by
  obtain ⟨s, rfl, hx, _⟩ := DataW.trod_string Tryd.underlying9 h
  exact ⟨s.data.toList, hc 0 _ rfl, congrArg Prod.fst hx, trivial⟩
theorem ins_of (hc : ∀ i u, cs[i]? = some u → W.cell? ⟨b, o + i, none⟩ = some u) (h : DataW.trod enc Tryd.prog W base sp held fuel 64 cs = some (d, p)) : ∃ x : InsD, InsAt W b o x ∧ insRel x d ∧ x.wf := by
  obtain ⟨x, rfl, h2, _, h4, _⟩ := ins_of_trod h
  exact ⟨x, insAt_of b o x hc, h2, h4⟩
set_option maxRecDepth 100000 in
theorem field_of (hc : ∀ i u, cs[i]? = some u → W.cell? ⟨b, o + i, none⟩ = some u) (h : DataW.trod enc Tryd.prog W base sp held fuel 36 cs = some (d, p)) : ∃ x : FieldD, FieldAt W b o x ∧ fieldRel x d ∧ True := by
  obtain ⟨xs, m, _, hx, hl, hxl, hf⟩ := DataW.trod_struct Tryd.underlying36 h
  rw [show Tryd.prog.cellsOf 36 = 2 by kernel_rfl] at hl
  have cs1 : Tryd.prog.cellsOf 9 = 1 := by kernel_rfl
  match cs, hl with
  | [v0, v1], _ =>
    match xs, hxl with
    | [x0, x1], _ =>
      have h0 : DataW.trod enc Tryd.prog W base sp held m 9 (List.take (Tryd.prog.cellsOf 9) (List.drop 0 [v0, v1])) = some x0 := hf 0 _ rfl
      have h1 : DataW.trod enc Tryd.prog W base sp held m 9 (List.take (Tryd.prog.cellsOf 9) (List.drop 1 [v0, v1])) = some x1 := hf 1 _ rfl
      simp only [cs1, List.drop_zero, List.drop_succ_cons, List.take_succ_cons, List.take_zero] at h0 h1
      obtain ⟨s0, e0, rfl, _⟩ := DataW.trod_string Tryd.underlying9 h0
      obtain ⟨s1, e1, rfl, _⟩ := DataW.trod_string Tryd.underlying9 h1
      simp only [List.cons.injEq, and_true] at e0 e1
      subst e0 e1
      exact ⟨⟨s0.data.toList, s1.data.toList⟩, ⟨hc 0 _ rfl, hc 1 _ rfl⟩, congrArg Prod.fst hx, trivial⟩
set_option maxRecDepth 100000 in
theorem hand_of (hc : ∀ i u, cs[i]? = some u → W.cell? ⟨b, o + i, none⟩ = some u) (h : DataW.trod enc Tryd.prog W base sp held fuel 77 cs = some (d, p)) : ∃ x : HandD, HandAt W b o x ∧ handRel x d ∧ x.wf := by
  obtain ⟨xs, m, _, hx, hl, hxl, hf⟩ := DataW.trod_struct Tryd.underlying77 h
  rw [show Tryd.prog.cellsOf 77 = 4 by kernel_rfl] at hl
  have cs1 : Tryd.prog.cellsOf 9 = 1 := by kernel_rfl
  have ci : Tryd.prog.cellsOf 3 = 1 := by kernel_rfl
  match cs, hl with
  | [v0, v1, v2, v3], _ =>
    match xs, hxl with
    | [x0, x1, x2, x3], _ =>
      have h0 : DataW.trod enc Tryd.prog W base sp held m 3 (List.take (Tryd.prog.cellsOf 3) (List.drop 0 [v0, v1, v2, v3])) = some x0 := hf 0 _ rfl
      have h1 : DataW.trod enc Tryd.prog W base sp held m 3 (List.take (Tryd.prog.cellsOf 3) (List.drop 1 [v0, v1, v2, v3])) = some x1 := hf 1 _ rfl
      have h2 : DataW.trod enc Tryd.prog W base sp held m 3 (List.take (Tryd.prog.cellsOf 3) (List.drop 2 [v0, v1, v2, v3])) = some x2 := hf 2 _ rfl
      have h3 : DataW.trod enc Tryd.prog W base sp held m 9 (List.take (Tryd.prog.cellsOf 9) (List.drop 3 [v0, v1, v2, v3])) = some x3 := hf 3 _ rfl
      simp only [cs1, ci, List.drop_zero, List.drop_succ_cons, List.take_succ_cons, List.take_zero] at h0 h1 h2 h3
      obtain ⟨a0, e0, rfl, w0⟩ := DataW.trod_int Tryd.underlying3 h0
      obtain ⟨a1, e1, rfl, w1⟩ := DataW.trod_int Tryd.underlying3 h1
      obtain ⟨a2, e2, rfl, w2⟩ := DataW.trod_int Tryd.underlying3 h2
      obtain ⟨s3, e3, rfl, _⟩ := DataW.trod_string Tryd.underlying9 h3
      simp only [List.cons.injEq, and_true] at e0 e1 e2 e3
      subst e0 e1 e2 e3
      exact ⟨⟨a0, a1, a2, s3.data.toList⟩, ⟨hc 0 _ rfl, hc 1 _ rfl, hc 2 _ rfl, hc 3 _ rfl⟩, congrArg Prod.fst hx, ⟨wf_i64 w0, wf_i64 w1, wf_i64 w2⟩⟩
theorem codes_of {fuel : Nat} {cs : List Value} {d : DataW H} {p : List MemPlace} (h : DataW.trod enc Tryd.prog W base sp held fuel 38 cs = some (d, p)) :
    ∃ A n c l, cs = [.slice A n c] ∧ InsRow W A n c l ∧ (A = none → n = 0 ∧ c = 0) ∧ relL insRel l d ∧ (∀ x ∈ l, x.wf) ∧ c ≤ maxLen :=
  open_rows Tryd.underlying38 (show Tryd.prog.cellsOf 64 = 6 by kernel_rfl) (by decide) InsAt insRel InsD.wf (fun _ _ _ _ _ _ hc h => ins_of hc h) h
theorem hands_of {fuel : Nat} {cs : List Value} {d : DataW H} {p : List MemPlace} (h : DataW.trod enc Tryd.prog W base sp held fuel 39 cs = some (d, p)) :
    ∃ A n c l, cs = [.slice A n c] ∧ HandRow W A n c l ∧ (A = none → n = 0 ∧ c = 0) ∧ relL handRel l d ∧ (∀ x ∈ l, x.wf) ∧ c ≤ maxLen :=
  open_rows Tryd.underlying39 (show Tryd.prog.cellsOf 77 = 4 by kernel_rfl) (by decide) HandAt handRel HandD.wf (fun _ _ _ _ _ _ hc h => hand_of hc h) h
theorem strs_of {fuel : Nat} {cs : List Value} {d : DataW H} {p : List MemPlace} (h : DataW.trod enc Tryd.prog W base sp held fuel 22 cs = some (d, p)) :
    ∃ A n c l, cs = [.slice A n c] ∧ StrRow W A n c l ∧ (A = none → n = 0 ∧ c = 0) ∧ relL strRel l d ∧ (∀ x ∈ l, True) ∧ c ≤ maxLen :=
  open_rows Tryd.underlying22 (show Tryd.prog.cellsOf 9 = 1 by kernel_rfl) (by decide) StrAt strRel (fun _ => True) (fun _ _ _ _ _ _ hc h => str_of hc h) h
theorem fields_of {fuel : Nat} {cs : List Value} {d : DataW H} {p : List MemPlace} (h : DataW.trod enc Tryd.prog W base sp held fuel 23 cs = some (d, p)) :
    ∃ A n c l, cs = [.slice A n c] ∧ FieldRow W A n c l ∧ (A = none → n = 0 ∧ c = 0) ∧ relL fieldRel l d ∧ (∀ x ∈ l, True) ∧ c ≤ maxLen :=
  open_rows Tryd.underlying23 (show Tryd.prog.cellsOf 36 = 2 by kernel_rfl) (by decide) FieldAt fieldRel (fun _ => True) (fun _ _ _ _ _ _ hc h => field_of hc h) h
set_option maxRecDepth 100000 in
theorem meth_of (hc : ∀ i u, cs[i]? = some u → W.cell? ⟨b, o + i, none⟩ = some u) (h : DataW.trod enc Tryd.prog W base sp held fuel 41 cs = some (d, p)) : ∃ x : MethD, MethAt W b o x ∧ methRel x d ∧ x.wf := by
  obtain ⟨xs, m, _, hx, hl, hxl, hf⟩ := DataW.trod_struct Tryd.underlying41 h
  rw [show Tryd.prog.cellsOf 41 = 8 by kernel_rfl] at hl
  have cs1 : Tryd.prog.cellsOf 9 = 1 := by kernel_rfl
  have ci : Tryd.prog.cellsOf 3 = 1 := by kernel_rfl
  have cb : Tryd.prog.cellsOf 4 = 1 := by kernel_rfl
  have cc : Tryd.prog.cellsOf 38 = 1 := by kernel_rfl
  have ch : Tryd.prog.cellsOf 39 = 1 := by kernel_rfl
  match cs, hl with
  | [v0, v1, v2, v3, v4, v5, v6, v7], _ =>
    match xs, hxl with
    | [x0, x1, x2, x3, x4, x5, x6, x7], _ =>
      have h0 : DataW.trod enc Tryd.prog W base sp held m 9 (List.take (Tryd.prog.cellsOf 9) (List.drop 0 [v0, v1, v2, v3, v4, v5, v6, v7])) = some x0 := hf 0 _ rfl
      have h1 : DataW.trod enc Tryd.prog W base sp held m 9 (List.take (Tryd.prog.cellsOf 9) (List.drop 1 [v0, v1, v2, v3, v4, v5, v6, v7])) = some x1 := hf 1 _ rfl
      have h2 : DataW.trod enc Tryd.prog W base sp held m 4 (List.take (Tryd.prog.cellsOf 4) (List.drop 2 [v0, v1, v2, v3, v4, v5, v6, v7])) = some x2 := hf 2 _ rfl
      have h3 : DataW.trod enc Tryd.prog W base sp held m 4 (List.take (Tryd.prog.cellsOf 4) (List.drop 3 [v0, v1, v2, v3, v4, v5, v6, v7])) = some x3 := hf 3 _ rfl
      have h4 : DataW.trod enc Tryd.prog W base sp held m 4 (List.take (Tryd.prog.cellsOf 4) (List.drop 4 [v0, v1, v2, v3, v4, v5, v6, v7])) = some x4 := hf 4 _ rfl
      have h5 : DataW.trod enc Tryd.prog W base sp held m 3 (List.take (Tryd.prog.cellsOf 3) (List.drop 5 [v0, v1, v2, v3, v4, v5, v6, v7])) = some x5 := hf 5 _ rfl
      have h6 : DataW.trod enc Tryd.prog W base sp held m 38 (List.take (Tryd.prog.cellsOf 38) (List.drop 6 [v0, v1, v2, v3, v4, v5, v6, v7])) = some x6 := hf 6 _ rfl
      have h7 : DataW.trod enc Tryd.prog W base sp held m 39 (List.take (Tryd.prog.cellsOf 39) (List.drop 7 [v0, v1, v2, v3, v4, v5, v6, v7])) = some x7 := hf 7 _ rfl
      simp only [cs1, ci, cb, cc, ch, List.drop_zero, List.drop_succ_cons, List.take_succ_cons, List.take_zero] at h0 h1 h2 h3 h4 h5 h6 h7
      obtain ⟨s0, e0, rfl, _⟩ := DataW.trod_string Tryd.underlying9 h0
      obtain ⟨s1, e1, rfl, _⟩ := DataW.trod_string Tryd.underlying9 h1
      obtain ⟨b2, e2, rfl⟩ := DataW.trod_bool Tryd.underlying4 h2
      obtain ⟨b3, e3, rfl⟩ := DataW.trod_bool Tryd.underlying4 h3
      obtain ⟨b4, e4, rfl⟩ := DataW.trod_bool Tryd.underlying4 h4
      obtain ⟨a5, e5, rfl, w5⟩ := DataW.trod_int Tryd.underlying3 h5
      obtain ⟨d6, p6⟩ := x6
      obtain ⟨d7, p7⟩ := x7
      obtain ⟨A6, n6, c6, l6, e6, r6, k6, q6, w6, _⟩ := codes_of h6
      obtain ⟨A7, n7, c7, l7, e7, r7, k7, q7, w7, _⟩ := hands_of h7
      simp only [List.cons.injEq, and_true] at e0 e1 e2 e3 e4 e5 e6 e7
      subst e0 e1 e2 e3 e4 e5 e6 e7
      exact ⟨⟨s0.data.toList, s1.data.toList, b2, b3, b4, a5, l6, l7⟩, ⟨hc 0 _ rfl, hc 1 _ rfl, hc 2 _ rfl, hc 3 _ rfl, hc 4 _ rfl, hc 5 _ rfl, ⟨A6, n6, c6, hc 6 _ rfl, r6, k6⟩, ⟨A7, n7, c7, hc 7 _ rfl, r7, k7⟩⟩,
        ⟨d6, d7, congrArg Prod.fst hx, q6, q7⟩, ⟨wf_i64 w5, w6, w7⟩⟩
theorem meths_of {fuel : Nat} {cs : List Value} {d : DataW H} {p : List MemPlace} (h : DataW.trod enc Tryd.prog W base sp held fuel 24 cs = some (d, p)) :
    ∃ A n c l, cs = [.slice A n c] ∧ MethRow W A n c l ∧ (A = none → n = 0 ∧ c = 0) ∧ relL methRel l d ∧ (∀ x ∈ l, x.wf) ∧ c ≤ maxLen :=
  open_rows Tryd.underlying24 (show Tryd.prog.cellsOf 41 = 8 by kernel_rfl) (by decide) MethAt methRel MethD.wf (fun _ _ _ _ _ _ hc h => meth_of hc h) h
set_option maxRecDepth 100000 in
/-- A class's six cells, read. -/
theorem class_parts (h : DataW.trod enc Tryd.prog W base sp held fuel 26 cs = some (d, p)) :
    ∃ (c : ClassD) (A B C : Option Addr) (i j k l m n : Nat), cs = [.string (bs c.nm), .string (bs c.su), .slice A i j, .bool c.face, .slice B k l, .slice C m n] ∧ StrRow W A i j c.faces ∧ FieldRow W B k l c.fields ∧ MethRow W C m n c.meths ∧
      (A = none → i = 0 ∧ j = 0) ∧ (B = none → k = 0 ∧ l = 0) ∧ (C = none → m = 0 ∧ n = 0) ∧ classRel c d ∧ c.wf := by
  obtain ⟨xs, m, _, hx, hl, hxl, hf⟩ := DataW.trod_struct Tryd.underlying26 h
  rw [show Tryd.prog.cellsOf 26 = 6 by kernel_rfl] at hl
  have cs1 : Tryd.prog.cellsOf 9 = 1 := by kernel_rfl
  have cb : Tryd.prog.cellsOf 4 = 1 := by kernel_rfl
  have c2 : Tryd.prog.cellsOf 22 = 1 := by kernel_rfl
  have c4 : Tryd.prog.cellsOf 23 = 1 := by kernel_rfl
  have c5 : Tryd.prog.cellsOf 24 = 1 := by kernel_rfl
  match cs, hl with
  | [v0, v1, v2, v3, v4, v5], _ =>
    match xs, hxl with
    | [x0, x1, x2, x3, x4, x5], _ =>
      have h0 : DataW.trod enc Tryd.prog W base sp held m 9 (List.take (Tryd.prog.cellsOf 9) (List.drop 0 [v0, v1, v2, v3, v4, v5])) = some x0 := hf 0 _ rfl
      have h1 : DataW.trod enc Tryd.prog W base sp held m 9 (List.take (Tryd.prog.cellsOf 9) (List.drop 1 [v0, v1, v2, v3, v4, v5])) = some x1 := hf 1 _ rfl
      have h2 : DataW.trod enc Tryd.prog W base sp held m 22 (List.take (Tryd.prog.cellsOf 22) (List.drop 2 [v0, v1, v2, v3, v4, v5])) = some x2 := hf 2 _ rfl
      have h3 : DataW.trod enc Tryd.prog W base sp held m 4 (List.take (Tryd.prog.cellsOf 4) (List.drop 3 [v0, v1, v2, v3, v4, v5])) = some x3 := hf 3 _ rfl
      have h4 : DataW.trod enc Tryd.prog W base sp held m 23 (List.take (Tryd.prog.cellsOf 23) (List.drop 4 [v0, v1, v2, v3, v4, v5])) = some x4 := hf 4 _ rfl
      have h5 : DataW.trod enc Tryd.prog W base sp held m 24 (List.take (Tryd.prog.cellsOf 24) (List.drop 5 [v0, v1, v2, v3, v4, v5])) = some x5 := hf 5 _ rfl
      simp only [cs1, cb, c2, c4, c5, List.drop_zero, List.drop_succ_cons, List.take_succ_cons, List.take_zero] at h0 h1 h2 h3 h4 h5
      obtain ⟨s0, e0, rfl, _⟩ := DataW.trod_string Tryd.underlying9 h0
      obtain ⟨s1, e1, rfl, _⟩ := DataW.trod_string Tryd.underlying9 h1
      obtain ⟨b3, e3, rfl⟩ := DataW.trod_bool Tryd.underlying4 h3
      obtain ⟨d2, p2⟩ := x2
      obtain ⟨d4, p4⟩ := x4
      obtain ⟨d5, p5⟩ := x5
      obtain ⟨A2, n2, m2, l2, e2, r2, k2, q2, _, _⟩ := strs_of h2
      obtain ⟨A4, n4, m4, l4, e4, r4, k4, q4, _, _⟩ := fields_of h4
      obtain ⟨A5, n5, m5, l5, e5, r5, k5, q5, w5, _⟩ := meths_of h5
      simp only [List.cons.injEq, and_true] at e0 e1 e2 e3 e4 e5
      subst e0 e1 e2 e3 e4 e5
      exact ⟨⟨s0.data.toList, s1.data.toList, l2, b3, l4, l5⟩, A2, A4, A5, n2, m2, n4, m4, n5, m5, rfl, r2, r4, r5, k2, k4, k5, ⟨d2, d4, d5, congrArg Prod.fst hx, q2, q4, q5⟩, w5⟩
theorem class_of (hc : ∀ i u, cs[i]? = some u → W.cell? ⟨b, o + i, none⟩ = some u) (h : DataW.trod enc Tryd.prog W base sp held fuel 26 cs = some (d, p)) : ∃ x : ClassD, ClassAt W b o x ∧ classRel x d ∧ x.wf := by
  obtain ⟨c, A, B, C, i, j, k, l, m, n, rfl, r1, r2, r3, k1, k2, k3, hr, hw⟩ := class_parts h
  exact ⟨c, ⟨hc 0 _ rfl, hc 1 _ rfl, ⟨A, i, j, hc 2 _ rfl, r1, k1⟩, hc 3 _ rfl, ⟨B, k, l, hc 4 _ rfl, r2, k2⟩, ⟨C, m, n, hc 5 _ rfl, r3, k3⟩⟩, hr, hw⟩
end
set_option maxRecDepth 100000 in
theorem arg_class {r : Reach} {base : Nat} {v : Value} {d : DataW H} {ps : List MemPlace} (hval : Value.okWide Tryd.prog W r base 26 v) (h : DataW.Trod enc Tryd.prog W 0 (fun _ => true) true 26 v d ps) :
    ∃ (c : ClassD) (A B C : Option Addr) (i j k l m n : Nat), v = classV c A i j B k l C m n ∧ StrRow W A i j c.faces ∧ FieldRow W B k l c.fields ∧ MethRow W C m n c.meths ∧
      (A = none → i = 0 ∧ j = 0) ∧ (B = none → k = 0 ∧ l = 0) ∧ (C = none → m = 0 ∧ n = 0) ∧ classRel c d ∧ c.wf := by
  obtain ⟨cs, rfl, _⟩ := okWide_struct Tryd.underlying26 hval
  obtain ⟨fuel, hf⟩ := h
  obtain ⟨c, A, B, C, i, j, k, l, m, n, h1, rest⟩ := class_parts hf
  refine ⟨c, A, B, C, i, j, k, l, m, n, ?_, rest⟩
  obtain ⟨x⟩ := cs
  exact congrArg (fun l : List Value => Value.agg l.toArray) (show x = _ from h1)

/-! The sizes that the statement grants. -/
section
variable {R : Nat}
theorem sizes_lit {t : TypeId} {s : List UInt8} (h : ∀ n ∈ DataW.weights Tryd.prog t (.lit (.string s) : DataW H), n ≤ R) : s.length ≤ R := by
  simp only [DataW.weights, List.mem_singleton] at h
  exact h _ rfl
theorem sizes_ins {x : InsD} {d : DataW H} (hr : insRel x d) (h : ∀ n ∈ DataW.weights Tryd.prog 64 d, n ≤ R) : x.upto R := by
  subst hr
  have hw : DataW.weights Tryd.prog 64 (insT x : DataW H) = [x.ty.length, x.cl.length, x.nm.length] := by
    simp only [DataW.weights, insT, Tryd.underlying64]
    rfl
  rw [hw] at h
  exact ⟨h _ (by simp), h _ (by simp), h _ (by simp)⟩
theorem sizes_field {x : FieldD} {d : DataW H} (hr : fieldRel x d) (h : ∀ n ∈ DataW.weights Tryd.prog 36 d, n ≤ R) : x.upto R := by
  subst hr
  have hw : DataW.weights Tryd.prog 36 (.agg [.lit (.string x.nm), .lit (.string x.ty)] : DataW H) = [x.nm.length, x.ty.length] := by
    simp only [DataW.weights, Tryd.underlying36]
    rfl
  rw [hw] at h
  exact ⟨h _ (by simp), h _ (by simp)⟩
theorem sizes_hand {x : HandD} {d : DataW H} (hr : handRel x d) (h : ∀ n ∈ DataW.weights Tryd.prog 77 d, n ≤ R) : x.upto R := by
  subst hr
  have hw : DataW.weights Tryd.prog 77 (.agg [.lit (.int .i64 x.fr), .lit (.int .i64 x.tu), .lit (.int .i64 x.pos), .lit (.string x.cl)] : DataW H) = [x.cl.length] := by
    simp only [DataW.weights, Tryd.underlying77]
    rfl
  rw [hw] at h
  exact h _ (by simp)
theorem count_le {k b : Nat} (h : k * b ≤ R) (hb : 0 < b) : k ≤ R := Nat.le_trans (Nat.le_mul_of_pos_right _ hb) h
theorem sizes_meth {x : MethD} {d : DataW H} (hr : methRel x d) (h : ∀ n ∈ DataW.weights Tryd.prog 41 d, n ≤ R) : x.upto R := by
  obtain ⟨dc, dh, rfl, hc, hh⟩ := hr
  have hw : DataW.weights Tryd.prog 41 (.agg [.lit (.string x.nm), .lit (.string x.ty), .lit (.bool x.st), .lit (.bool x.ab), .lit (.bool x.pr), .lit (.int .i64 x.lo), dc, dh] : DataW H) =
      x.nm.length :: x.ty.length :: (DataW.weights Tryd.prog 38 dc ++ (DataW.weights Tryd.prog 39 dh ++ [])) := by
    simp only [DataW.weights, Tryd.underlying41]
    rfl
  rw [hw] at h
  simp only [List.append_nil, List.mem_cons, List.mem_append] at h
  obtain ⟨c1, c2⟩ := sizes_rows Tryd.underlying38 (fun n hn => h n (.inr (.inr (.inl hn)))) hc (Q := fun x => x.upto R) (fun x d' h1 h2 => sizes_ins h1 h2)
  obtain ⟨g1, g2⟩ := sizes_rows Tryd.underlying39 (fun n hn => h n (.inr (.inr (.inr hn)))) hh (Q := fun x => x.upto R) (fun x d' h1 h2 => sizes_hand h1 h2)
  exact ⟨h _ (.inl rfl), h _ (.inr (.inl rfl)), ⟨c1, count_le c2 (by rw [show Tryd.prog.bytesOf 64 = 72 by kernel_rfl]; decide)⟩, g1, count_le g2 (by rw [show Tryd.prog.bytesOf 77 = 40 by kernel_rfl]; decide)⟩
theorem sizes_class {x : ClassD} {d : DataW H} (hr : classRel x d) (h : ∀ n ∈ DataW.weights Tryd.prog 26 d, n ≤ R) : x.upto R := by
  obtain ⟨df, dd, dm, rfl, hf, hd, hm⟩ := hr
  have hw : DataW.weights Tryd.prog 26 (.agg [.lit (.string x.nm), .lit (.string x.su), df, .lit (.bool x.face), dd, dm] : DataW H) =
      x.nm.length :: x.su.length :: (DataW.weights Tryd.prog 22 df ++ (DataW.weights Tryd.prog 23 dd ++ (DataW.weights Tryd.prog 24 dm ++ []))) := by
    simp only [DataW.weights, Tryd.underlying26]
    rfl
  rw [hw] at h
  simp only [List.append_nil, List.mem_cons, List.mem_append] at h
  obtain ⟨c1, c2⟩ := sizes_rows Tryd.underlying22 (fun n hn => h n (.inr (.inr (.inl hn)))) hf (Q := fun x => x.length ≤ R) (fun x d' h1 h2 => by subst h1; exact sizes_lit h2)
  obtain ⟨g1, g2⟩ := sizes_rows Tryd.underlying23 (fun n hn => h n (.inr (.inr (.inr (.inl hn))))) hd (Q := fun x => x.upto R) (fun x d' h1 h2 => sizes_field h1 h2)
  obtain ⟨m1, m2⟩ := sizes_rows Tryd.underlying24 (fun n hn => h n (.inr (.inr (.inr (.inr hn))))) hm (Q := fun x => x.upto R) (fun x d' h1 h2 => sizes_meth h1 h2)
  exact ⟨h _ (.inl rfl), h _ (.inr (.inl rfl)), ⟨c1, count_le c2 (by rw [show Tryd.prog.bytesOf 9 = 16 by kernel_rfl]; decide)⟩, ⟨g1, count_le g2 (by rw [show Tryd.prog.bytesOf 36 = 32 by kernel_rfl]; decide)⟩, m1, count_le m2 (by rw [show Tryd.prog.bytesOf 41 = 96 by kernel_rfl]; decide)⟩
theorem reach_class {ts : List TypeId} {ds : List (DataW H)} {d : DataW H} (h : (DataW.weightsEach Tryd.prog ts ds).all (· ≤ reachBytes) = true) (j : Nat) {c : ClassD} (ht : ts[j]? = some 26) (hd : ds[j]? = some d) (hc : classRel c d) : c.upto 140737488351232 :=
  sizes_class hc fun n hn => Nat.le_trans (of_decide_eq_true (List.all_eq_true.1 h n (DataW.weights_mem_each ht hd n hn))) (by decide)
theorem bulk_ins {x : InsD} {d : DataW H} (hr : insRel x d) (h : Rows.uptoBulk d ≤ R) : x.upto R := by
  subst hr
  simp only [insT, Rows.uptoBulk, Rows.uptoBulkAll] at h
  exact ⟨by omega, by omega, by omega⟩
theorem bulk_field {x : FieldD} {d : DataW H} (hr : fieldRel x d) (h : Rows.uptoBulk d ≤ R) : x.upto R := by
  subst hr
  simp only [Rows.uptoBulk, Rows.uptoBulkAll] at h
  exact ⟨by omega, by omega⟩
theorem bulk_hand {x : HandD} {d : DataW H} (hr : handRel x d) (h : Rows.uptoBulk d ≤ R) : x.upto R := by
  subst hr
  simp only [Rows.uptoBulk, Rows.uptoBulkAll] at h
  unfold HandD.upto
  omega
theorem bulk_meth {x : MethD} {d : DataW H} (hr : methRel x d) (h : Rows.uptoBulk d ≤ R) : x.upto R := by
  obtain ⟨dc, dh, rfl, hc, hh⟩ := hr
  simp only [Rows.uptoBulk, Rows.uptoBulkAll] at h
  exact ⟨by omega, by omega, bulk_rows (M := R) (by omega) hc (Q := fun x => x.upto R) (fun x d' h1 h2 => bulk_ins h1 h2), bulk_rows (M := R) (by omega) hh (Q := fun x => x.upto R) (fun x d' h1 h2 => bulk_hand h1 h2)⟩
theorem bulk_class {x : ClassD} {d : DataW H} (hr : classRel x d) (h : Rows.uptoBulk d ≤ R) : x.upto R := by
  obtain ⟨df, dd, dm, rfl, hf, hd, hm⟩ := hr
  simp only [Rows.uptoBulk, Rows.uptoBulkAll] at h
  exact ⟨by omega, by omega, bulk_rows (M := R) (by omega) hf (Q := fun x => x.length ≤ R) (fun x d' h1 h2 => by subst h1; simp only [Rows.uptoBulk] at h2; omega), bulk_rows (M := R) (by omega) hd (Q := fun x => x.upto R) (fun x d' h1 h2 => bulk_field h1 h2),
    bulk_rows (M := R) (by omega) hm (Q := fun x => x.upto R) (fun x d' h1 h2 => bulk_meth h1 h2)⟩
theorem upto_class {ds : List (DataW H)} {d : DataW H} (hk : Rows.uptoSmall H ds = true) (j : Nat) {c : ClassD} (hd : ds[j]? = some d) (hc : classRel c d) : c.upto 1048576 := bulk_class hc (upto_part hk hd)
end
end
end Go.Proofs.YtkabkpkfglngnaaDoor
