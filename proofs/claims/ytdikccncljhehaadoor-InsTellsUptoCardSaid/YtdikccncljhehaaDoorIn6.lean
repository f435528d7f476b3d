/- The contract of ins.Parse. -/
import Derived.Test.YtdikccncljhehaaDoorIn5
import Derived.Lib.AtoiAllCases
namespace Go.Proofs.YtdikccncljhehaaDoor
open Go.ChangeShapes Go.WideShapes Go.ChangeAt Go.RowKit
set_option linter.unusedVariables false
attribute [local go_sem] eqGuard_errV_nil eqGuard_errV_iface eql_errV_nil neq_errV_nil eql_errV_form

theorem numM_wf (l : List UInt8) : i64B (numM l) := by
  unfold numM
  rcases h : Lib.atoiAll l with v | _ | _
  · exact Lib.atoiAll_bounds h
  · exact (by unfold i64B; decide : i64B 0)
  · exact Lib.atoiSat_bounds l
theorem ite_wf (b : Bool) (l : List UInt8) : i64B (if b then numM l else 0) := by
  cases b
  · exact (by unfold i64B; decide : i64B 0)
  · exact numM_wf l
theorem read_wf (l : List UInt8) : (readM l).wf := by
  refine ⟨⟨?_, ?_⟩, ite_wf _ _, ite_wf _ _⟩
  · show -9223372036854775808 ≤ ((findN (wordL l) : Nat) : Int); omega
  · have := findN_lt (wordL l)
    show ((findN (wordL l) : Nat) : Int) ≤ 9223372036854775807; omega
theorem ite_rest (b : Bool) (l : List UInt8) (n : Nat) (h : l.length ≤ n) : (if b then restL l else l).length ≤ n := by
  cases b
  · exact h
  · exact Nat.le_trans (rest_len l) h
theorem ite_word (b : Bool) (l : List UInt8) (n : Nat) (h : l.length ≤ n) : (if b then wordL l else []).length ≤ n := by
  cases b
  · exact Nat.zero_le _
  · exact Nat.le_trans (word_len l) h
theorem read_fits (l : List UInt8) (h : l.length ≤ 140737488351232) : (readM l).fits := by
  have h0 := Nat.le_trans (rest_len l) h
  have h1 := ite_rest ((opF (findN (wordL l))).testBit 0) _ _ h0
  have h2 := ite_rest ((opF (findN (wordL l))).testBit 1) _ _ h1
  have h3 := ite_rest ((opF (findN (wordL l))).testBit 2) _ _ h2
  have h4 := ite_rest ((opF (findN (wordL l))).testBit 3) _ _ h3
  exact ⟨ite_word _ _ _ h2, ite_word _ _ _ h3, ite_word _ _ _ h4⟩

/-- What Parse returns. -/
def parseB (l : List UInt8) : Bool := decide (insF (readM l) = 0 ∧ textM (readM l) = l)
def parseM (l : List UInt8) : InsD := if parseB l then readM l else zeroI
def parseF (l : List UInt8) : Nat := if parseB l then 0 else 1

theorem Cells.six {w : World} {n : Nat} {op a b : Int} {ty cl nm : List UInt8} (h : Cells w n (icells ⟨op, a, b, ty, cl, nm⟩)) :
    (w.cell? ⟨n, 0, none⟩ = some (.int .i64 op) ∧ w.cell? ⟨n, 1, none⟩ = some (.int .i64 a) ∧ w.cell? ⟨n, 2, none⟩ = some (.int .i64 b) ∧ w.cell? ⟨n, 3, none⟩ = some (.string (bs ty)) ∧ w.cell? ⟨n, 4, none⟩ = some (.string (bs cl)) ∧ w.cell? ⟨n, 5, none⟩ = some (.string (bs nm))) ∧
    (w.frozen? ⟨n, 0, none⟩ = false ∧ w.frozen? ⟨n, 1, none⟩ = false ∧ w.frozen? ⟨n, 2, none⟩ = false ∧ w.frozen? ⟨n, 3, none⟩ = false ∧ w.frozen? ⟨n, 4, none⟩ = false ∧ w.frozen? ⟨n, 5, none⟩ = false) :=
  ⟨⟨h.cell 0, h.cell 1, h.cell 2, h.cell 3, h.cell 4, h.cell 5⟩, ⟨h.frozen _, h.frozen _, h.frozen _, h.frozen _, h.frozen _, h.frozen _⟩⟩
theorem box_cells (w : World) (x : InsD) (t : TypeId) : Cells (w.alloc (.cells #[.int .i64 x.op, .int .i64 x.a, .int .i64 x.b, .string (bs x.ty), .string (bs x.cl), .string (bs x.nm)] t)) w.heap.size (icells x) := cells_at w (icells x) t
theorem ret_pair {a b c d : Value} (h : a = c) (k : b = d) : Ending.returned (.tuple #[a, b]) = .returned (.tuple #[c, d]) := by rw [h, k]
set_option maxHeartbeats 4000000 in
set_option maxRecDepth 100000 in
theorem parse_any (l : List UInt8) (w : World) (T : Tab w) (E : Errs w) (P : Pow w) (hl : l.length ≤ 140737488351232) :
    Calls Tryd.prog 12 #[.string (bs l)] w fun e w' => e = .returned (.tuple #[insV (parseM l), errV (parseF l)]) ∧ Below w.heap.size w w' := by
  have HR := fun w T E => read_any l w T E hl
  have HT := fun w T P => text_any (readM l) (read_wf l) (read_fits l hl) w T P
  have k0 : Below w.heap.size w (w.alloc (.cells #[.int .i64 0, .int .i64 0, .int .i64 0, .string ⟨#[]⟩, .string ⟨#[]⟩, .string ⟨#[]⟩] 23)) := (Below.refl _ _).alloc (Nat.le_refl _) _
  have KT := Lib.hid (T.below k0)
  have KE := Lib.hid (E.below k0)
  have KP := Lib.hid (P.below k0)
  have k0 := Lib.hid k0
  have C0 := Lib.hid (show Cells (w.alloc (.cells #[.int .i64 0, .int .i64 0, .int .i64 0, .string ⟨#[]⟩, .string ⟨#[]⟩, .string ⟨#[]⟩] 23)) w.heap.size (icells zeroI) from cells_at w (icells zeroI) 23)
  have D : (parseB l = true ∧ insF (readM l) = 0 ∧ textM (readM l) = l) ∨ (parseB l = false ∧ insF (readM l) = 0 ∧ textM (readM l) ≠ l) ∨ (parseB l = false ∧ insF (readM l) ≠ 0) := by
    unfold parseB
    by_cases h1 : insF (readM l) = 0
    · by_cases h2 : textM (readM l) = l
      · exact .inl ⟨by simp [h1, h2], h1, h2⟩
      · exact .inr (.inl ⟨by simp [h1, h2], h1, h2⟩)
    · exact .inr (.inr ⟨by simp [h1], h1⟩)
  rcases D with ⟨d1, d2, d3⟩ | ⟨d1, d2, d3⟩ | ⟨d1, d2⟩
  · have R : insV (parseM l) = insV (readM l) ∧ errV (parseF l) = .nilIface := by
      unfold parseM parseF; rw [d1]; exact ⟨rfl, rfl⟩
    rw [show textR (readM l) = l by unfold textR; rw [if_pos d2, d3], d2] at HT
    obtain ⟨R1, R2⟩ := R
    rw [R1, R2]
    clear R1 R2 d1 d2 d3 T E P hl
    generalize readM l = x at *
    obtain ⟨op, a, b, ty, cl, nm⟩ := x
    unfold insV at *
    replace HR := Lib.hid HR
    replace HT := Lib.hid HT
    go_enter Tryd.func12, Tryd.ntmps12
    go_wp2_with (first
      | (go_at_call 25; (with_reducible refine (HR.out _ KT.out KE.out).mono ?_); rintro e w1 ⟨rfl, b1⟩
         have C1 := Lib.hid (C0.out.below b1)
         have L1 := Lib.hid (bnext k0.out b1)
         have T1 := Lib.hid (KT.out.below b1)
         have P1 := Lib.hid (KP.out.below b1)
         clear b1)
      | (go_at_call 10; (with_reducible refine (HT.out _ (T1.out.below (al1 _ _)) (P1.out.below (al1 _ _))).mono ?_); rintro e w2 ⟨rfl, b2⟩
         have CX := ((C1.out.below (al1 _ _)).below b2).six
         obtain ⟨⟨c0, c1, c2, c3, c4, c5⟩, ⟨f0, f1, f2, f3, f4, f5⟩⟩ := CX
         obtain ⟨⟨x0, x1, x2, x3, x4, x5⟩, _⟩ := ((box_cells w1 ⟨op, a, b, ty, cl, nm⟩ _).below b2).six
         have L2 := Lib.hid (bnext (bnext L1.out (al1 _ _)) b2)
         clear b2))
    refine bodyPost_ret (v := .tuple #[.agg #[.int .i64 op, .int .i64 a, .int .i64 b, .string (bs ty), .string (bs cl), .string (bs nm)], .nilIface]) ?_ rfl ⟨rfl, ?_⟩
    · clear HR HT L1 L2 T1 P1 C1 KT KE KP k0 C0
      simp [results, Tryd.results12, go_sem, *]
    · have B := L2.out
      clear HR HT L1 L2 T1 P1 C1 KT KE KP k0 C0
      repeat (first | with_reducible exact B | with_reducible refine bset ?_ (by omega))
  · have R : insV (parseM l) = insV zeroI ∧ errV (parseF l) = errV 1 := by
      unfold parseM parseF; rw [d1]; exact ⟨rfl, rfl⟩
    rw [show textR (readM l) = textM (readM l) by unfold textR; rw [if_pos d2], d2] at HT
    obtain ⟨R1, R2⟩ := R
    rw [R1, R2]
    have hne : ((bs (textM (readM l))).toList == (bs l).toList) = false := by rw [ByteArray.toList_eq, ByteArray.toList_eq, beq_eq_false_iff_ne]; exact d3
    generalize textM (readM l) = tx at *
    clear R1 R2 d1 d2 d3 T E P hl
    generalize readM l = x at *
    obtain ⟨op, a, b, ty, cl, nm⟩ := x
    unfold insV at *
    replace HR := Lib.hid HR
    replace HT := Lib.hid HT
    go_enter Tryd.func12, Tryd.ntmps12
    go_wp2_with (first
      | (go_at_call 25; (with_reducible refine (HR.out _ KT.out KE.out).mono ?_); rintro e w1 ⟨rfl, b1⟩
         have C1 := Lib.hid (C0.out.below b1)
         have L1 := Lib.hid (bnext k0.out b1)
         have T1 := Lib.hid (KT.out.below b1)
         have P1 := Lib.hid (KP.out.below b1)
         clear b1)
      | (go_at_call 10; (with_reducible refine (HT.out _ (T1.out.below (al1 _ _)) (P1.out.below (al1 _ _))).mono ?_); rintro e w2 ⟨rfl, b2⟩
         have CX := ((C1.out.below (al1 _ _)).below b2).six
         obtain ⟨⟨c0, c1, c2, c3, c4, c5⟩, ⟨f0, f1, f2, f3, f4, f5⟩⟩ := CX
         obtain ⟨⟨x0, x1, x2, x3, x4, x5⟩, _⟩ := ((box_cells w1 ⟨op, a, b, ty, cl, nm⟩ _).below b2).six
         have L2 := Lib.hid (bnext (bnext L1.out (al1 _ _)) b2)
         clear b2))
    refine bodyPost_ret (v := .tuple #[.agg #[.int .i64 0, .int .i64 0, .int .i64 0, .string ⟨#[]⟩, .string ⟨#[]⟩, .string ⟨#[]⟩], errV 1]) ?_ rfl ⟨rfl, ?_⟩
    · clear HR HT L1 L2 T1 P1 C1 KT KE KP k0 C0
      simp [results, Tryd.results12, go_sem, *]
      rfl
    · have B := L2.out
      clear HR HT L1 L2 T1 P1 C1 KT KE KP k0 C0
      repeat (first | with_reducible exact B | with_reducible refine bset ?_ (by omega))
  · have R : insV (parseM l) = insV zeroI ∧ errV (parseF l) = errV 1 := by
      unfold parseM parseF; rw [d1]; exact ⟨rfl, rfl⟩
    obtain ⟨R1, R2⟩ := R
    rw [R1, R2]
    have hne : (insF (readM l) != 0) = true := by rw [bne_iff_ne]; exact d2
    generalize insF (readM l) = f at *
    generalize textR (readM l) = tx at *
    clear R1 R2 d1 d2 T E P hl
    generalize readM l = x at *
    obtain ⟨op, a, b, ty, cl, nm⟩ := x
    unfold insV at *
    replace HR := Lib.hid HR
    replace HT := Lib.hid HT
    go_enter Tryd.func12, Tryd.ntmps12
    go_wp2_with (first
      | (go_at_call 25; (with_reducible refine (HR.out _ KT.out KE.out).mono ?_); rintro e w1 ⟨rfl, b1⟩
         have C1 := Lib.hid (C0.out.below b1)
         have L1 := Lib.hid (bnext k0.out b1)
         have T1 := Lib.hid (KT.out.below b1)
         have P1 := Lib.hid (KP.out.below b1)
         clear b1)
      | (go_at_call 10; (with_reducible refine (HT.out _ (T1.out.below (al1 _ _)) (P1.out.below (al1 _ _))).mono ?_); rintro e w2 ⟨rfl, b2⟩
         have CX := ((C1.out.below (al1 _ _)).below b2).six
         obtain ⟨⟨c0, c1, c2, c3, c4, c5⟩, ⟨f0, f1, f2, f3, f4, f5⟩⟩ := CX
         obtain ⟨⟨x0, x1, x2, x3, x4, x5⟩, _⟩ := ((box_cells w1 ⟨op, a, b, ty, cl, nm⟩ _).below b2).six
         have L2 := Lib.hid (bnext (bnext L1.out (al1 _ _)) b2)
         clear b2))
    refine bodyPost_ret (v := .tuple #[.agg #[.int .i64 0, .int .i64 0, .int .i64 0, .string ⟨#[]⟩, .string ⟨#[]⟩, .string ⟨#[]⟩], errV 1]) ?_ rfl ⟨rfl, ?_⟩
    · clear HR HT L1 L2 T1 P1 C1 KT KE KP k0 C0
      simp [results, Tryd.results12, go_sem, *]
      rfl
    · have B := L2.out
      clear HR HT L1 L2 T1 P1 C1 KT KE KP k0 C0
      repeat (first | with_reducible exact B | with_reducible refine bset ?_ (by omega))
end Go.Proofs.YtdikccncljhehaaDoor
