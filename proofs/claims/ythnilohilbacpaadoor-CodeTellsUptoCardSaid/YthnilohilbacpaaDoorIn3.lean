/- The contracts of ins.write and ins.Text; strconv.Itoa and strings.Join as they are used there. -/
import Derived.Test.YthnilohilbacpaaDoorIn2
import Derived.Test.YthnilohilbacpaaDoorInM2
import Derived.Lib.LaidTab
import Derived.Lib.Join
import Derived.Lib.AppendIntMem
namespace Go.Proofs.YthnilohilbacpaaDoor
open Go.ChangeShapes Go.WideShapes Go.ChangeAt Go.RowKit
set_option linter.unusedVariables false
attribute [local go_sem] eqGuard_errV_nil eqGuard_errV_iface eql_errV_nil neq_errV_nil eql_errV_form

/-- The library's table of the powers of ten. -/
def Pow (w : World) : Prop := Lib.TabIs Tryd.prog w "internal/strconv.uint64pow10" .u64 Lib.pow10Tab
theorem Pow.below {w w' : World} (h : Pow w) (hb : Below w.heap.size w w') : Pow w' := var_below h hb
theorem itoa_any (n : Int) (hn : i64B n) (w : World) (P : Pow w) : Calls Tryd.prog 44 #[.int .i64 n] w fun e w' => e = .returned (.string (bs (Lib.itoa n))) ∧ Below w.heap.size w w' :=
  (Tryd.strconv_Itoa n hn.1 hn.2 w P).mono fun _ _ ⟨he, k, os, hw⟩ => ⟨he, hw ▸ Lib.below_grow _ w (Nat.le_refl _) k os⟩
theorem data_bs (xs : List (List UInt8)) : (xs.map bs).map (·.data.toList) = xs := by
  rw [List.map_map]
  induction xs with
  | nil => rfl
  | cons a r ih => rw [List.map_cons, ih]; rfl
theorem join_any (A : Option Addr) (n c : Nat) (xs : List (List UInt8)) (w : World) (h : Row w A n c (xs.map strV)) (h0 : 0 < n) (hl : (Lib.join xs [32]).length < 140737488355328) :
    Calls Tryd.prog 45 #[.slice A n c, .string ⟨#[32]⟩] w fun e w' => e = .returned (.string (bs (Lib.join xs [32]))) ∧ Below w.heap.size w w' := by
  obtain ⟨b, o, rfl, hb, hc⟩ := h.2.2 h0
  have hn : (xs.map bs).length = n := by have := h.1; simpa using this
  have hN : xs.length ≤ 140737488355328 := by
    rw [List.length_map] at hn
    cases xs with
    | nil => simp
    | cons x r => rw [Lib.join_length] at hl; have := h.2.1; simp only [List.length_cons, List.length_nil, Nat.zero_add, Nat.one_mul] at hl ⊢; omega
  have J := Tryd.strings_Join b o c (xs.map bs) ⟨#[32]⟩ w (fun j x hx => by
    refine hc j (.string x) ?_
    rw [List.getElem?_map] at hx ⊢
    obtain ⟨l, hl1, rfl⟩ := Option.map_eq_some_iff.1 hx
    rw [hl1]; rfl) hb (by simpa using hN) (by rw [hn]; exact h.2.1) (by rw [data_bs]; exact Nat.le_of_lt hl)
  rw [hn, data_bs] at J
  exact J

theorem ret_str {a b : List UInt8} (h : a = b) : Ending.returned (.string (bs a)) = .returned (.string (bs b)) := by rw [h]
/-- What a text's words give together. -/
theorem join_text (x : InsD) : Lib.join (opW x.op.toNat :: partsM x) [32] = textM x := by
  rw [Lib.join_cons, textM, Lib.joinTail, List.flatMap_def]; rfl

/-- Where write stands: the instruction in its block, the operation in the next, the words so far behind both. -/
def Writing (w wr : World) (x : InsD) (k : Nat) (v : Value) (n : Nat) (xs : List (List UInt8)) : Prop :=
  Box wr w.heap.size x ∧ (w.heap.size + 2 ≤ wr.heap.size ∧ wr.cell? ⟨w.heap.size + 1, 0, none⟩ = some (.string (bs (opW k))) ∧ wr.cell? ⟨w.heap.size + 1, 1, none⟩ = some (.int .u8 (opF k : Int))) ∧
    wr.ownsRow (w.heap.size + 2) 9 1 v n (xs.map strV) ∧ Below w.heap.size w wr
theorem Writing.below {w wr wn : World} {x : InsD} {k : Nat} {v : Value} {n : Nat} {xs : List (List UInt8)} (h : Writing w wr x k v n xs) (hb : Below wr.heap.size wr wn) : Writing w wn x k v n xs := by
  obtain ⟨h1, ⟨h2, h3, h4⟩, h5, h6⟩ := h
  refine ⟨h1.below hb, ⟨Nat.le_trans h2 hb.size, ?_, ?_⟩, own_below h5 hb, bnext h6 hb⟩
  · rw [hb.cell (p := ⟨w.heap.size + 1, 0, none⟩) (by show w.heap.size + 1 < _; omega), h3]
  · rw [hb.cell (p := ⟨w.heap.size + 1, 1, none⟩) (by show w.heap.size + 1 < _; omega), h4]
theorem Writing.bel {w wr : World} {x : InsD} {k : Nat} {v : Value} {n : Nat} {xs : List (List UInt8)} (h : Writing w wr x k v n xs) : Below w.heap.size w wr := h.2.2.2
theorem Writing.own {w wr : World} {x : InsD} {k : Nat} {v : Value} {n : Nat} {xs : List (List UInt8)} (h : Writing w wr x k v n xs) : wr.ownsRow (w.heap.size + 2) 9 1 v n (xs.map strV) := h.2.2.1
theorem Writing.more {w wr w3 : World} {x : InsD} {k : Nat} {v v' : Value} {n : Nat} {xs : List (List UInt8)} {o : Obj} {s : List UInt8} (h : Writing w wr x k v n xs)
    (ho : w3.ownsRow (w.heap.size + 2) 9 1 v' (n + 1) (xs.map strV ++ [.string (bs s)])) (hg : (wr.alloc o).grownBy w3 v.ownBlock) : Writing w w3 x k v' (n + 1) (xs ++ [s]) := by
  obtain ⟨h1, ⟨h2, h3, h4⟩, h5, h6⟩ := h
  have hb : Below (w.heap.size + 2) wr w3 := ((Below.refl _ wr).alloc h2 o).grown hg (by simp; omega) (fun q hq => (h5.lt q hq).1)
  have hs := hb.size
  have hbw : Below w.heap.size w w3 := h6.trans (hb.mono (by omega))
  obtain ⟨b0, b1, b2, b3, b4, b5, b6⟩ := h1
  refine ⟨⟨by omega, ?_, ?_, ?_, ?_, ?_, ?_⟩, ⟨by omega, ?_, ?_⟩, ?_, hbw⟩
  · rw [hb.cell (p := ⟨w.heap.size, 0, none⟩) (by show w.heap.size < _; omega), b1]
  · rw [hb.cell (p := ⟨w.heap.size, 1, none⟩) (by show w.heap.size < _; omega), b2]
  · rw [hb.cell (p := ⟨w.heap.size, 2, none⟩) (by show w.heap.size < _; omega), b3]
  · rw [hb.cell (p := ⟨w.heap.size, 3, none⟩) (by show w.heap.size < _; omega), b4]
  · rw [hb.cell (p := ⟨w.heap.size, 4, none⟩) (by show w.heap.size < _; omega), b5]
  · rw [hb.cell (p := ⟨w.heap.size, 5, none⟩) (by show w.heap.size < _; omega), b6]
  · rw [hb.cell (p := ⟨w.heap.size + 1, 0, none⟩) (by show w.heap.size + 1 < _; omega), h3]
  · rw [hb.cell (p := ⟨w.heap.size + 1, 1, none⟩) (by show w.heap.size + 1 < _; omega), h4]
  · rw [List.map_append]; exact ho
theorem writing_start {w w1 : World} (x : InsD) (k : Nat) (t1 t2 : TypeId)
    (h : ((w.alloc (.cells #[.int .i64 x.op, .int .i64 x.a, .int .i64 x.b, .string (bs x.ty), .string (bs x.cl), .string (bs x.nm)] t1)).alloc (.cells #[.string (bs (opW k)), .int .u8 (opF k : Int)] t2)).alloc (.cells #[.string (bs (opW k))] 9) = w1) :
    Writing w w1 x k (.slice (some ⟨w.heap.size + 2, 0, none⟩) 1 1) 1 [opW k] := by
  subst h
  have e2 : ((w.alloc (.cells #[.int .i64 x.op, .int .i64 x.a, .int .i64 x.b, .string (bs x.ty), .string (bs x.cl), .string (bs x.nm)] t1)).alloc (.cells #[.string (bs (opW k)), .int .u8 (opF k : Int)] t2)).heap.size = w.heap.size + 2 := by simp
  have k1 : ∀ (W : World) o, Below W.heap.size W (W.alloc o) := fun W o => (Below.refl _ _).alloc (Nat.le_refl _) _
  have e1 : (w.alloc (.cells #[.int .i64 x.op, .int .i64 x.a, .int .i64 x.b, .string (bs x.ty), .string (bs x.cl), .string (bs x.nm)] t1)).heap.size = w.heap.size + 1 := by simp
  refine ⟨((box_at w x t1 (0, 0)).below (k1 _ _)).below (k1 _ _), ⟨by simp, ?_, ?_⟩, ?_, bnext (bnext (k1 _ _) (k1 _ _)) (k1 _ _)⟩
  · rw [World.cell?_alloc_lt _ _ _ (by rw [e2]; exact Nat.lt_succ_self _), ← e1]
    exact World.cell?_alloc_mark ..
  · rw [World.cell?_alloc_lt _ _ _ (by rw [e2]; exact Nat.lt_succ_self _), ← e1]
    exact World.cell?_alloc_mark ..
  · rw [← e2]
    exact World.ownsRow_lit _ #[.string (bs (opW k))] 1 (Nat.le_refl _) (by decide) rfl

set_option maxHeartbeats 4000000 in
theorem write_bits (x : InsD) (k : Nat) (h0 : 0 < k) (hk : k < 29) (hx : x.op = k) (hw : x.wf) (w : World) (T : Tab w) (P : Pow w) (b0 b1 b2 b3 b4 : Bool)
    (e0 : (opF k).testBit 0 = b0) (e1 : (opF k).testBit 1 = b1) (e2 : (opF k).testBit 2 = b2) (e3 : (opF k).testBit 3 = b3) (e4 : (opF k).testBit 4 = b4)
    (hb : (b0, b1, b2, b3, b4) ∈ [(false, false, false, false, false), (true, false, false, false, false), (true, true, false, false, false), (false, false, true, false, false), (true, false, true, false, false), (false, false, false, true, false), (false, false, false, true, true), (false, false, true, true, true)])
    (hl : (textM x).length ≤ 1000) :
    Calls Tryd.prog 27 #[insV x] w fun e w' => e = .returned (.string (bs (textM x))) ∧ Below w.heap.size w w' := by
  have H0 := fun w => has_any (opF k) (opF_lt hk) 0 (by decide) 1 rfl w
  have H1 := fun w => has_any (opF k) (opF_lt hk) 1 (by decide) 2 rfl w
  have H2 := fun w => has_any (opF k) (opF_lt hk) 2 (by decide) 4 rfl w
  have H3 := fun w => has_any (opF k) (opF_lt hk) 3 (by decide) 8 rfl w
  have H4 := fun w => has_any (opF k) (opF_lt hk) 4 (by decide) 16 rfl w
  rw [e0] at H0
  rw [e1] at H1
  rw [e2] at H2
  rw [e3] at H3
  rw [e4] at H4
  replace H0 := Lib.hid H0
  replace H1 := Lib.hid H1
  replace H2 := Lib.hid H2
  replace H3 := Lib.hid H3
  replace H4 := Lib.hid H4
  have HA := Lib.hid (fun w P => itoa_any x.a hw.2.1 w P)
  have HB := Lib.hid (fun w P => itoa_any x.b hw.2.2 w P)
  have HP := Lib.hid P
  have hT := fun o => ((T.below ((Below.refl w.heap.size w).alloc (Nat.le_refl _) o)) k hk)
  have hT1 := fun o => (hT o).1
  have hT2 := fun o => (hT o).2
  have HJ : Hid (∀ xs : List (List UInt8), xs = opW k :: ((if b0 then [Lib.itoa x.a] else []) ++ (if b1 then [Lib.itoa x.b] else []) ++ (if b2 then [x.ty] else []) ++ (if b3 then [x.cl] else []) ++ (if b4 then [x.nm] else [])) → Lib.join xs [32] = textM x ∧ (Lib.join xs [32]).length < 140737488355328) := Lib.hid (fun xs h => by
    have e : xs = opW x.op.toNat :: partsM x := by rw [h]; unfold partsM; rw [hx, Int.toNat_natCast, e0, e1, e2, e3, e4]
    rw [e, join_text]
    exact ⟨rfl, by omega⟩)
  obtain ⟨i0, hi, hz0, hz1, hz2⟩ := info_parts str_info
  clear hT e0 e1 e2 e3 e4 hw P hl T
  obtain ⟨op, a, b, ty, cl, nm⟩ := x
  obtain rfl : op = k := hx
  unfold insV at *
  simp only [List.mem_cons, Prod.mk.injEq, List.not_mem_nil, or_false] at hb
  rcases hb with ⟨rfl, rfl, rfl, rfl, rfl⟩ | ⟨rfl, rfl, rfl, rfl, rfl⟩ | ⟨rfl, rfl, rfl, rfl, rfl⟩ | ⟨rfl, rfl, rfl, rfl, rfl⟩ | ⟨rfl, rfl, rfl, rfl, rfl⟩ | ⟨rfl, rfl, rfl, rfl, rfl⟩ | ⟨rfl, rfl, rfl, rfl, rfl⟩ | ⟨rfl, rfl, rfl, rfl, rfl⟩
  all_goals
    go_enter Tryd.func27, Tryd.ntmps27
    go_wp2_with (first
      | (go_at_call 43; (with_reducible refine (H0.out _).mono ?_); rintro e w1 ⟨rfl, hw1⟩
         have HW := Lib.hid (writing_start ⟨k, a, b, ty, cl, nm⟩ k _ _ hw1)
         obtain ⟨⟨q0, q1, q2, q3, q4, q5, q6⟩, ⟨o0, o1, o2⟩, _⟩ := HW.out
         clear hw1)
      | (go_at_call 43; (with_reducible refine (H1.out _).mono ?_); rintro e w1 ⟨rfl, rfl⟩)
      | (go_at_call 43; (with_reducible refine (H2.out _).mono ?_); rintro e w1 ⟨rfl, rfl⟩)
      | (go_at_call 43; (with_reducible refine (H3.out _).mono ?_); rintro e w1 ⟨rfl, rfl⟩)
      | (go_at_call 43; (with_reducible refine (H4.out _).mono ?_); rintro e w1 ⟨rfl, rfl⟩)
      | (go_at_call 44; (with_reducible refine (HA.out _ (HP.out.below HW.out.bel)).mono ?_); rintro e wi ⟨rfl, bi⟩
         have HW := Lib.hid (HW.out.below bi)
         obtain ⟨⟨q0, q1, q2, q3, q4, q5, q6⟩, ⟨o0, o1, o2⟩, _⟩ := HW.out
         clear bi)
      | (go_at_call 44; (with_reducible refine (HB.out _ (HP.out.below HW.out.bel)).mono ?_); rintro e wi ⟨rfl, bi⟩
         have HW := Lib.hid (HW.out.below bi)
         obtain ⟨⟨q0, q1, q2, q3, q4, q5, q6⟩, ⟨o0, o1, o2⟩, _⟩ := HW.out
         clear bi)
      | (at_builtin
         refine wpList_append_own _ rfl _ _ 55 rfl (w.heap.size + 2) 9 i0 (.string ByteArray.empty) 1 16 Tryd.underlying55 hi hz0 hz1 hz2 rfl (by decide) _ _ _ rfl (HW.out.own.alloc _) ⟨_, 0, none⟩ 1 1 [_] rfl rfl (cell_one_new _ _ _) (fun x hx => by simp at hx; subst hx; rfl) (by decide) (by decide) (by simp; omega) ?_
         intro v3 w3 hown3 hgrow3 hnil3
         have HW := Lib.hid (HW.out.more hown3 hgrow3)
         clear hown3 hgrow3 hnil3
         obtain ⟨A3, c3, rfl⟩ := own_form HW.out.own
         obtain ⟨⟨q0, q1, q2, q3, q4, q5, q6⟩, ⟨o0, o1, o2⟩, _⟩ := HW.out)
      | (go_at_call 45
         have J := join_any _ _ _ _ _ (Row.own HW.out.own) (by decide) (HJ.out _ rfl).2
         (with_reducible refine J.mono ?_); rintro e wj ⟨rfl, bj⟩))
    go_ret
    exact ⟨ret_str (HJ.out _ rfl).1, bnext HW.out.bel bj⟩

theorem write_any (x : InsD) (h : insF x = 0) (hw : x.wf) (w : World) (T : Tab w) (P : Pow w) : Calls Tryd.prog 27 #[insV x] w fun e w' => e = .returned (.string (bs (textM x))) ∧ Below w.heap.size w w' := by
  obtain ⟨k, hx, h0, hk, _⟩ := insF_zero h
  exact write_bits x k h0 hk hx hw w T P _ _ _ _ _ rfl rfl rfl rfl rfl (bits_all k hk) (text_len hw h)
/-- The text that ins.Text returns. -/
def textR (x : InsD) : List UInt8 := if insF x = 0 then textM x else []
set_option maxHeartbeats 1000000 in
theorem text_any (x : InsD) (hw : x.wf) (hf : x.fits) (w : World) (T : Tab w) (P : Pow w) :
    Calls Tryd.prog 17 #[insV x] w fun e w' => e = .returned (.tuple #[.string (bs (textR x)), errV (insF x)]) ∧ Below w.heap.size w w' := by
  have HC := Lib.hid (fun w T => ins_check x w T hf.1 hf.2.1 hf.2.2)
  have HT := Lib.hid T
  have HP := Lib.hid P
  have k1 := Lib.hid (fun o => T.below ((Below.refl w.heap.size w).alloc (Nat.le_refl _) o))
  by_cases h : insF x = 0
  · have HW := Lib.hid (fun w T P => write_any x h hw w T P)
    have E := Lib.hid (show textR x = textM x by unfold textR; rw [if_pos h])
    rw [h] at HC ⊢
    clear h hw hf T P
    obtain ⟨op, a, b, ty, cl, nm⟩ := x
    unfold insV at *
    go_enter Tryd.func17, Tryd.ntmps17
    go_wp2_with (first
      | (go_at_call 26; (with_reducible refine (HC.out _ (k1.out _)).mono ?_); rintro e w1 ⟨rfl, b1⟩
         have BX := box_new ⟨op, a, b, ty, cl, nm⟩ _ _ rfl b1
         have L1 := Lib.hid BX.2
         obtain ⟨q0, q1, q2, q3, q4, q5, q6⟩ := BX.1
         clear BX b1)
      | (go_at_call 27; (with_reducible refine (HW.out _ (HT.out.below L1.out) (HP.out.below L1.out)).mono ?_); rintro e w2 ⟨rfl, b2⟩))
    go_ret2
    exact ⟨by rw [E.out]; rfl, bnext L1.out b2⟩
  · have E := Lib.hid (show textR x = [] by unfold textR; rw [if_neg h])
    have hne : (insF x != 0) = true := by rw [bne_iff_ne]; exact h
    generalize insF x = f at *
    clear h hw hf T P
    obtain ⟨op, a, b, ty, cl, nm⟩ := x
    unfold insV at *
    go_enter Tryd.func17, Tryd.ntmps17
    go_wp2_with (first
      | (go_at_call 26; (with_reducible refine (HC.out _ (k1.out _)).mono ?_); rintro e w1 ⟨rfl, b1⟩
         have L1 := Lib.hid (box_new ⟨op, a, b, ty, cl, nm⟩ _ _ rfl b1).2
         clear b1))
    go_ret2
    exact ⟨by rw [E.out]; rfl, L1.out⟩
end Go.Proofs.YthnilohilbacpaaDoor
