/- The contract of code.first: the instruction that bytes begin with. -/
import Derived.Test.YthnilohilbacpaaDoorCoM
import Derived.Test.YthnilohilbacpaaDoorCoR
import Derived.Test.YthnilohilbacpaaDoorByR
namespace Go.Proofs.YthnilohilbacpaaDoor
open Go.ChangeShapes Go.WideShapes Go.ChangeAt Go.RowKit
set_option linter.unusedVariables false
attribute [local go_sem] eqGuard_errV_nil eqGuard_errV_iface eql_errV_nil neq_errV_nil eql_errV_form

theorem firstM_cons (ch : UInt8) (r : List UInt8) : firstM (ch :: r) = if ch.toNat ≤ r.length ∧ parseF (r.take ch.toNat) = 0 then (parseM (r.take ch.toNat), ch.toNat + 1) else (zeroI, 0) := rfl
theorem head_cell {w : World} {b o n c : Nat} {ch : UInt8} {r : List UInt8} (R : Row w (some ⟨b, o, none⟩) n c ((ch :: r).map byteV)) : w.cell? ⟨b, o, none⟩ = some (.int .u8 (ch.toNat : Int)) := by
  have hn : 0 < n := by have := R.1; simp at this; omega
  obtain ⟨b2, o2, u2, hA2, hb2, hu2, hc2⟩ := R.at_ hn
  obtain ⟨rfl, rfl⟩ : b = b2 ∧ o = o2 := by simpa using hA2
  obtain rfl := Option.some.inj hu2
  exact hc2
theorem text_row {w : World} {A : Option Addr} {n c : Nat} {ch : UInt8} {r : List UInt8} (R : Row w A n c ((ch :: r).map byteV)) (h : ch.toNat ≤ r.length) :
    Row w (cutA A c 1) ch.toNat (c - 1) ((r.take ch.toNat).map byteV) := by
  have hn : n = r.length + 1 := by have := R.1; simp at this; omega
  have := R.cut (l := 1) (h := 1 + ch.toNat) (by omega) (by omega)
  rw [show 1 + ch.toNat - 1 = ch.toNat by omega] at this
  rw [show (r.take ch.toNat).map byteV = (((ch :: r).map byteV).take (1 + ch.toNat)).drop 1 by
    rw [Nat.add_comm, List.map_cons, List.take_succ_cons, List.drop_succ_cons, List.drop_zero, List.map_take]]
  exact this
theorem text_cut (A : Option Addr) (n c k : Nat) (w : World) (h : 1 + k ≤ c) :
    (Instr.sliceAt 28 (.slice A n c) (some (.int .i64 1)) (some (.int .i64 (1 + (k : Int)))) none).run Tryd.prog w = .ok (.slice (cutA A c 1) k (c - 1)) w := by
  have := cut_lh w A n c 1 (1 + k) (by omega) h
  rw [show 1 + k - 1 = k by omega] at this
  exact this
set_option maxHeartbeats 2000000 in
theorem first_none (n c : Nat) (A : Option Addr) (w : World) (hn : n = 0) : Calls Tryd.prog 24 #[.slice A n c] w fun e w' => e = .returned (.tuple #[insV zeroI, .int .i64 0]) ∧ Below w.heap.size w w' := by
  subst hn
  go_enter Tryd.func24, Tryd.ntmps24
  go_wp2
  refine bodyPost_ret (v := .tuple #[insV zeroI, .int .i64 0]) ?_ rfl ⟨rfl, ?_⟩
  · unfold insV zeroI
    simp [results, Tryd.results24, go_sem, *]
    try rfl
  · repeat (first | with_reducible exact (al1 _ _) | with_reducible refine bset ?_ (by omega))
set_option maxHeartbeats 2000000 in
theorem first_short (ch : UInt8) (r : List UInt8) (b o n c : Nat) (w : World) (R : Row w (some ⟨b, o, none⟩) n c ((ch :: r).map byteV)) (h : ¬ ch.toNat ≤ r.length) :
    Calls Tryd.prog 24 #[.slice (some ⟨b, o, none⟩) n c] w fun e w' => e = .returned (.tuple #[insV zeroI, .int .i64 0]) ∧ Below w.heap.size w w' := by
  have hn : n = r.length + 1 := by have := R.1; simp at this; omega
  have hc := fun x => head_cell (R.alloc x)
  have hlt := byte_lt ch
  clear R
  subst hn
  go_enter Tryd.func24, Tryd.ntmps24
  go_wp2
  refine bodyPost_ret (v := .tuple #[insV zeroI, .int .i64 0]) ?_ rfl ⟨rfl, ?_⟩
  · unfold insV zeroI
    simp [results, Tryd.results24, go_sem, *]
    try rfl
  · repeat (first | with_reducible exact (al1 _ _) | with_reducible refine bset ?_ (by omega))
set_option maxHeartbeats 4000000 in
theorem first_yes (ch : UInt8) (r : List UInt8) (b o n c : Nat) (w : World) (T : Tab w) (E : Errs w) (P : Pow w) (R : Row w (some ⟨b, o, none⟩) n c ((ch :: r).map byteV)) (h : ch.toNat ≤ r.length) (x : InsD)
    (HP : ∀ w, Tab w → Errs w → Pow w → Calls Tryd.prog 36 #[.string (bs (r.take ch.toNat))] w fun e w' => e = .returned (.tuple #[insV x, errV 0]) ∧ Below w.heap.size w w') :
    Calls Tryd.prog 24 #[.slice (some ⟨b, o, none⟩) n c] w fun e w' => e = .returned (.tuple #[insV x, .int .i64 (1 + (ch.toNat : Int))]) ∧ Below w.heap.size w w' := by
  have hn : n = r.length + 1 := by have := R.1; simp at this; omega
  have hnc := R.2.1
  have hc := fun x => head_cell (R.alloc x)
  have hcv := fun x => conv_row (text_row (R.alloc x) h)
  have hcut := Lib.hid (fun w => text_cut (some ⟨b, o, none⟩) n c ch.toNat w (by omega))
  have hlt := byte_lt ch
  have KT := Lib.hid (T.below (al1 w (.cells #[.int .i64 0, .int .i64 0, .int .i64 0, .string ⟨#[]⟩, .string ⟨#[]⟩, .string ⟨#[]⟩] 27)))
  have KE := Lib.hid (E.below (al1 w (.cells #[.int .i64 0, .int .i64 0, .int .i64 0, .string ⟨#[]⟩, .string ⟨#[]⟩, .string ⟨#[]⟩] 27)))
  have KP := Lib.hid (P.below (al1 w (.cells #[.int .i64 0, .int .i64 0, .int .i64 0, .string ⟨#[]⟩, .string ⟨#[]⟩, .string ⟨#[]⟩] 27)))
  have C0 := Lib.hid (show Cells (w.alloc (.cells #[.int .i64 0, .int .i64 0, .int .i64 0, .string ⟨#[]⟩, .string ⟨#[]⟩, .string ⟨#[]⟩] 27)) w.heap.size (icells zeroI) from cells_at w (icells zeroI) 27)
  clear R T E P
  subst hn
  generalize r.take ch.toNat = t at *
  generalize ch.toNat = k at *
  obtain ⟨xo, xa, xb, xt, xc, xn⟩ := x
  unfold insV at *
  replace HP := Lib.hid HP
  go_enter Tryd.func24, Tryd.ntmps24
  go_wp2_with (first
    | ((with_reducible refine wpList_slice (.slice (cutA (some ⟨b, o, none⟩) c 1) k (c - 1)) ?_ ?_); exact hcut.out _)
    | (go_at_call 36; (with_reducible refine (HP.out _ KT.out KE.out KP.out).mono ?_); rintro e w1 ⟨rfl, b1⟩
       have CX := ((C0.out.below b1).below (al1 _ (.cells #[.int .i64 xo, .int .i64 xa, .int .i64 xb, .string (bs xt), .string (bs xc), .string (bs xn)] 27))).six
       obtain ⟨⟨c0, c1, c2, c3, c4, c5⟩, ⟨f0, f1, f2, f3, f4, f5⟩⟩ := CX
       have L1 := Lib.hid (bnext (bnext (al1 _ _) b1) (al1 _ (.cells #[.int .i64 xo, .int .i64 xa, .int .i64 xb, .string (bs xt), .string (bs xc), .string (bs xn)] 27)))
       have h1 := b1.size
       clear b1))
  refine bodyPost_ret (v := .tuple #[.agg #[.int .i64 xo, .int .i64 xa, .int .i64 xb, .string (bs xt), .string (bs xc), .string (bs xn)], .int .i64 (1 + (k : Int))]) ?_ rfl ⟨rfl, ?_⟩
  · clear HP L1 KT KE KP C0
    simp [results, Tryd.results24, go_sem, *]
  · have B := L1.out
    clear HP L1 KT KE KP C0
    repeat (first | with_reducible exact B | with_reducible refine bset ?_ (by omega))
set_option maxHeartbeats 4000000 in
theorem first_no (ch : UInt8) (r : List UInt8) (b o n c : Nat) (w : World) (T : Tab w) (E : Errs w) (P : Pow w) (R : Row w (some ⟨b, o, none⟩) n c ((ch :: r).map byteV)) (h : ch.toNat ≤ r.length)
    (HP : ∀ w, Tab w → Errs w → Pow w → Calls Tryd.prog 36 #[.string (bs (r.take ch.toNat))] w fun e w' => e = .returned (.tuple #[insV zeroI, errV 1]) ∧ Below w.heap.size w w') :
    Calls Tryd.prog 24 #[.slice (some ⟨b, o, none⟩) n c] w fun e w' => e = .returned (.tuple #[insV zeroI, .int .i64 0]) ∧ Below w.heap.size w w' := by
  have hn : n = r.length + 1 := by have := R.1; simp at this; omega
  have hnc := R.2.1
  have hc := fun x => head_cell (R.alloc x)
  have hcv := fun x => conv_row (text_row (R.alloc x) h)
  have hcut := Lib.hid (fun w => text_cut (some ⟨b, o, none⟩) n c ch.toNat w (by omega))
  have hlt := byte_lt ch
  have KT := Lib.hid (T.below (al1 w (.cells #[.int .i64 0, .int .i64 0, .int .i64 0, .string ⟨#[]⟩, .string ⟨#[]⟩, .string ⟨#[]⟩] 27)))
  have KE := Lib.hid (E.below (al1 w (.cells #[.int .i64 0, .int .i64 0, .int .i64 0, .string ⟨#[]⟩, .string ⟨#[]⟩, .string ⟨#[]⟩] 27)))
  have KP := Lib.hid (P.below (al1 w (.cells #[.int .i64 0, .int .i64 0, .int .i64 0, .string ⟨#[]⟩, .string ⟨#[]⟩, .string ⟨#[]⟩] 27)))
  have C0 := Lib.hid (show Cells (w.alloc (.cells #[.int .i64 0, .int .i64 0, .int .i64 0, .string ⟨#[]⟩, .string ⟨#[]⟩, .string ⟨#[]⟩] 27)) w.heap.size (icells zeroI) from cells_at w (icells zeroI) 27)
  clear R T E P
  subst hn
  generalize r.take ch.toNat = t at *
  generalize ch.toNat = k at *
  unfold insV zeroI at *
  replace HP := Lib.hid HP
  go_enter Tryd.func24, Tryd.ntmps24
  go_wp2_with (first
    | ((with_reducible refine wpList_slice (.slice (cutA (some ⟨b, o, none⟩) c 1) k (c - 1)) ?_ ?_); exact hcut.out _)
    | (go_at_call 36; (with_reducible refine (HP.out _ KT.out KE.out KP.out).mono ?_); rintro e w1 ⟨rfl, b1⟩
       have CX := ((C0.out.below b1).below (al1 _ (.cells #[.int .i64 0, .int .i64 0, .int .i64 0, .string (bs []), .string (bs []), .string (bs [])] 27))).six
       obtain ⟨⟨c0, c1, c2, c3, c4, c5⟩, ⟨f0, f1, f2, f3, f4, f5⟩⟩ := CX
       have L1 := Lib.hid (bnext (bnext (al1 _ _) b1) (al1 _ (.cells #[.int .i64 0, .int .i64 0, .int .i64 0, .string (bs []), .string (bs []), .string (bs [])] 27)))
       have h1 := b1.size
       clear b1))
  refine bodyPost_ret (v := .tuple #[.agg #[.int .i64 0, .int .i64 0, .int .i64 0, .string ⟨#[]⟩, .string ⟨#[]⟩, .string ⟨#[]⟩], .int .i64 0]) ?_ rfl ⟨rfl, ?_⟩
  · clear HP L1 KT KE KP C0
    simp [results, Tryd.results24, go_sem, *]
    try rfl
  · have B := L1.out
    clear HP L1 KT KE KP C0
    repeat (first | with_reducible exact B | with_reducible refine bset ?_ (by omega))
theorem first_any (l : List UInt8) (A : Option Addr) (n c : Nat) (w : World) (T : Tab w) (E : Errs w) (P : Pow w) (R : Row w A n c (l.map byteV)) :
    Calls Tryd.prog 24 #[.slice A n c] w fun e w' => e = .returned (.tuple #[insV (firstM l).1, .int .i64 ((firstM l).2 : Int)]) ∧ Below w.heap.size w w' := by
  cases l with
  | nil => exact first_none n c A w (by have := R.1; simpa using this.symm)
  | cons ch r =>
    have hn : 0 < n := by have := R.1; simp at this; omega
    obtain ⟨b, o, rfl, _⟩ := R.2.2 hn
    rw [firstM_cons]
    by_cases h : ch.toNat ≤ r.length
    · have hl : (r.take ch.toNat).length ≤ 140737488351232 := by have := byte_lt ch; rw [List.length_take]; omega
      have HP := fun w T E P => parse_any (r.take ch.toNat) w T E P hl
      by_cases hf : parseF (r.take ch.toNat) = 0
      · rw [if_pos ⟨h, hf⟩]
        rw [hf] at HP
        have := first_yes ch r b o n c w T E P R h _ HP
        rw [show ((ch.toNat + 1 : Nat) : Int) = 1 + (ch.toNat : Int) by omega]
        exact this
      · rw [if_neg (fun h => hf h.2)]
        have hb : parseB (r.take ch.toNat) = false := by
          cases hb : parseB (r.take ch.toNat) with
          | false => rfl
          | true => exact absurd (by unfold parseF; rw [hb]; rfl) hf
        rw [show parseM (r.take ch.toNat) = zeroI by unfold parseM; rw [hb]; rfl, show parseF (r.take ch.toNat) = 1 by unfold parseF; rw [hb]; rfl] at HP
        exact first_no ch r b o n c w T E P R h HP
    · rw [if_neg (fun hh => h hh.1)]
      exact first_short ch r b o n c w R h
end Go.Proofs.YthnilohilbacpaaDoor
