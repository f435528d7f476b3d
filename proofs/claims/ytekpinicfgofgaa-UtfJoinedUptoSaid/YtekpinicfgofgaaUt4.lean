/- The contract of utf.Decode: the units that b is the encoding of, or the error of form where there are none. -/
import Derived.Test.YtekpinicfgofgaaUt3
namespace Go.Proofs.Ytekpinicfgofgaa
open Go.ChangeShapes Go.WideShapes Go.ChangeAt Go.RowKit
set_option linter.unusedVariables false
attribute [local go_sem] eqGuard_errV_nil eqGuard_errV_iface eql_errV_nil neq_errV_nil eql_errV_form

theorem enc_first {l l0 : List UInt16} {r : List UInt8} (h : encL l = encL l0 ++ r) (hr : 0 < r.length) : (firstU r).2 = sizeN (firstU r).1 ∧ (firstU r).2 ≠ 0 := by
  obtain ⟨c, rfl, e⟩ := encL_prefix h.symm
  cases c with
  | nil => rw [e] at hr; exact absurd hr (by simp [encL])
  | cons u c =>
    rw [e, encL_cons, encU, first_enc (unit_lt u)]
    exact ⟨rfl, by have := size_range u.toNat; simp only; omega⟩
theorem enc_next {l0 : List UInt16} {b r : List UInt8} (h : encL l0 ++ r = b) (hr : 0 < r.length) (h0 : (firstU r).2 ≠ 0) (hn : (firstU r).2 = sizeN (firstU r).1) :
    encL (l0 ++ [UInt16.ofNat (firstU r).1]) ++ r.drop (firstU r).2 = b := by
  have := first_yes hr h0 hn
  rw [encL_append, ← h, List.append_assoc]
  congr 1
  rw [encL_cons, encL_nil, List.append_nil, encU, unit_of (first_range r).1]
  exact this.symm
theorem unit_row (w : World) (x : Nat) (hx : x < 65536) (t : TypeId) (y : Nat × Nat) : Row (w.alloc (.cells #[.int .u16 (x : Int)] t y)) (some ⟨w.heap.size, 0, none⟩) 1 1 ([UInt16.ofNat x].map unitV) := by
  have := Row.lit w #[.int .u16 (x : Int)] t y
  rw [List.map_cons, List.map_nil, unitV, unit_of hx]
  exact this
def DecSays (w : World) (b : List UInt8) (e : Ending) (w' : World) : Prop :=
  Below w.heap.size w w' ∧ ((∃ l v, encL l = b ∧ e = .returned (.tuple #[v, .nilIface]) ∧ w'.ownsRow w.heap.size 33 1 v l.length (l.map unitV)) ∨ ((∀ l, encL l ≠ b) ∧ e = .returned (.tuple #[.slice none 0 0, errV 1])))
set_option maxRecDepth 20000 in
theorem decode_any (b : List UInt8) (A : Option Addr) (n c : Nat) (w : World) (R : Row w A n c (b.map byteV)) (hn : n ≤ 16777216) :
    Calls Try.prog 8 #[.slice A n c] w (DecSays w b) := by
  have hl : b.length = n := by simpa using R.1
  subst hl
  have HR := Lib.hid R
  have hfu := Lib.hid firstUnit_any
  have hsz := Lib.hid usize_any
  clear R
  go_enter Try.func8, Try.ntmps8
  go_wp2_with fail
  go_loopw [0, 4] (fun s v wr => ∃ (r : List UInt8) (l0 : List UInt16) (A : Option Addr) (c : Nat), s = .slice A r.length c ∧ Hid (Row w A r.length c (r.map byteV)) ∧ Hid (wr.ownsRow w.heap.size 33 1 v l0.length (l0.map unitV)) ∧ Hid (Below w.heap.size w wr) ∧ Hid (encL l0 ++ r = b))
    (fun s _ _ => match s with | .slice _ k _ => k | _ => 0)
  case atStart => exact ⟨b, [], A, c, rfl, HR, Lib.hid (World.ownsRow_nil _ _ _ _), Lib.hid (Below.refl _ _), Lib.hid rfl⟩
  case round =>
    obtain ⟨r, l0, A', c', rfl, HR', HO, HB, HE⟩ := hrel
    by_cases h0 : 0 < r.length
    · have hf := Lib.hid (hfu.out r A' r.length c' wr (HR'.out.below HB.out) h0)
      have hrg := first_range r
      have hle : l0.length + r.length ≤ b.length := by
        have h1 := congrArg List.length HE.out
        have h2 := (encL_length l0).1
        rw [List.length_append] at h1
        omega
      have hk := hrg.2.2 h0
      have hx := hrg.1
      have hwr := HB.out.size
      have hs1 := Lib.hid (hsz.out (firstU r).1 wr hx)
      by_cases hgood : (firstU r).2 ≠ 0 ∧ (firstU r).2 = sizeN (firstU r).1
      · have HN := Lib.hid (enc_next HE.out h0 hgood.1 hgood.2)
        have hcut := Lib.hid (fun w => cut_l w A' r.length c' (firstU r).2 hk)
        have HC := Lib.hid (show Row w (cutA A' c' (firstU r).2) (r.length - (firstU r).2) (c' - (firstU r).2) ((r.drop (firstU r).2).map byteV) from by
          have := HR'.out.cut (l := (firstU r).2) (h := r.length) hk (Nat.le_refl _)
          rw [List.take_of_length_le (by simp)] at this
          rw [List.map_drop]; exact this)
        have HD := Lib.hid (show (r.drop (firstU r).2).length = r.length - (firstU r).2 by simp)
        have hk0 := hgood.1
        have hi1 : (((firstU r).2 : Int) == 0) = false := by rw [beq_eq_false_iff_ne]; omega
        have hi2 : (((firstU r).2 : Int) != (sizeN (firstU r).1 : Int)) = false := by rw [bne_eq_false_iff_eq]; omega
        clear hgood
        generalize hX : (firstU r).1 = x at *
        generalize hK : (firstU r).2 = k at *
        generalize sizeN x = z at *
        clear hrg hX hK
        go_wp2_with (first
          | (go_at_call 14; (with_reducible refine hf.out.mono ?_); rintro e w1 ⟨rfl, rfl⟩)
          | (go_at_call 15; (with_reducible refine hs1.out.mono ?_); rintro e w1 ⟨rfl, rfl⟩)
          | (at_builtin; refine wpList_units rfl _ _ rfl w.heap.size _ l0 [UInt16.ofNat x] rfl (HO.out.alloc _) _ 1 1 rfl (unit_row wr x hx _ _) (by decide) (by omega) (by simp; omega) ?_; intro v' w2 hv hb; have HV2 := Lib.hid hv; have HW2 := Lib.hid ((HB.out.alloc hwr _).trans hb); clear hv hb)
          | ((with_reducible refine wpList_slice (.slice (cutA A' c' k) (r.length - k) (c' - k)) ?_ ?_); exact hcut.out _))
        go_round
        case rel => exact ⟨r.drop k, l0 ++ [UInt16.ofNat x], _, _, by rw [HD.out], Lib.hid (by rw [HD.out]; exact HC.out), HV2, HW2, HN⟩
        case measure => first | (simp; omega) | simp
      · have HNO := Lib.hid (show ∀ l, encL l ≠ b from fun l hl => hgood (by
          have := enc_first (hl.trans HE.out.symm) h0
          exact ⟨this.2, this.1⟩))
        by_cases hk0 : (firstU r).2 = 0
        · have hi1 : (((firstU r).2 : Int) == 0) = true := by rw [beq_iff_eq]; omega
          clear hgood hk0
          generalize (firstU r).1 = x at *
          generalize (firstU r).2 = k at *
          clear hrg
          go_wp2_with (first
            | (go_at_call 14; (with_reducible refine hf.out.mono ?_); rintro e w1 ⟨rfl, rfl⟩)
            | (go_at_call 15; (with_reducible refine hs1.out.mono ?_); rintro e w1 ⟨rfl, rfl⟩))
          go_ret2
          exact ⟨HB.out, .inr ⟨HNO.out, rfl⟩⟩
        · have hne : ¬ (firstU r).2 = sizeN (firstU r).1 := fun h => hgood ⟨hk0, h⟩
          have hi1 : (((firstU r).2 : Int) == 0) = false := by rw [beq_eq_false_iff_ne]; omega
          have hi2 : (((firstU r).2 : Int) != (sizeN (firstU r).1 : Int)) = true := by rw [bne_iff_ne]; omega
          clear hgood hk0 hne
          generalize (firstU r).1 = x at *
          generalize (firstU r).2 = k at *
          generalize sizeN x = z at *
          clear hrg
          go_wp2_with (first
            | (go_at_call 14; (with_reducible refine hf.out.mono ?_); rintro e w1 ⟨rfl, rfl⟩)
            | (go_at_call 15; (with_reducible refine hs1.out.mono ?_); rintro e w1 ⟨rfl, rfl⟩))
          go_ret2
          exact ⟨HB.out, .inr ⟨HNO.out, rfl⟩⟩
    · have hr : r = [] := List.eq_nil_of_length_eq_zero (by omega)
      subst hr
      have HX := Lib.hid (show encL l0 = b by have := HE.out; simpa using this)
      go_wp2
      go_ret2
      exact ⟨HB.out, .inl ⟨l0, _, HX.out, rfl, HO.out⟩⟩
end Go.Proofs.Ytekpinicfgofgaa
