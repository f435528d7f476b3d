/- The contract of code.Decode: the instructions that b is the form of, or the error of form where there are none. -/
import Derived.Test.YthnilohilbacpaaDoorCoF
namespace Go.Proofs.YthnilohilbacpaaDoor
open Go.ChangeShapes Go.WideShapes Go.ChangeAt Go.RowKit
set_option linter.unusedVariables false
attribute [local go_sem] eqGuard_errV_nil eqGuard_errV_iface eql_errV_nil neq_errV_nil eql_errV_form

def DecSays (w : World) (b : List UInt8) (e : Ending) (w' : World) : Prop :=
  Below w.heap.size w w' ∧ ((∃ l v, Right l ∧ codeL l = b ∧ e = .returned (.tuple #[v, errV 0]) ∧ w'.ownsRow w.heap.size 27 6 v l.length (l.flatMap insC)) ∨ ((∀ l, Right l → codeL l ≠ b) ∧ e = .returned (.tuple #[.slice none 0 0, errV 1])))
theorem good_more {l0 : List InsD} {x : InsD} (h : ∀ y ∈ l0, y.good) (hx : x.good) : ∀ y ∈ l0 ++ [x], y.good := by
  intro y hy
  rcases List.mem_append.1 hy with hy | hy
  · exact h y hy
  · obtain rfl := List.mem_singleton.1 hy
    exact hx
theorem rest_row {w : World} {A : Option Addr} {n c : Nat} {r : List UInt8} (R : Row w A n c (r.map byteV)) (k : Nat) (hk : k ≤ n) : Row w (cutA A c k) (n - k) (c - k) ((r.drop k).map byteV) := by
  have := R.cut (l := k) (h := n) hk (Nat.le_refl _)
  have hl : r.length = n := by simpa using R.1
  rw [List.take_of_length_le (by rw [List.length_map]; omega)] at this
  rw [List.map_drop]; exact this
theorem lit_second (w : World) (o : Obj) (x : InsD) (t : TypeId) (f : Nat × Nat) : InsRow ((w.alloc o).alloc (.cells #[.int .i64 x.op, .int .i64 x.a, .int .i64 x.b, .string (bs x.ty), .string (bs x.cl), .string (bs x.nm)] t f)) (some ⟨w.heap.size + 1, 0, none⟩) 1 1 [x] := by
  have := InsRow.lit (w.alloc o) x t f
  rw [show (w.alloc o).heap.size = w.heap.size + 1 by simp] at this
  exact this
theorem decode_empty (b : List UInt8) (A : Option Addr) (n c : Nat) (w : World) (hb : b = []) (hn : n = 0) : Calls Tryd.prog 13 #[.slice A n c] w (DecSays w b) := by
  subst hn
  have HNO := Lib.hid (show ∀ l, Right l → codeL l ≠ b from fun l _ h => by rw [hb] at h; cases h)
  clear hb
  go_enter Tryd.func13, Tryd.ntmps13
  go_wp2
  go_ret2
  exact ⟨Below.refl _ _, .inr ⟨HNO.out, rfl⟩⟩
theorem decode_many (m : UInt8) (r : List UInt8) (b o n c : Nat) (w : World) (R : Row w (some ⟨b, o, none⟩) n c ((m :: r).map byteV)) (hm : 40 < m.toNat) : Calls Tryd.prog 13 #[.slice (some ⟨b, o, none⟩) n c] w (DecSays w (m :: r)) := by
  have hn : n = r.length + 1 := by have := R.1; simp at this; omega
  have hc := head_cell R
  have HNO := Lib.hid (show ∀ l, Right l → codeL l ≠ m :: r from fun l hl => code_many rfl hm l hl)
  generalize m :: r = z at *
  generalize m.toNat = k at *
  clear R
  subst hn
  go_enter Tryd.func13, Tryd.ntmps13
  go_wp2
  go_ret2
  exact ⟨Below.refl _ _, .inr ⟨HNO.out, rfl⟩⟩
set_option maxRecDepth 20000 in
set_option maxHeartbeats 4000000 in
theorem decode_some (m : UInt8) (r0 : List UInt8) (bb oo n c : Nat) (w : World) (T : Tab w) (E : Errs w) (P : Pow w) (R : Row w (some ⟨bb, oo, none⟩) n c ((m :: r0).map byteV)) (hm : m.toNat ≤ 40) :
    Calls Tryd.prog 13 #[.slice (some ⟨bb, oo, none⟩) n c] w (DecSays w (m :: r0)) := by
  have hn : n = r0.length + 1 := by have := R.1; simp at this; omega
  have hc := head_cell R
  have hcut := Lib.hid (fun w => cut_l w (some ⟨bb, oo, none⟩) n c 1 (by omega))
  have HR1 := Lib.hid (rest_row R 1 (by omega))
  have HR := Lib.hid R
  have HT := Lib.hid T
  have HE := Lib.hid E
  have HP := Lib.hid P
  clear R T E P
  subst hn
  generalize hM : m.toNat = M at *
  go_enter Tryd.func13, Tryd.ntmps13
  go_wp2_with (first
    | ((with_reducible refine wpList_slice (.slice (cutA (some ⟨bb, oo, none⟩) c 1) (r0.length + 1 - 1) (c - 1)) ?_ ?_); exact hcut.out _))
  go_loopw [4, 5, 6, 7, 23] (fun v s _ _ i wr => ∃ (l0 : List InsD) (r : List UInt8) (A : Option Addr) (c : Nat), s = .slice A r.length c ∧ l0.length ≤ M ∧ i = .int .u8 (l0.length : Int) ∧ Hid (Row w A r.length c (r.map byteV)) ∧ Hid (wr.ownsRow w.heap.size 27 6 v l0.length (l0.flatMap insC)) ∧ Hid (Below w.heap.size w wr) ∧ Hid (m :: r0 = m :: (bodyL l0 ++ r)) ∧ Hid (∀ x ∈ l0, x.good))
    (fun _ _ _ _ i _ => M - (intOf i).toNat)
  case atStart => exact ⟨[], r0, _, _, rfl, Nat.zero_le _, rfl, HR1, Lib.hid (World.ownsRow_nil _ _ _ _), Lib.hid (Below.refl _ _), Lib.hid rfl, Lib.hid (fun x hx => by cases hx)⟩
  case round =>
    obtain ⟨l0, r, A', c', rfl, hl0, rfl, HR', HO, HB, HE0, HG⟩ := hrel
    have HF := fun W T E P R => first_any r A' r.length c' W T E P R
    have hsz := HB.out.size
    by_cases hlt : l0.length < M
    · by_cases h0 : (firstM r).2 = 0
      · have HNO := Lib.hid (show ∀ l, Right l → codeL l ≠ m :: r0 from fun l hl => code_none HE0.out HG.out (by rw [hM]; exact hlt) h0 l hl)
        rw [h0] at HF
        clear h0
        generalize (firstM r).1 = x at *
        obtain ⟨xo, xa, xb, xt, xc, xn⟩ := x
        unfold insV at HF
        replace HF := Lib.hid HF
        generalize m :: r0 = bz at *
        go_wp2_with (first
          | (go_at_call 24; (with_reducible refine (HF.out _ (HT.out.below HB.out) (HE.out.below HB.out) (HP.out.below HB.out) (HR'.out.below HB.out)).mono ?_); rintro e w1 ⟨rfl, b1⟩
             have HB1 := Lib.hid (bnext (bnext HB.out b1) (al1 _ (.cells #[.int .i64 xo, .int .i64 xa, .int .i64 xb, .string (bs xt), .string (bs xc), .string (bs xn)] 27)))
             clear b1))
        go_ret2
        exact ⟨HB1.out, .inr ⟨HNO.out, rfl⟩⟩
      · obtain ⟨f1, f2, f3, f4⟩ := first_some h0
        have HG2 := Lib.hid (good_more HG.out f1)
        have HE2 := Lib.hid (code_next HE0.out h0)
        have HRK := Lib.hid (rest_row HR'.out _ f4)
        have hcut2 := Lib.hid (fun w => cut_l w A' r.length c' _ f4)
        have HD := Lib.hid (show (r.drop (firstM r).2).length = r.length - (firstM r).2 by simp)
        have hi1 : (((firstM r).2 : Int) == 0) = false := by rw [beq_eq_false_iff_ne]; omega
        have hw8 : IntKind.u8.wrap ((l0.length : Int) + 1) = (l0.length : Int) + 1 := by rw [IntKind.wrap_u8]; omega
        clear f1 f2 f3 h0
        generalize (firstM r).2 = k at *
        generalize (firstM r).1 = x at *
        obtain ⟨xo, xa, xb, xt, xc, xn⟩ := x
        unfold insV at HF
        replace HF := Lib.hid HF
        go_wp2_with (first
          | (go_at_call 24; (with_reducible refine (HF.out _ (HT.out.below HB.out) (HE.out.below HB.out) (HP.out.below HB.out) (HR'.out.below HB.out)).mono ?_); rintro e w1 ⟨rfl, b1⟩
             have HO1 := Lib.hid (own_below HO.out b1)
             have HB1 := Lib.hid (bnext HB.out b1)
             have hs1 := HB1.out.size
             clear b1)
          | (at_builtin; refine wpList_ins rfl _ _ rfl w.heap.size _ l0 [⟨xo, xa, xb, xt, xc, xn⟩] rfl ((HO1.out.alloc _).alloc _) _ 1 1 rfl (lit_second _ _ ⟨xo, xa, xb, xt, xc, xn⟩ _ _) (by decide) (by omega) (by simp; omega) ?_
             intro v2 w2 hv hb
             have HO2 := Lib.hid hv
             have HB2 := Lib.hid (((HB1.out.alloc hs1 _).alloc (by simp; omega) _).trans hb)
             clear hv hb)
          | ((with_reducible refine wpList_slice (.slice (cutA A' c' k) (r.length - k) (c' - k)) ?_ ?_); exact hcut2.out _))
        go_round
        case rel => exact ⟨l0 ++ [⟨xo, xa, xb, xt, xc, xn⟩], r.drop k, _, _, by rw [HD.out], by simp; omega, by simp, Lib.hid (by rw [HD.out]; exact HRK.out), HO2, HB2, HE2, HG2⟩
        case measure => first | (simp [intOf]; omega) | simp [intOf]
    · by_cases hr : r = []
      · have HX := Lib.hid (show Right l0 ∧ codeL l0 = m :: r0 from ⟨⟨by omega, HG.out⟩, code_done (by rw [hr] at HE0; exact HE0.out) (by omega)⟩)
        subst hr
        generalize m :: r0 = bz at *
        clear HF
        go_wp2
        go_ret2
        exact ⟨HB.out, .inl ⟨l0, _, HX.out.1, HX.out.2, rfl, HO.out⟩⟩
      · have HNO := Lib.hid (show ∀ l, Right l → codeL l ≠ m :: r0 from fun l hl => code_rest HE0.out HG.out (by omega) hr l hl)
        have hr0 : 0 < r.length := List.length_pos_iff.2 hr
        generalize m :: r0 = bz at *
        clear HF hr
        go_wp2
        go_ret2
        exact ⟨HB.out, .inr ⟨HNO.out, rfl⟩⟩
theorem decode_any (b : List UInt8) (A : Option Addr) (n c : Nat) (w : World) (T : Tab w) (E : Errs w) (P : Pow w) (R : Row w A n c (b.map byteV)) :
    Calls Tryd.prog 13 #[.slice A n c] w (DecSays w b) := by
  cases b with
  | nil => exact decode_empty [] A n c w rfl (by have := R.1; simpa using this.symm)
  | cons m r =>
    have hn : 0 < n := by have := R.1; simp at this; omega
    obtain ⟨b, o, rfl, _⟩ := R.2.2 hn
    by_cases h : 40 < m.toNat
    · exact decode_many m r b o n c w R h
    · exact decode_some m r b o n c w T E P R (by omega)
end Go.Proofs.YthnilohilbacpaaDoor
