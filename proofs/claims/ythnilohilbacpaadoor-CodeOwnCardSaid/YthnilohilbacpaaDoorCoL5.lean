/- The walk of coffeehouselaw5.CodeOwn. -/
import Derived.Test.YthnilohilbacpaaDoorCoL1
import Derived.Test.YthnilohilbacpaaDoorCoS
import Derived.Test.YthnilohilbacpaaDoorNamed5
import Derived.Deep.OwnRows
namespace Go.Proofs.YthnilohilbacpaaDoor
open Go.ChangeShapes Go.WideShapes Go.ChangeAt Go.RowKit
set_option linter.unusedVariables false
attribute [local go_sem] eqGuard_errV_nil eqGuard_errV_iface eql_errV_nil neq_errV_nil eql_errV_form

theorem cell_far (w : World) (p a : Addr) (v : Value) (h : p.block ≠ a.block) : (w.setCell p v).cell? a = w.cell? a := by
  apply World.cell?_setCell_other
  intro e
  exact h (by rw [e])
theorem Row.own' {w : World} {base : Nat} {e : TypeId} {v : Value} {k : Nat} {xs : List Value} (h : w.ownsRow base e 1 v k xs) : ∀ A c, v = .slice A k c → Row w A k c xs := fun A c hv => by subst hv; exact Row.own h
theorem codeSame_true (A B : Option Addr) (n c d : Nat) (xs : List InsD) (w : World) (ha : InsRow w A n c xs) (hb : InsRow w B n d xs) (hm : n ≤ 40) :
    Calls Tryd.prog 14 #[.slice A n c, .slice B n d] w fun e w' => e = .returned (.bool true) ∧ Below w.heap.size w w' :=
  (sameCode_any A B n n c d xs xs w ha hb (by omega)).mono fun _ _ ⟨he, k, hw⟩ => ⟨by rw [he]; simp, by subst hw; exact ⟨rfl, rfl, rfl, Nat.le_refl _, fun _ _ => rfl⟩⟩
/-- The block g is written over; what lies elsewhere is as in w4. -/
def Over (w w4 : World) (g cap : Nat) (wr : World) : Prop :=
  (∃ f, wr.rowIs g 5 cap f) ∧ (∀ p : Addr, p.block ≠ g → wr.cell? p = w4.cell? p) ∧ wr.heap.size = w4.heap.size ∧ Below w.heap.size w wr
theorem Over.cell {w w4 wr : World} {g cap : Nat} (h : Over w w4 g cap wr) {j : Nat} (hj : j < cap) : ∃ u, wr.cell? ⟨g, j, none⟩ = some u := by
  obtain ⟨⟨f, h1⟩, _⟩ := h
  exact ⟨_, h1.cell hj⟩
theorem Over.frozen {w w4 wr : World} {g cap : Nat} (h : Over w w4 g cap wr) (j : Nat) : wr.frozen? ⟨g, j, none⟩ = false := by
  obtain ⟨⟨f, h1⟩, _⟩ := h
  exact h1.frozen j
theorem Over.set {w w4 wr : World} {g cap : Nat} (h : Over w w4 g cap wr) (hg : w.heap.size ≤ g) (j : Nat) (v : Value) : Over w w4 g cap (wr.setCell ⟨g, j, none⟩ v) := by
  obtain ⟨⟨f, h1⟩, h2, h3, h4⟩ := h
  refine ⟨⟨_, h1.set j v⟩, fun p hp => ?_, ?_, h4.setCell hg v⟩
  · rw [cell_far wr _ _ _ (fun e => hp e.symm)]
    exact h2 p hp
  · rw [← h3]
    simp [World.setCell]
theorem Row.over {w2 w4 wr : World} {A : Option Addr} {n c g : Nat} {cs : List Value} (R : Row w2 A n c cs) (hg : w2.heap.size ≤ g) (hb : Below w2.heap.size w2 w4) (hs : w4.heap.size ≤ wr.heap.size) (hk : ∀ p : Addr, p.block ≠ g → wr.cell? p = w4.cell? p) : Row wr A n c cs :=
  R.kept (Nat.le_trans hb.size hs) fun p hp => (hk p (by omega)).trans (hb.cell hp)
theorem InsRow.over {w4 wr : World} {A : Option Addr} {n c g : Nat} {l : List InsD} (R : InsRow w4 A n c l) (hA : ∀ a, A = some a → g < a.block) (hs : w4.heap.size ≤ wr.heap.size) (hk : ∀ p : Addr, p.block ≠ g → wr.cell? p = w4.cell? p) : InsRow wr A n c l :=
  ⟨R.1, R.2.1, fun hn => by
    obtain ⟨b, o, e, hb, hc⟩ := R.2.2 hn
    have := hA _ e
    exact ⟨b, o, e, by omega, fun j x hx => (hc j x hx).kept fun p hp => hk p (by rw [hp]; exact Nat.ne_of_gt this)⟩⟩
theorem own_block {w : World} {base k : Nat} {v : Value} {xs : List Value} (h : w.ownsRow base 5 1 v (k + 1) xs) : ∃ g cap, v = .slice (some ⟨g, 0, none⟩) (k + 1) cap ∧ base ≤ g ∧ g < w.heap.size ∧ k + 1 ≤ cap ∧ ∃ f, w.rowIs g 5 cap f := by
  rcases h.2 with ⟨_, h0⟩ | ⟨g, cap, cur, rfl, hb, hg, hn, _, hs, _⟩
  · cases h0
  · refine ⟨g, cap, rfl, hb, ?_, hn, fun i => cur.getD i .nilIface, cur, hg, by simpa using hs, fun i hi => ?_⟩
    · rcases Nat.lt_or_ge g w.heap.size with hlt | hge
      · exact hlt
      · rw [Array.getElem?_eq_none hge] at hg; cases hg
    · have hc : i < cur.size := by rw [hs]; omega
      rw [Array.getElem?_eq_getElem hc]
      simp [Array.getD, hc]
theorem over_start {w w3 w4 : World} {g cap : Nat} (hr : ∃ f, w3.rowIs g 5 cap f) (h3 : Below w.heap.size w w3) (h4 : Below w3.heap.size w3 w4) : Over w w4 g cap w4 := by
  obtain ⟨f, hr⟩ := hr
  exact ⟨⟨f, hr.of_block (h4.block g hr.lt)⟩, fun p _ => rfl, rfl, bnext h3 h4⟩
theorem own_bad (l : List InsD) (A : Option Addr) (n c : Nat) (ch : UInt8) (w : World) (T : Tab w) (E : Errs w) (P : Pow w) (R : InsRow w A n c l) (hw : ∀ x ∈ l, x.wf) (hf : ∀ x ∈ l, x.fits) (h0 : codeF l ≠ 0) :
    Calls Tryd.prog 6 #[.slice A n c, .int .u8 (ch.toNat : Int)] w fun e w' => e = .returned (.bool true) ∧ Below w.heap.size w w' := by
  have HN := Lib.hid (fun W T P R => (encode_any l A n c W T P R hw hf).mono fun _ _ h => enc_fails h h0)
  have HC := Lib.hid (named5_any)
  have HT := Lib.hid T
  have HP := Lib.hid P
  have HR := Lib.hid R
  have hne : (codeF l != 0) = true := by rw [bne_iff_ne]; exact h0
  clear T P R E hw hf h0
  generalize codeF l = f at *
  go_enter Tryd.func6, Tryd.ntmps6
  go_wp2_with (first
    | (go_at_call 15; (with_reducible refine (HC.out _).mono ?_); rintro e w1 ⟨rfl, rfl⟩)
    | (go_at_call 10; (with_reducible refine (HN.out _ HT.out HP.out HR.out).mono ?_); rintro e w2 ⟨rfl, hb⟩; have HB2 := Lib.hid hb; clear hb))
  go_ret
  exact ⟨rfl, HB2.out⟩
set_option maxRecDepth 20000 in
set_option maxHeartbeats 8000000 in
theorem own_good (l : List InsD) (A : Option Addr) (n c : Nat) (ch : UInt8) (w : World) (T : Tab w) (E : Errs w) (P : Pow w) (R : InsRow w A n c l) (hw : ∀ x ∈ l, x.wf) (hf : ∀ x ∈ l, x.fits) (h0 : codeF l = 0) :
    Calls Tryd.prog 6 #[.slice A n c, .int .u8 (ch.toNat : Int)] w fun e w' => e = .returned (.bool true) ∧ Below w.heap.size w w' := by
  have hl := (codeF_right hw).1 h0
  have hln : l.length = n := R.1
  subst hln
  have hl40 := hl.1
  obtain ⟨k, hk⟩ : ∃ k, (codeL l).length = k + 1 := ⟨_, rfl⟩
  have hkb := code_len hl
  have HN := fun W A c T P R => (encode_any l A l.length c W T P R hw hf).mono fun _ _ h => enc_gives h h0
  have HD := Lib.hid (fun W A n c T E P (R : Row W A n c _) => (decode_any (codeL l) A n c W T E P R).mono fun _ _ h => dec_good hl h)
  have HS := Lib.hid (fun W A B c d R S => codeSame_true A B l.length c d l W R S hl40)
  rw [hk] at HN hkb
  replace HN := Lib.hid HN
  have HK := Lib.hid hk
  have HC := Lib.hid (named5_any)
  have HT := Lib.hid T
  have HP := Lib.hid P
  have HE := Lib.hid E
  have HR := Lib.hid R
  clear T P R E hw hf h0 hl hk
  go_enter Tryd.func6, Tryd.ntmps6
  go_wp2_with (first
    | (go_at_call 15; (with_reducible refine (HC.out _).mono ?_); rintro e w1 ⟨rfl, rfl⟩)
    | (go_at_call 10; (with_reducible refine (HN.out _ _ _ HT.out HP.out HR.out).mono ?_); rintro e w2 ⟨A2, c2, rfl, hr, hb⟩
       have HR2 := Lib.hid hr
       have HB2 := Lib.hid hb
       clear hb hr)
    | (at_builtin; refine wpList_bytes rfl (.tmp 26) (.tmp 27) rfl w2.heap.size _ [] (codeL l) rfl (bytes_none w2 _ (Nat.le_refl _)) _ (k + 1) c2 rfl (HR2.out.below (al1 _ _)) (by omega) (by simp; omega) (by simp) ?_
       intro v3 w3 hv hb
       rw [List.nil_append, HK.out] at hv
       have R3 := Row.own' hv
       obtain ⟨g, cap, rfl, hg1, hg2, hcap, hrow⟩ := own_block hv
       have HR3 := Lib.hid (R3 _ _ rfl)
       have HW3 := Lib.hid hrow
       have HB23 := Lib.hid (((Below.refl w2.heap.size w2).alloc (Nat.le_refl _) _).trans hb)
       have HB3 := Lib.hid (bnext HB2.out HB23.out)
       clear hv hb hrow R3)
    | (go_at_call 13; (with_reducible refine (HD.out _ _ _ _ (HT.out.below HB3.out) (HE.out.below HB3.out) (HP.out.below HB3.out) HR3.out).mono ?_); rintro e w4 ⟨A4, c4, rfl, hr, hb, ha⟩
       have HR4 := Lib.hid hr
       have HA4 := Lib.hid (fun a e => Nat.lt_of_lt_of_le hg2 (ha a e))
       have HO4 := Lib.hid (over_start HW3.out HB3.out hb)
       have HB24 := Lib.hid (bnext HB23.out hb)
       have hs2 := HB2.out.size
       clear hb hr ha))
  go_loopw [11] (fun i wr => ∃ j : Nat, j ≤ k + 1 ∧ i = .int .i64 j ∧ Hid (Over w w4 g cap wr)) (fun i _ => k + 1 - (intOf i).toNat)
  case atStart => exact ⟨0, Nat.zero_le _, rfl, HO4⟩
  case round =>
    obtain ⟨j, hj, rfl, HO⟩ := hrel
    by_cases hlt : j < k + 1
    · obtain ⟨u, hu⟩ := HO.out.cell (j := j) (by omega)
      have hfz := HO.out.frozen j
      have HO2 := Lib.hid (HO.out.set (by omega) j (.int .u8 (ch.toNat : Int)))
      go_wp2
      go_round
      case rel => exact ⟨j + 1, by omega, by go_num, HO2⟩
      case measure => first | (simp [intOf]; omega) | simp [intOf]
    · obtain rfl : j = k + 1 := by omega
      have RW := Lib.hid (HR4.out.over HA4.out (by rw [HO.out.2.2.1]; exact Nat.le_refl _) HO.out.2.1)
      have RB := Lib.hid (HR2.out.over hg1 HB24.out (by rw [HO.out.2.2.1]; exact Nat.le_refl _) HO.out.2.1)
      have HL := Lib.hid HO.out.2.2.2
      go_wp2_with (first
        | (go_at_call 14; (with_reducible refine (HS.out _ _ _ _ _ RW.out (HR.out.below HL.out)).mono ?_); rintro e w5 ⟨rfl, hb⟩
           have RW5 := Lib.hid (RW.out.below hb)
           have RB5 := Lib.hid (RB.out.below hb)
           have HL5 := Lib.hid (bnext HL.out hb)
           clear hb)
        | (go_at_call 10; (with_reducible refine (HN.out _ _ _ (HT.out.below HL5.out) (HP.out.below HL5.out) RW5.out).mono ?_); rintro e w6 ⟨A6, c6, rfl, hr, hb⟩
           have g6 := conv_row hr
           have g2 := conv_row (RB5.out.below hb)
           have HL6 := Lib.hid (bnext HL5.out hb)
           clear hb hr))
      go_ret
      exact ⟨rfl, HL6.out⟩
theorem codeOwn_walk (l : List InsD) (A : Option Addr) (n c : Nat) (ch : UInt8) (w : World) (T : Tab w) (E : Errs w) (P : Pow w) (R : InsRow w A n c l) (hw : ∀ x ∈ l, x.wf) (hf : ∀ x ∈ l, x.fits) :
    Calls Tryd.prog 6 #[.slice A n c, .int .u8 (ch.toNat : Int)] w fun e w' => e = .returned (.bool true) ∧ Below w.heap.size w w' := by
  by_cases h0 : codeF l = 0
  · exact own_good l A n c ch w T E P R hw hf h0
  · exact own_bad l A n c ch w T E P R hw hf h0
end Go.Proofs.YthnilohilbacpaaDoor
