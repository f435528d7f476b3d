/- The walk of coffeehouselaw1.CodeCut; what Decode gives for a form and for bytes that are none. -/
import Derived.Test.YthnilohilbacpaaDoorCoE
import Derived.Test.YthnilohilbacpaaDoorCoD
namespace Go.Proofs.YthnilohilbacpaaDoor
open Go.ChangeShapes Go.WideShapes Go.ChangeAt Go.RowKit
set_option linter.unusedVariables false
attribute [local go_sem] eqGuard_errV_nil eqGuard_errV_iface eql_errV_nil neq_errV_nil eql_errV_form

/-- Decode of a form. -/
theorem dec_good {w w' : World} {l : List InsD} {e : Ending} (hl : Right l) (h : DecSays w (codeL l) e w') : ∃ A c, e = .returned (.tuple #[.slice A l.length c, .nilIface]) ∧ InsRow w' A l.length c l ∧ Below w.heap.size w w' ∧ ∀ a, A = some a → w.heap.size ≤ a.block := by
  obtain ⟨hb, ⟨m, v, hm, hc, rfl, hv⟩ | ⟨hn, _⟩⟩ := h
  · obtain rfl := code_inj hm hl hc
    obtain ⟨A, c, rfl, R⟩ := own_ins hv
    refine ⟨A, c, rfl, R, hb, fun a ha => ?_⟩
    subst ha
    exact (hv.lt _ rfl).1
  · exact absurd rfl (hn l hl)
/-- Decode of bytes that are no form. -/
theorem dec_bad {w w' : World} {b : List UInt8} {e : Ending} (hb : ∀ l, Right l → codeL l ≠ b) (h : DecSays w b e w') : e = .returned (.tuple #[.slice none 0 0, errV 1]) ∧ Below w.heap.size w w' := by
  obtain ⟨hw, ⟨m, v, hm, hc, _⟩ | ⟨_, he⟩⟩ := h
  · exact absurd hc (hb m hm)
  · exact ⟨he, hw⟩
theorem bytes_none (w : World) (base : Nat) (hb : base ≤ w.heap.size) : (w.alloc (.cells #[] 5 (0, 0))).ownsRow base 5 1 (.slice (some ⟨w.heap.size, 0, none⟩) 0 0) ([] : List UInt8).length (([] : List UInt8).map byteV) :=
  World.ownsRow_made w #[] 0 hb (Nat.zero_le _) rfl
theorem char_row (w : World) (c : UInt8) (t : TypeId) (y : Nat × Nat) : Row (w.alloc (.cells #[.int .u8 (c.toNat : Int)] t y)) (some ⟨w.heap.size, 0, none⟩) 1 1 ([c].map byteV) := Row.lit w #[.int .u8 (c.toNat : Int)] t y
theorem own_bytes {w : World} {base : Nat} {e : TypeId} {v : Value} {l : List UInt8} (h : w.ownsRow base e 1 v l.length (l.map byteV)) : ∃ A c, v = .slice A l.length c ∧ Row w A l.length c (l.map byteV) := by
  obtain ⟨A, c, rfl⟩ := own_form h
  exact ⟨A, c, rfl, Row.own h⟩
theorem body_row {w : World} {A : Option Addr} {k c : Nat} {l : List InsD} (hk : (codeL l).length = k + 1) (R : Row w A (k + 1) c ((codeL l).map byteV)) : Row w (cutA A c 0) k c (((codeL l).take ((codeL l).length - 1)).map byteV) := by
  have := R.cut (l := 0) (h := k) (Nat.zero_le _) (by omega)
  rw [hk, Nat.add_sub_cancel, List.map_take]
  simpa using this
theorem cut_head (W : World) (A : Option Addr) (n c h : Nat) (h2 : h ≤ c) :
    (Instr.sliceAt 28 (.slice A n c) none (some (.int .i64 (h : Int))) none).run Tryd.prog W = .ok (.slice (cutA A c 0) h c) W := cut_h W A n c h h2
set_option maxRecDepth 20000 in
set_option maxHeartbeats 4000000 in
theorem cut_bad (l : List InsD) (A : Option Addr) (n c : Nat) (ch : UInt8) (w : World) (T : Tab w) (E : Errs w) (P : Pow w) (R : InsRow w A n c l) (hw : ∀ x ∈ l, x.wf) (hf : ∀ x ∈ l, x.fits) (h0 : codeF l ≠ 0) :
    Calls Tryd.prog 5 #[.slice A n c, .int .u8 (ch.toNat : Int)] w fun e w' => e = .returned (.bool true) ∧ Below w.heap.size w w' := by
  have HN := Lib.hid (fun W T P R => (encode_any l A n c W T P R hw hf).mono fun _ _ h => enc_fails h h0)
  have HC := Lib.hid (coded_any)
  have HT := Lib.hid T
  have HP := Lib.hid P
  have HR := Lib.hid R
  have hne : (codeF l != 0) = true := by rw [bne_iff_ne]; exact h0
  clear T P R E hw hf h0
  generalize codeF l = f at *
  go_enter Tryd.func5, Tryd.ntmps5
  go_wp2_with (first
    | (go_at_call 8; (with_reducible refine (HC.out _ HT.out HP.out).mono ?_); rintro e w1 ⟨rfl, hb⟩; have HB := Lib.hid hb; clear hb)
    | (go_at_call 10; (with_reducible refine (HN.out _ (HT.out.below HB.out) (HP.out.below HB.out) (HR.out.below HB.out)).mono ?_); rintro e w2 ⟨rfl, hb⟩; have HB2 := Lib.hid (bnext HB.out hb); clear hb))
  go_ret
  exact ⟨rfl, HB2.out⟩
set_option maxRecDepth 20000 in
set_option maxHeartbeats 4000000 in
theorem cut_good (l : List InsD) (A : Option Addr) (n c : Nat) (ch : UInt8) (w : World) (T : Tab w) (E : Errs w) (P : Pow w) (R : InsRow w A n c l) (hw : ∀ x ∈ l, x.wf) (hf : ∀ x ∈ l, x.fits) (h0 : codeF l = 0) :
    Calls Tryd.prog 5 #[.slice A n c, .int .u8 (ch.toNat : Int)] w fun e w' => e = .returned (.bool true) ∧ Below w.heap.size w w' := by
  have hl := (codeF_right hw).1 h0
  obtain ⟨k, hk⟩ : ∃ k, (codeL l).length = k + 1 := ⟨_, rfl⟩
  have hkb := code_len hl
  have HN := fun W T P R => (encode_any l A n c W T P R hw hf).mono fun _ _ h => enc_gives h h0
  have HD1 := Lib.hid (fun W A n c T E P (R : Row W A n c _) => (decode_any ((codeL l).take ((codeL l).length - 1)) A n c W T E P R).mono fun _ _ h => dec_bad (fun m hm => code_short hl hm) h)
  have HD2 := Lib.hid (fun W A n c T E P (R : Row W A n c _) => (decode_any (codeL l ++ [ch]) A n c W T E P R).mono fun _ _ h => dec_bad (fun m hm => code_long hl hm ch) h)
  have HK := Lib.hid hk
  rw [hk] at HN hkb
  replace HN := Lib.hid HN
  have HC := Lib.hid (coded_any)
  have HT := Lib.hid T
  have HP := Lib.hid P
  have HE := Lib.hid E
  have HR := Lib.hid R
  clear T P R E hw hf h0 hk hl
  go_enter Tryd.func5, Tryd.ntmps5
  go_wp2_with (first
    | (go_at_call 8; (with_reducible refine (HC.out _ HT.out HP.out).mono ?_); rintro e w1 ⟨rfl, hb⟩; have HB := Lib.hid hb; clear hb)
    | (go_at_call 10; (with_reducible refine (HN.out _ (HT.out.below HB.out) (HP.out.below HB.out) (HR.out.below HB.out)).mono ?_); rintro e w2 ⟨A2, c2, rfl, hr, hb⟩
       have hc2 := hr.2.1
       have HR2 := Lib.hid hr
       have HB2 := Lib.hid (bnext HB.out hb)
       have hcut := Lib.hid (fun w => cut_head w A2 (k + 1) c2 k (by omega))
       clear hb hr)
    | ((with_reducible refine wpList_slice (.slice (cutA A2 c2 0) k c2) ?_ ?_); exact hcut.out _)
    | (go_at_call 13; (with_reducible refine (HD1.out _ _ _ _ (HT.out.below HB2.out) (HE.out.below HB2.out) (HP.out.below HB2.out) (body_row HK.out HR2.out)).mono ?_); rintro e w3 ⟨rfl, hb⟩
       have HR3 := Lib.hid (HR2.out.below hb)
       have HB3 := Lib.hid (bnext HB2.out hb)
       clear hb)
    | (at_builtin; refine wpList_bytes rfl (.tmp 33) (.tmp 34) rfl w3.heap.size _ [] (codeL l) rfl (bytes_none w3 _ (Nat.le_refl _)) _ (k + 1) c2 rfl (HR3.out.below (al1 _ _)) (by omega) (by simp; omega) (by simp) ?_
       intro v4 w4 hv hb
       rw [List.nil_append] at hv
       have HO4 := Lib.hid hv
       have HB4 := Lib.hid (((Below.refl w3.heap.size w3).alloc (Nat.le_refl _) _).trans hb)
       have hs4 := HB4.out.size
       clear hv hb)
    | (at_builtin; refine wpList_bytes rfl (.tmp 35) (.tmp 37) rfl w3.heap.size _ (codeL l) [ch] rfl (HO4.out.alloc _) _ 1 1 rfl (char_row _ _ _ _) (by decide) (by rw [HK.out]; omega) (by simp; omega) ?_
       intro v5 w5 hv hb
       obtain ⟨A5, c5, rfl, hr⟩ := own_bytes hv
       rw [List.length_append, List.length_singleton] at hr
       have HR5 := Lib.hid hr
       have HB5 := Lib.hid (bnext HB3.out ((HB4.out.alloc hs4 _).trans hb))
       clear hv hb hr)
    | (go_at_call 13; (with_reducible refine (HD2.out _ _ _ _ (HT.out.below HB5.out) (HE.out.below HB5.out) (HP.out.below HB5.out) HR5.out).mono ?_); rintro e w6 ⟨rfl, hb⟩
       have HB6 := Lib.hid (bnext HB5.out hb)
       clear hb))
  go_ret
  exact ⟨rfl, HB6.out⟩
theorem codeCut_walk (l : List InsD) (A : Option Addr) (n c : Nat) (ch : UInt8) (w : World) (T : Tab w) (E : Errs w) (P : Pow w) (R : InsRow w A n c l) (hw : ∀ x ∈ l, x.wf) (hf : ∀ x ∈ l, x.fits) :
    Calls Tryd.prog 5 #[.slice A n c, .int .u8 (ch.toNat : Int)] w fun e w' => e = .returned (.bool true) ∧ Below w.heap.size w w' := by
  by_cases h0 : codeF l = 0
  · exact cut_good l A n c ch w T E P R hw hf h0
  · exact cut_bad l A n c ch w T E P R hw hf h0
end Go.Proofs.YthnilohilbacpaaDoor
