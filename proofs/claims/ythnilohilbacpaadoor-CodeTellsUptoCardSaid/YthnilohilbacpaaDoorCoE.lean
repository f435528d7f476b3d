/- The contract of code.Encode; coded. -/
import Derived.Test.YthnilohilbacpaaDoorCoM
import Derived.Test.YthnilohilbacpaaDoorCoR
import Derived.Test.YthnilohilbacpaaDoorByR
namespace Go.Proofs.YthnilohilbacpaaDoor
open Go.ChangeShapes Go.WideShapes Go.ChangeAt Go.RowKit
set_option linter.unusedVariables false
attribute [local go_sem] eqGuard_errV_nil eqGuard_errV_iface eql_errV_nil neq_errV_nil eql_errV_form

/-- What Encode says of l. -/
def EncSays (w : World) (l : List InsD) (e : Ending) (w' : World) : Prop :=
  Below w.heap.size w w' ∧ ((codeF l = 0 ∧ ∃ v, e = .returned (.tuple #[v, errV 0]) ∧ w'.ownsRow w.heap.size 5 1 v (codeL l).length ((codeL l).map byteV)) ∨ (codeF l ≠ 0 ∧ e = .returned (.tuple #[.slice none 0 0, errV (codeF l)])))
theorem byte_lit (w : World) (n : Nat) (hn : n ≤ 255) (base : Nat) (hb : base ≤ w.heap.size) (e : TypeId) : (w.alloc (.cells #[.int .u8 (n : Int)] e)).ownsRow base e 1 (.slice (some ⟨w.heap.size, 0, none⟩) 1 1) [UInt8.ofNat n].length ([UInt8.ofNat n].map byteV) := by
  have := World.ownsRow_lit (base := base) (e := e) (size := 1) w #[.int .u8 (n : Int)] 1 hb (by decide) rfl
  rw [List.map_cons, List.map_nil, byteV, ofNat_small hn]
  exact this
theorem byte_row (w : World) (n : Nat) (hn : n ≤ 255) (t : TypeId) (y : Nat × Nat) : Row (w.alloc (.cells #[.int .u8 (n : Int)] t y)) (some ⟨w.heap.size, 0, none⟩) 1 1 ([UInt8.ofNat n].map byteV) := by
  have := Row.lit w #[.int .u8 (n : Int)] t y
  rw [List.map_cons, List.map_nil, byteV, ofNat_small hn]
  exact this
theorem enc_start (l : List InsD) : [UInt8.ofNat l.length] = UInt8.ofNat l.length :: bodyL (l.take 0) := rfl
theorem enc_step (l : List InsD) (j : Nat) (hj : j < l.length) :
    ((UInt8.ofNat l.length :: bodyL (l.take j)) ++ [UInt8.ofNat (textM l[j]).length]) ++ textM l[j] = UInt8.ofNat l.length :: bodyL (l.take (j + 1)) := by
  rw [bodyL_take l j hj, itemL]
  simp
theorem body_size {l : List InsD} {j : Nat} (h : ∀ x ∈ l.take j, x.good) : (bodyL (l.take j)).length ≤ 256 * j := by
  have := body_len h
  rw [List.length_take] at this
  omega
theorem good_next {l : List InsD} {j : Nat} (hj : j < l.length) (h : ∀ x ∈ l.take j, x.good) (hg : l[j].good) : ∀ x ∈ l.take (j + 1), x.good := by
  rw [List.take_succ_eq_append_getElem hj]
  intro x hx
  rcases List.mem_append.1 hx with hx | hx
  · exact h x hx
  · obtain rfl := List.mem_singleton.1 hx
    exact hg
set_option maxRecDepth 20000 in
set_option maxHeartbeats 2000000 in
theorem encode_any (l : List InsD) (A : Option Addr) (n c : Nat) (w : World) (T : Tab w) (P : Pow w) (R : InsRow w A n c l) (hw : ∀ x ∈ l, x.wf) (hf : ∀ x ∈ l, x.fits) :
    Calls Tryd.prog 10 #[.slice A n c] w (EncSays w l) := by
  have hl : l.length = n := R.1
  by_cases h40 : 40 < n
  · have hc : codeF l = 4 := by unfold codeF; rw [if_pos (by omega)]
    have HC := Lib.hid hc
    clear hc hl
    go_enter Tryd.func10, Tryd.ntmps10
    go_wp2
    go_ret2
    exact ⟨Below.refl _ _, .inr ⟨by rw [HC.out]; decide, by rw [HC.out]; rfl⟩⟩
  · have HL := Lib.hid hl
    have HR := Lib.hid R
    have HT := Lib.hid T
    have HP := Lib.hid P
    have HW := Lib.hid hw
    have HF := Lib.hid hf
    have hu8 : IntKind.u8.wrap (n : Int) = (n : Int) := by rw [IntKind.wrap_u8]; omega
    clear hl R T P hw hf
    go_enter Tryd.func10, Tryd.ntmps10
    go_wp2_with fail
    go_loopw [4, 6, 7, 8, 19] (fun v _ _ _ i wr => ∃ j : Nat, j ≤ n ∧ i = .int .i64 j ∧ Hid (∀ x ∈ l.take j, x.good) ∧ Hid (wr.ownsRow w.heap.size 5 1 v (UInt8.ofNat l.length :: bodyL (l.take j)).length ((UInt8.ofNat l.length :: bodyL (l.take j)).map byteV)) ∧ Hid (Below w.heap.size w wr)) (fun _ _ _ _ i _ => n - (intOf i).toNat)
    case atStart => exact ⟨0, Nat.zero_le _, rfl, Lib.hid (fun x hx => by cases hx), Lib.hid (by rw [← enc_start, HL.out]; exact byte_lit w n (by omega) _ (Nat.le_refl _) _), Lib.hid ((Below.refl _ _).alloc (Nat.le_refl _) _)⟩
    case round =>
      obtain ⟨j, hj, rfl, HG, HO, HB⟩ := hrel
      by_cases hlt : j < n
      · obtain ⟨b1, o1, rfl, hb1, hx1⟩ := (HR.out.below HB.out).at_ hlt
        have hj1 : j < l.length := by rw [HL.out]; exact hlt
        have hwx := HW.out l[j] (List.getElem_mem _)
        have hfx := HF.out l[j] (List.getElem_mem _)
        have HX := fun w T P => text_any l[j] hwx hfx w T P
        have hsz := HB.out.size
        by_cases h0 : insF l[j] = 0
        · have HS := Lib.hid (enc_step l j hj1)
          have HG2 := Lib.hid (good_next hj1 HG.out ⟨hwx, h0⟩)
          have htb := text_byte ⟨hwx, h0⟩
          have hbs := body_size HG.out
          rw [show textR l[j] = textM l[j] by unfold textR; rw [if_pos h0], h0] at HX
          generalize textM l[j] = tx at *
          clear hwx hfx h0
          generalize l[j] = x at *
          obtain ⟨xo, xa, xb, xt, xc, xn⟩ := x
          obtain ⟨c0, c1, c2, c3, c4, c5⟩ := hx1
          unfold insV at HX
          replace HX := Lib.hid HX
          have hz : (bs tx).size = tx.length := rfl
          have hu2 : IntKind.u8.wrap (tx.length : Int) = (tx.length : Int) := by rw [IntKind.wrap_u8]; omega
          go_wp2_with (first
            | (go_at_call 17; (with_reducible refine (HX.out _ (HT.out.below (bnext HB.out (al1 _ _))) (HP.out.below (bnext HB.out (al1 _ _)))).mono ?_); rintro e w1 ⟨rfl, b1⟩
               have HO1 := Lib.hid (own_below (HO.out.alloc _) b1)
               have HB1 := Lib.hid (bnext (bnext HB.out (al1 _ _)) b1)
               have hs1 := HB1.out.size
               clear b1)
            | (at_builtin; refine wpList_bytes rfl _ _ rfl w.heap.size _ (UInt8.ofNat l.length :: bodyL (l.take j)) [UInt8.ofNat tx.length] rfl (HO1.out.alloc _) _ 1 1 rfl (byte_row _ _ htb _ _) (by decide) (by simp; omega) (by simp; omega) ?_
               intro v2 w2 hv hb
               have HO2 := Lib.hid hv
               have HB2 := Lib.hid ((HB1.out.alloc hs1 _).trans hb)
               have hs2 := HB2.out.size
               clear hv hb)
            | (at_builtin; refine wpList_text rfl _ _ rfl w.heap.size _ _ tx rfl HO2.out rfl (by simp; omega) hs2 ?_
               intro v3 w3 hv hb
               rw [HS.out] at hv
               have HO3 := Lib.hid hv
               have HB3 := Lib.hid (HB2.out.trans hb)
               clear hv hb))
          go_round
          case rel => exact ⟨j + 1, by omega, by go_num, HG2, HO3, HB3⟩
          case measure => first | (simp [intOf]; omega) | simp [intOf]
        · have HC := Lib.hid (show codeF l = insF l[j] by
            unfold codeF
            rw [if_neg (by rw [HL.out]; omega)]
            exact firstF_at hj1 (fun x hx => (HG.out x hx).2) h0)
          have hne : (insF l[j] != 0) = true := by rw [bne_iff_ne]; exact h0
          have HN := Lib.hid h0
          clear hwx hfx h0
          generalize insF l[j] = f at *
          generalize textR l[j] = tx at *
          generalize l[j] = x at *
          obtain ⟨xo, xa, xb, xt, xc, xn⟩ := x
          obtain ⟨c0, c1, c2, c3, c4, c5⟩ := hx1
          unfold insV at HX
          replace HX := Lib.hid HX
          go_wp2_with (first
            | (go_at_call 17; (with_reducible refine (HX.out _ (HT.out.below (bnext HB.out (al1 _ _))) (HP.out.below (bnext HB.out (al1 _ _)))).mono ?_); rintro e w1 ⟨rfl, b1⟩
               have HB1 := Lib.hid (bnext (bnext HB.out (al1 _ _)) b1)
               clear b1))
          go_ret2
          exact ⟨HB1.out, .inr ⟨by rw [HC.out]; exact HN.out, by rw [HC.out]; rfl⟩⟩
      · obtain rfl : j = n := by omega
        go_wp2
        go_ret2
        have h1 := HO.out
        have h2 := HG.out
        rw [List.take_of_length_le (by rw [HL.out]; exact Nat.le_refl _)] at h1 h2
        exact ⟨HB.out, .inl ⟨(codeF_right HW.out).2 ⟨by rw [HL.out]; omega, h2⟩, _, rfl, h1⟩⟩
/-- What Encode says, as a row. -/
theorem enc_gives {w w' : World} {l : List InsD} {e : Ending} (h : EncSays w l e w') (h0 : codeF l = 0) : ∃ A c, e = .returned (.tuple #[.slice A (codeL l).length c, .nilIface]) ∧ Row w' A (codeL l).length c ((codeL l).map byteV) ∧ Below w.heap.size w w' := by
  obtain ⟨hb, ⟨_, v, rfl, hv⟩ | ⟨hn, _⟩⟩ := h
  · obtain ⟨A, c, rfl⟩ := own_form hv
    exact ⟨A, c, rfl, Row.own hv, hb⟩
  · exact absurd h0 hn
theorem enc_fails {w w' : World} {l : List InsD} {e : Ending} (h : EncSays w l e w') (h0 : codeF l ≠ 0) : e = .returned (.tuple #[.slice none 0 0, errV (codeF l)]) ∧ Below w.heap.size w w' := by
  obtain ⟨hb, ⟨hn, _⟩ | ⟨_, he⟩⟩ := h
  · exact absurd hn h0
  · exact ⟨he, hb⟩
def nopI : InsD := ⟨1, 0, 0, [], [], []⟩
theorem nop_right : Right [nopI] := ⟨by decide, fun x hx => by obtain rfl := List.mem_singleton.1 hx; exact ⟨by refine ⟨?_, ?_, ?_⟩ <;> (unfold i64B nopI; decide), by decide⟩⟩
theorem nop_code : codeL [nopI] = [1, 3, 110, 111, 112] := by rfl
theorem nop_row (w : World) (t : TypeId) (f : Nat × Nat) : InsRow (w.alloc (.cells #[.int .i64 1, .int .i64 0, .int .i64 0, .string ⟨#[]⟩, .string ⟨#[]⟩, .string ⟨#[]⟩] t f)) (some ⟨w.heap.size, 0, none⟩) 1 1 [nopI] := InsRow.lit w nopI t f
set_option maxHeartbeats 2000000 in
theorem nop_gives {f : FuncId} {vs : Array Value} {w : World} (h : Calls Tryd.prog f vs w (EncSays w [nopI])) :
    Calls Tryd.prog f vs w fun e w' => ∃ A c, e = .returned (.tuple #[.slice A 5 c, .nilIface]) ∧ Row w' A 5 c ([1, 3, 110, 111, 112].map byteV) ∧ Below w.heap.size w w' := by
  refine h.mono fun e w' h => ?_
  have := enc_gives h (by decide)
  rw [nop_code] at this
  exact this
set_option maxRecDepth 20000 in
theorem coded_any (w : World) (T : Tab w) (P : Pow w) : Calls Tryd.prog 8 #[] w fun e w' => e = .returned (.bool true) ∧ Below w.heap.size w w' := by
  have HN := Lib.hid (fun W T P R => nop_gives (encode_any [nopI] (some ⟨w.heap.size, 0, none⟩) 1 1 W T P R (fun x hx => (nop_right.2 x hx).1) (fun x hx => by obtain rfl := List.mem_singleton.1 hx; exact ⟨Nat.zero_le _, Nat.zero_le _, Nat.zero_le _⟩)))
  have HT := Lib.hid T
  have HP := Lib.hid P
  have s1 : (bs [1, 3, 110, 111, 112]).toList = [1, 3, 110, 111, 112] := by rw [ByteArray.toList_eq]; rfl
  clear T P
  go_enter Tryd.func8, Tryd.ntmps8
  go_wp2_with (first
    | (go_at_call 10; (with_reducible refine (HN.out _ (HT.out.below (al1 _ _)) (HP.out.below (al1 _ _)) (nop_row _ _ _)).mono ?_); rintro e w1 ⟨A, c, rfl, hr, hb⟩
       have g1 := conv_row hr
       have HB := Lib.hid (bnext (al1 _ _) hb)
       clear hr hb))
  go_ret
  exact ⟨rfl, HB.out⟩
end Go.Proofs.YthnilohilbacpaaDoor
