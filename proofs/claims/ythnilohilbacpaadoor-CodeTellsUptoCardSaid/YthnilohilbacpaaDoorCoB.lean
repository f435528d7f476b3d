/- The contract of the reference's CodeBytes. -/
import Derived.Test.YthnilohilbacpaaDoorCoE
import Derived.Test.YthnilohilbacpaaDoorInV
import Derived.Lib.ConvBytes
namespace Go.Proofs.YthnilohilbacpaaDoor
open Go.ChangeShapes Go.WideShapes Go.ChangeAt Go.RowKit
set_option linter.unusedVariables false

/-- '[]byte(s)': a new row of the text's bytes. -/
theorem conv_text (w : World) (l : List UInt8) : ∃ g c w', (convert 9 28 (.string (bs l))).run Tryd.prog w = .ok (.slice (some ⟨g, 0, none⟩) l.length c) w' ∧ Row w' (some ⟨g, 0, none⟩) l.length c (l.map byteV) ∧ Below w.heap.size w w' := by
  have h := Lib.run_convert_string_bytes (P := Tryd.prog) w 9 28 5 (bs l) Tryd.underlying9 Tryd.underlying28 Tryd.underlying5
  rw [bs_size] at h
  refine ⟨_, _, _, h, ⟨by simp, ?_, fun hn => ⟨_, _, rfl, ?_, fun j u hu => ?_⟩⟩, ?_⟩
  · exact grownCap_ge ..
  · rw [Lib.bytesWorld_size]; exact Nat.lt_succ_self _
  · have hj : j < l.length := by
      have := (List.getElem?_eq_some_iff.1 hu).1
      simpa using this
    rw [Nat.zero_add, Lib.bytesWorld_cell w _ (bs l) j (by rw [bs_size]; exact hj), bs_list]
    rw [List.getElem?_map, List.getElem?_eq_getElem hj] at hu
    rw [← Option.some.inj hu]
    simp [byteV, List.getD, hj]
  · refine ⟨rfl, rfl, rfl, ?_, fun k hk => Lib.bytesWorld_at_old w _ _ k hk⟩
    rw [Lib.bytesWorld_size]; exact Nat.le_succ _
theorem own_bytes2 {w : World} {base : Nat} {e : TypeId} {v : Value} {l : List UInt8} (h : w.ownsRow base e 1 v l.length (l.map byteV)) : ∃ A c, v = .slice A l.length c ∧ Row w A l.length c (l.map byteV) := by
  obtain ⟨A, c, rfl⟩ := own_form h
  exact ⟨A, c, rfl, Row.own h⟩
section
variable {w : World} {ops : Array Oper} {rest : List Oper} {a : Act} {Q : Exit → Act → World → Prop}
theorem wpList_conv {x : Operand} {d : Option Tmp} {p : String} {ty : TypeId} {af : Array Edge} (r : Value) (w' : World) (hr : (convert 9 28 (a.eval x)).run Tryd.prog w = .ok r w') (h : wpList Tryd.prog ops Q rest (a.put d r) w') :
    wpList Tryd.prog ops Q ({ dst := d, op := .convert 9 28 x, type := ty, pos := p, after := af, guard := none } :: rest) a w := by
  refine wpList_plain rfl fun K hK => ?_
  unfold Oper.wp
  simp [execOp, hr, Result.andThen]
  exact hK _ _ h
end
set_option maxRecDepth 20000 in
set_option maxHeartbeats 2000000 in
theorem codeBytes_any (l : List InsD) (A : Option Addr) (n c : Nat) (w : World) (R : InsRow w A n c l) (hl : Right l) :
    Calls Tryd.prog 12 #[.slice A n c] w fun e w' => ∃ A c, e = .returned (.slice A (codeL l).length c) ∧ Row w' A (codeL l).length c ((codeL l).map byteV) ∧ Below w.heap.size w w' := by
  have hn : l.length = n := R.1
  have h40 : n ≤ 40 := by have := hl.1; omega
  have HL := Lib.hid hn
  have HR := Lib.hid R
  have HG := Lib.hid hl.2
  have hu8 : IntKind.u8.wrap (n : Int) = (n : Int) := by rw [IntKind.wrap_u8]; omega
  clear hn R hl
  go_enter Tryd.func12, Tryd.ntmps12
  go_wp2_with fail
  go_loopw [3, 4, 5] (fun v i _ wr => ∃ j : Nat, j ≤ n ∧ i = .int .i64 j ∧ Hid (wr.ownsRow w.heap.size 5 1 v (UInt8.ofNat l.length :: bodyL (l.take j)).length ((UInt8.ofNat l.length :: bodyL (l.take j)).map byteV)) ∧ Hid (Below w.heap.size w wr)) (fun _ i _ _ => n - (intOf i).toNat)
  case atStart => exact ⟨0, Nat.zero_le _, rfl, Lib.hid (by rw [← enc_start, HL.out]; exact byte_lit w n (by omega) _ (Nat.le_refl _) _), Lib.hid ((Below.refl _ _).alloc (Nat.le_refl _) _)⟩
  case round =>
    obtain ⟨j, hj, rfl, HO, HB⟩ := hrel
    by_cases hlt : j < n
    · obtain ⟨b1, o1, rfl, hb1, hx1⟩ := (HR.out.below HB.out).at_ hlt
      have hj1 : j < l.length := by rw [HL.out]; exact hlt
      have hg := HG.out l[j] (List.getElem_mem _)
      have hgl := good_len hg
      have HX := fun w => insText_any l[j] hg.2 hg.1 w (by omega) (by omega) (by omega)
      have hsz := HB.out.size
      have HS := Lib.hid (enc_step l j hj1)
      have htb := text_byte hg
      have hbs := body_size (j := j) (fun x hx => HG.out x (List.mem_of_mem_take hx))
      generalize textM l[j] = tx at *
      clear hg hgl
      generalize l[j] = x at *
      obtain ⟨xo, xa, xb, xt, xc, xn⟩ := x
      obtain ⟨c0, c1, c2, c3, c4, c5⟩ := hx1
      unfold insV at HX
      replace HX := Lib.hid HX
      have hz : (bs tx).size = tx.length := rfl
      have hu2 : IntKind.u8.wrap (tx.length : Int) = (tx.length : Int) := by rw [IntKind.wrap_u8]; omega
      go_wp2_with (first
        | (go_at_call 23; (with_reducible refine (HX.out _).mono ?_); rintro e w1 ⟨rfl, b1⟩
           have HO1 := Lib.hid (own_below HO.out b1)
           have HB1 := Lib.hid (bnext HB.out b1)
           have hs1 := HB1.out.size
           clear b1)
        | (at_builtin; refine wpList_bytes rfl (.tmp 21) (.tmp 25) rfl w.heap.size _ (UInt8.ofNat l.length :: bodyL (l.take j)) [UInt8.ofNat tx.length] rfl (HO1.out.alloc _) _ 1 1 rfl (byte_row _ _ htb _ _) (by decide) (by simp; omega) (by simp; omega) ?_
           intro v2 w2 hv hb
           have HO2 := Lib.hid hv
           have HB2 := Lib.hid ((HB1.out.alloc hs1 _).trans hb)
           have hs2 := HB2.out.size
           clear hv hb
           obtain ⟨g3, c3', w3, h3, r3, b3⟩ := conv_text w2 tx
           have H3 := Lib.hid h3
           have HR3 := Lib.hid r3
           have HO3 := Lib.hid (own_below HO2.out b3)
           have HB3 := Lib.hid (bnext HB2.out b3)
           have hs3 := HB3.out.size
           clear h3 r3 b3)
        | ((with_reducible refine wpList_conv (.slice (some ⟨g3, 0, none⟩) tx.length c3') w3 ?_ ?_); exact H3.out)
        | (at_builtin; refine wpList_bytes_any rfl (.tmp 27) (.tmp 29) rfl w.heap.size _ _ tx rfl HO3.out _ _ _ rfl HR3.out (fun h => by cases h) (by simp; omega) hs3 ?_
           intro v4 w4 hv hb
           rw [HS.out] at hv
           have HO4 := Lib.hid hv
           have HB4 := Lib.hid (HB3.out.trans hb)
           clear hv hb))
      go_round
      case rel => exact ⟨j + 1, by omega, by go_num, HO4, HB4⟩
      case measure => first | (simp [intOf]; omega) | simp [intOf]
    · obtain rfl : j = n := by omega
      go_wp2
      have h1 := HO.out
      rw [List.take_of_length_le (by rw [HL.out]; exact Nat.le_refl _)] at h1
      obtain ⟨A3, c3, rfl, hr⟩ := own_bytes2 h1
      go_ret
      exact ⟨_, _, rfl, hr, HB.out⟩
end Go.Proofs.YthnilohilbacpaaDoor
