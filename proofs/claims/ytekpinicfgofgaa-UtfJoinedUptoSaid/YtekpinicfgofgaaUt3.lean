/- The contracts of utf.Encode and of the reference's Bytes and same. -/
import Derived.Test.YtekpinicfgofgaaUt2
namespace Go.Proofs.Ytekpinicfgofgaa
open Go.ChangeShapes Go.WideShapes Go.ChangeAt Go.RowKit
set_option linter.unusedVariables false

theorem take_bound (l : List UInt16) (j : Nat) : (encL (l.take j)).length ≤ 3 * l.length := by
  have := (encL_length (l.take j)).2
  rw [List.length_take] at this
  omega
set_option maxRecDepth 20000 in
theorem encode_any (l : List UInt16) (A : Option Addr) (n c : Nat) (w : World) (R : Row w A n c (l.map unitV)) (hn : n ≤ 4194304) :
    Calls Try.prog 11 #[.slice A n c] w (AppendSays w w.heap.size (encL l)) := by
  have hl : l.length = n := by simpa using R.1
  have HL := Lib.hid hl
  have HT := Lib.hid (take_bound l)
  have hap := Lib.hid appendUnit_any
  have HR := Lib.hid R
  clear hl R
  go_enter Try.func11, Try.ntmps11
  go_wp2_with fail
  go_loopw [3, 5, 8] (fun v _ i wr => ∃ j : Nat, j ≤ n ∧ i = .int .i64 j ∧ Hid (wr.ownsRow w.heap.size 5 1 v (encL (l.take j)).length ((encL (l.take j)).map byteV)) ∧ Hid (Below w.heap.size w wr)) (fun _ _ i _ => n - (intOf i).toNat)
  case atStart => exact ⟨0, Nat.zero_le _, rfl, Lib.hid (World.ownsRow_nil _ _ _ _), Lib.hid (Below.refl _ _)⟩
  case round =>
    obtain ⟨j, hj, rfl, HO, HB⟩ := hrel
    by_cases hlt : j < n
    · obtain ⟨b1, o1, u1, rfl, hb1, hu1, hc1⟩ := (HR.out.below HB.out).at_ hlt
      have hj1 : j < l.length := by rw [HL.out]; exact hlt
      obtain rfl : unitV l[j] = u1 := by simpa [hj1] using hu1
      have HE := Lib.hid (encL_take l j hj1)
      have ha := Lib.hid (hap.out l[j] wr w.heap.size _ _ HO.out HB.out.size (by have := HT.out j; rw [HL.out] at this; omega))
      unfold unitV at hc1
      clear hu1 HO
      go_wp2_with (first | (go_at_call 18; (with_reducible refine ha.out.mono ?_); rintro e w1 ⟨v1, rfl, hv, hb⟩; have HV := Lib.hid hv; have HW := Lib.hid (HB.out.trans hb); clear hv hb))
      go_round
      case rel => exact ⟨j + 1, by omega, by go_num, Lib.hid (by rw [HE.out]; exact HV.out), HW⟩
      case measure => first | (simp [intOf]; omega) | simp [intOf]
    · obtain rfl : j = n := by omega
      go_wp2
      go_ret
      have h1 := HO.out
      rw [List.take_of_length_le (by rw [HL.out]; exact Nat.le_refl _)] at h1
      exact ⟨_, rfl, h1, HB.out⟩
set_option maxRecDepth 20000 in
theorem bytes_any (l : List UInt16) (A : Option Addr) (n c : Nat) (w : World) (R : Row w A n c (l.map unitV)) (hn : n ≤ 4194304) :
    Calls Try.prog 12 #[.slice A n c] w (AppendSays w w.heap.size (encL l)) := by
  have hl : l.length = n := by simpa using R.1
  have HL := Lib.hid hl
  have HT := Lib.hid (take_bound l)
  have hap := Lib.hid units_any
  have HR := Lib.hid R
  clear hl R
  go_enter Try.func12, Try.ntmps12
  go_wp2_with fail
  go_loopw [3, 4] (fun v i wr => ∃ j : Nat, j ≤ n ∧ i = .int .i64 j ∧ Hid (wr.ownsRow w.heap.size 5 1 v (encL (l.take j)).length ((encL (l.take j)).map byteV)) ∧ Hid (Below w.heap.size w wr)) (fun _ i _ => n - (intOf i).toNat)
  case atStart => exact ⟨0, Nat.zero_le _, rfl, Lib.hid (World.ownsRow_nil _ _ _ _), Lib.hid (Below.refl _ _)⟩
  case round =>
    obtain ⟨j, hj, rfl, HO, HB⟩ := hrel
    by_cases hlt : j < n
    · obtain ⟨b1, o1, u1, rfl, hb1, hu1, hc1⟩ := (HR.out.below HB.out).at_ hlt
      have hj1 : j < l.length := by rw [HL.out]; exact hlt
      obtain rfl : unitV l[j] = u1 := by simpa [hj1] using hu1
      have HE := Lib.hid (encL_take l j hj1)
      have hs := size_range l[j].toNat
      have ht : (encL (l.take j)).length ≤ 3 * n := by have := HT.out j; rw [HL.out] at this; exact this
      have ha := Lib.hid (hap.out l[j] wr)
      have hsz := HB.out.size
      unfold unitV at hc1
      clear hu1
      go_wp2_with (first
        | (go_at_call 17; (with_reducible refine ha.out.mono ?_); rintro e w1 ⟨A1, m1, c1, rfl, hv, hb⟩; have hm1 : (encU l[j]).length = m1 := (by simpa using hv.1); rw [encU, enc_size] at hm1; have HM := Lib.hid hm1; have HV := Lib.hid hv; have HW := Lib.hid hb; clear hv hb hm1)
        | (at_builtin; refine wpList_bytes rfl _ _ rfl w.heap.size _ (encL (l.take j)) (encU l[j]) rfl (own_below HO.out HW.out) _ _ _ rfl HV.out (by have := HM.out; omega) (by have := HM.out; omega) (by have := HW.out.size; omega) ?_; intro v' w2 hv hb; have HV2 := Lib.hid hv; have HW2 := Lib.hid ((HB.out.trans (HW.out.mono hsz)).trans hb); clear hv hb))
      go_round
      case rel => exact ⟨j + 1, by omega, by go_num, Lib.hid (by rw [HE.out]; exact HV2.out), HW2⟩
      case measure => first | (simp [intOf]; omega) | simp [intOf]
    · obtain rfl : j = n := by omega
      go_wp2
      go_ret
      have h1 := HO.out
      rw [List.take_of_length_le (by rw [HL.out]; exact Nat.le_refl _)] at h1
      exact ⟨_, rfl, h1, HB.out⟩
theorem same_any (l m : List UInt8) (A B : Option Addr) (n c k d : Nat) (w : World) (R : Row w A n c (l.map byteV)) (S : Row w B k d (m.map byteV)) :
    Calls Try.prog 16 #[.slice A n c, .slice B k d] w fun e w' => e = .returned (.bool (l == m)) ∧ w = w' := by
  have h1 := conv_row R
  have h2 := conv_row S
  clear R S
  go_enter Try.func16, Try.ntmps16
  go_wp2_with fail
  go_ret
  exact ⟨ret_bool (by rw [ByteArray.toList_eq, ByteArray.toList_eq]; rfl), rfl⟩
end Go.Proofs.Ytekpinicfgofgaa
