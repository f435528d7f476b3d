/- The contracts of utf.size, followingByte, appendUnit and of the reference's Units. -/
import Derived.Test.YtekpinicfgofgaaUtR
import Derived.Laws.BitsLemmas
namespace Go.Proofs.Ytekpinicfgofgaa
open Go.ChangeShapes Go.WideShapes Go.ChangeAt Go.RowKit
set_option linter.unusedVariables false

theorem ret_num {k : IntKind} {a b : Int} (h : a = b) : Ending.returned (.int k a) = .returned (.int k b) := by rw [h]
theorem wraps_u16 (n : Int) (h0 : 0 ≤ n) (h1 : n < 2 ^ 16) : IntKind.u16.wrap n = n := by
  rw [show IntKind.u16.wrap n = n % 65536 by simp [IntKind.wrap, IntKind.bits, IntKind.signed]]; omega
theorem u16_and63 (x : Int) (h0 : 0 ≤ x) (h1 : x < 65536) : bits .and .u16 x 63 = x % 64 := bits_mask .u16 16 (by decide) wraps_u16 6 (by decide) x h0 h1
theorem u16_or (x y : Int) (h0 : 0 ≤ x) (h : x % 64 = 0) (h1 : x < 65536) (h2 : 0 ≤ y) (h3 : y < 64) : bits .or .u16 x y = x + y := bits_join .u16 16 (by decide) wraps_u16 6 x y h0 h h1 h2 h3 (by omega)
theorem u8_or224 (y : Int) (h2 : 0 ≤ y) (h3 : y < 16) : bits .or .u8 224 y = 224 + y := bits_join .u8 8 (by decide) wraps_u8 4 224 y (by decide) (by decide) (by decide) h2 h3 (by omega)

theorem usize_any (n : Nat) (w : World) (hn : n < 65536) : Calls Try.prog 15 #[.int .u16 (n : Int)] w fun e w' => e = .returned (.int .i64 (sizeN n : Int)) ∧ w = w' := by
  go_enter Try.func15, Try.ntmps15
  go_wp2_with fail
  all_goals
    go_ret
    refine ⟨ret_num ?_, rfl⟩
    unfold sizeN
    repeat' split
    all_goals omega
theorem following_any (n : Nat) (w : World) (hn : n < 65536) : Calls Try.prog 21 #[.int .u16 (n : Int)] w fun e w' => e = .returned (.int .u8 ((128 + n % 64 : Nat) : Int)) ∧ w = w' := by
  go_enter Try.func21, Try.ntmps21
  go_wp2_with fail
  go_ret
  refine ⟨ret_num ?_, rfl⟩
  rw [u16_and63 _ (by omega) (by omega), u8_or128 _ (by omega) (by omega)]
  omega
/-- The cells of a unit's encoding, as they are built. -/
theorem enc_one {u : UInt16} (h : 1 ≤ u.toNat ∧ u.toNat ≤ 127) : [Value.int .u8 (u.toNat : Int)] = (encU u).map byteV := by
  simp only [encU, encN, h, and_self, if_true, List.map_cons, List.map_nil, byteV, of_byte]
  rw [Nat.mod_eq_of_lt (by omega)]
theorem enc_two {u : UInt16} (h1 : ¬ (1 ≤ u.toNat ∧ u.toNat ≤ 127)) (h2 : u.toNat ≤ 2047) : [Value.int .u8 (192 + (u.toNat : Int) / 64), Value.int .u8 (128 + (u.toNat : Int) % 64)] = (encU u).map byteV := by
  rw [encU, encN, if_neg h1, if_pos h2]
  simp only [List.map_cons, List.map_nil, byteV, of_byte]
  rw [Nat.mod_eq_of_lt (by omega), Nat.mod_eq_of_lt (by omega)]
  simp
theorem enc_three {u : UInt16} (h1 : ¬ (1 ≤ u.toNat ∧ u.toNat ≤ 127)) (h2 : ¬ u.toNat ≤ 2047) :
    [Value.int .u8 (224 + (u.toNat : Int) / 4096), Value.int .u8 (128 + (u.toNat : Int) / 64 % 64), Value.int .u8 (128 + (u.toNat : Int) % 64)] = (encU u).map byteV := by
  have := unit_lt u
  rw [encU, encN, if_neg h1, if_neg h2]
  simp only [List.map_cons, List.map_nil, byteV, of_byte]
  rw [show (224 + u.toNat / 4096) % 256 = 224 + u.toNat / 4096 by omega, show (128 + u.toNat / 64 % 64) % 256 = 128 + u.toNat / 64 % 64 by omega, show (128 + u.toNat % 64) % 256 = 128 + u.toNat % 64 by omega]
  simp
theorem row_enc {u : UInt16} (w : World) {cs : Array Value} {t : TypeId} {x : Nat × Nat} (n : Nat) (h : cs.toList = (encU u).map byteV) (hn : cs.size = n) : Row (w.alloc (.cells cs t x)) (some ⟨w.heap.size, 0, none⟩) n n ((encU u).map byteV) := by
  subst hn
  rw [← h]
  exact Row.lit w cs t x
def AppendSays (w : World) (base : Nat) (xs : List UInt8) (e : Ending) (w' : World) : Prop := ∃ v', e = .returned v' ∧ w'.ownsRow base 5 1 v' xs.length (xs.map byteV) ∧ Below base w w'
theorem appendUnit_any (u : UInt16) (w : World) (base : Nat) (v : Value) (xs : List UInt8) (hown : w.ownsRow base 5 1 v xs.length (xs.map byteV)) (hbase : base ≤ w.heap.size) (hx : xs.length ≤ 549755813888) :
    Calls Try.prog 18 #[v, .int .u16 (u.toNat : Int)] w (AppendSays w base (xs ++ encU u)) := by
  have hu := unit_lt u
  have hs := Lib.hid (fun w => usize_any u.toNat w hu)
  have hf := Lib.hid (fun w => following_any u.toNat w hu)
  have hf6 := Lib.hid (fun w => following_any (u.toNat / 64) w (by omega))
  have HO := Lib.hid hown
  have HB := Lib.hid (fun (a : Array Value) => Below.alloc (Below.refl base w) hbase (.cells a 5))
  obtain ⟨A, c, rfl⟩ := own_form hown
  clear hown
  by_cases h1 : 1 ≤ u.toNat ∧ u.toNat ≤ 127
  · rw [show sizeN u.toNat = 1 by simp [sizeN, h1]] at hs
    have HE := Lib.hid (enc_one h1)
    go_enter Try.func18, Try.ntmps18
    go_wp2_with (first
      | (go_at_call 15; with_reducible refine (hs.out _).mono ?_; rintro e w' ⟨rfl, rfl⟩)
      | (at_builtin; refine wpList_bytes rfl _ _ rfl base _ xs (encU u) rfl (HO.out.alloc _) _ 1 1 rfl (row_enc w 1 HE.out rfl) (by decide) (by omega) (by simp; omega) ?_; intro v' w1 hv hb; have HV := Lib.hid hv; have HW := Lib.hid hb; clear hv hb))
    go_ret
    exact ⟨_, rfl, HV.out, (HB.out _).trans HW.out⟩
  · by_cases h2 : u.toNat ≤ 2047
    · rw [show sizeN u.toNat = 2 by simp [sizeN, h1, h2]] at hs
      have HE := Lib.hid (enc_two h1 h2)
      go_enter Try.func18, Try.ntmps18
      go_wp2_with (first
        | (go_at_call 15; with_reducible refine (hs.out _).mono ?_; rintro e w' ⟨rfl, rfl⟩)
        | (go_at_call 21; with_reducible refine (hf.out _).mono ?_; rintro e w' ⟨rfl, rfl⟩)
        | (at_builtin; refine wpList_bytes rfl _ _ rfl base _ xs (encU u) rfl (HO.out.alloc _) _ 2 2 rfl (row_enc w 2 HE.out rfl) (by decide) (by omega) (by simp; omega) ?_; intro v' w1 hv hb; have HV := Lib.hid hv; have HW := Lib.hid hb; clear hv hb))
      go_ret
      exact ⟨_, rfl, HV.out, (HB.out _).trans HW.out⟩
    · rw [show sizeN u.toNat = 3 by simp [sizeN, h1, h2]] at hs
      have HE := Lib.hid (enc_three h1 h2)
      go_enter Try.func18, Try.ntmps18
      go_wp2_with (first
        | (go_at_call 15; with_reducible refine (hs.out _).mono ?_; rintro e w' ⟨rfl, rfl⟩)
        | (go_at_call 21; with_reducible refine (hf.out _).mono ?_; rintro e w' ⟨rfl, rfl⟩)
        | (go_at_call 21; refine (hf6.out _).mono ?_; rintro e w' ⟨rfl, rfl⟩)
        | (at_builtin; refine wpList_bytes rfl _ _ rfl base _ xs (encU u) rfl (HO.out.alloc _) _ 3 3 rfl (row_enc w 3 HE.out rfl) (by decide) (by omega) (by simp; omega) ?_; intro v' w1 hv hb; have HV := Lib.hid hv; have HW := Lib.hid hb; clear hv hb))
      go_ret
      exact ⟨_, rfl, HV.out, (HB.out _).trans HW.out⟩
/-- What the reference's Units says: a new row. -/
def UnitsSays (w : World) (l : List UInt8) (e : Ending) (w' : World) : Prop := ∃ A m c, e = .returned (.slice A m c) ∧ Row w' A m c (l.map byteV) ∧ Below w.heap.size w w'
theorem units_any (u : UInt16) (w : World) : Calls Try.prog 17 #[.int .u16 (u.toNat : Int)] w (UnitsSays w (encU u)) := by
  have hu := unit_lt u
  have HB := Lib.hid (fun (a : Array Value) => Below.alloc (Below.refl w.heap.size w) (Nat.le_refl _) (.cells a 5))
  by_cases h1 : 1 ≤ u.toNat ∧ u.toNat ≤ 127
  · have HE := Lib.hid (enc_one h1)
    go_enter Try.func17, Try.ntmps17
    go_wp2_with fail
    go_ret
    exact ⟨_, 1, 1, rfl, row_enc w 1 HE.out rfl, HB.out _⟩
  · by_cases h2 : u.toNat ≤ 2047
    · have HE := Lib.hid (enc_two h1 h2)
      go_enter Try.func17, Try.ntmps17
      go_wp2_with fail
      all_goals
        go_ret
        exact ⟨_, 2, 2, rfl, row_enc w 2 HE.out rfl, HB.out _⟩
    · have HE := Lib.hid (enc_three h1 h2)
      go_enter Try.func17, Try.ntmps17
      go_wp2_with fail
      all_goals
        go_ret
        exact ⟨_, 3, 3, rfl, row_enc w 3 HE.out rfl, HB.out _⟩
end Go.Proofs.Ytekpinicfgofgaa
