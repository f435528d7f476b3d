/- The walk of UtfJoined. -/
import Derived.Test.YtekpinicfgofgaaUtLaws1
import Derived.Deep.RegionHeld
namespace Go.Proofs.Ytekpinicfgofgaa
open Go.ChangeShapes Go.WideShapes Go.ChangeAt Go.RowKit
set_option linter.unusedVariables false

theorem units_none (w : World) (base : Nat) (hb : base ≤ w.heap.size) : (w.alloc (.cells #[] 33 (0, 0))).ownsRow base 33 1 (.slice (some ⟨w.heap.size, 0, none⟩) 0 0) ([] : List UInt16).length (([] : List UInt16).map unitV) :=
  World.ownsRow_made w #[] 0 hb (Nat.zero_le _) rfl
theorem bs_cat (a b : List UInt16) : bs (encL a) ++ bs (encL b) = bs (encL (a ++ b)) := by
  apply ByteArray.ext
  apply Array.toList_inj.1
  rw [encL_append]
  simp [bs]
set_option maxRecDepth 20000 in
set_option maxHeartbeats 40000000 in
theorem utfJoined_walk (a b : List UInt16) (A B : Option Addr) (n c k d : Nat) (w : World) (R : Row w A n c (a.map unitV)) (S : Row w B k d (b.map unitV)) (hA : A = none → n = 0 ∧ c = 0) (hB : B = none → k = 0 ∧ d = 0) (hn : n ≤ 1048576) (hk : k ≤ 1048576) :
    Calls Try.prog 5 #[.slice A n c, .slice B k d] w fun e w' => e = .returned (.bool true) ∧ Below w.heap.size w w' := by
  have hla : a.length = n := by simpa using R.1
  have hlb : b.length = k := by simpa using S.1
  subst hla
  subst hlb
  have HR := Lib.hid R
  have HS := Lib.hid S
  have HA := Lib.hid hA
  have HBB := Lib.hid hB
  have hea := Lib.hid (fun W (R : Row W A a.length c (a.map unitV)) => (encode_any a A _ c W R (by omega)).mono fun _ _ h => enc_gives h)
  have heb := Lib.hid (fun W (R : Row W B b.length d (b.map unitV)) => (encode_any b B _ d W R (by omega)).mono fun _ _ h => enc_gives h)
  have hen := Lib.hid (fun W A c (R : Row W A (a.length + b.length) c ((a ++ b).map unitV)) => (encode_any (a ++ b) A _ c W R (by omega)).mono fun _ _ h => enc_gives h)
  have hcat := bs_cat a b
  obtain ⟨h1, h2⟩ := encL_length a
  have h1i : (a.length : Int) ≤ ((encL a).length : Int) := by omega
  have h2i : ((encL a).length : Int) ≤ 3 * (a.length : Int) := by omega
  have hwi : IntKind.i64.wrap (3 * (a.length : Int)) = 3 * (a.length : Int) := by rw [IntKind.wrap_i64]; omega
  have HLE := Lib.hid (show ([] : List UInt16) ++ a = a from rfl)
  have hs1 : (bs (encL a)).size ≤ 3145728 := by rw [bs_size]; omega
  have hs2 : (bs (encL b)).size ≤ 3145728 := by have := (encL_length b).2; rw [bs_size]; omega
  clear R S hA hB h1 h2
  go_enter Try.func5, Try.ntmps5
  go_wp2_with (first
    | (go_at_call 7; (with_reducible refine (euro_any _).mono ?_); rintro e w1 ⟨rfl, hb⟩; have HB1 := Lib.hid hb; clear hb)
    | (at_builtin; refine wpList_units_any rfl (.tmp 10) (.tmp 11) rfl w1.heap.size _ [] a rfl (units_none w1 _ (Nat.le_refl _)) _ _ _ rfl ((HR.out.below HB1.out).below ((Below.refl _ _).alloc (Nat.le_refl _) _)) HA.out (by simp; omega) (by simp) ?_; intro v3 w3 hv3 hb3; rw [HLE.out] at hv3; have HV3 := Lib.hid hv3; have HB3 := Lib.hid (((Below.refl w1.heap.size w1).alloc (Nat.le_refl _) _).trans hb3); clear hv3 hb3)
    | (at_builtin; refine wpList_units_any rfl (.tmp 12) (.tmp 13) rfl w1.heap.size _ a b rfl HV3.out _ _ _ rfl ((HS.out.below HB1.out).below HB3.out) HBB.out (by omega) HB3.out.size ?_; intro v4 w4 hv4 hb4; obtain ⟨A4, c4, rfl, hr⟩ := own_units hv4; rw [List.length_append] at hr; have HR4 := Lib.hid hr; have HB4 := Lib.hid (ubelow_next HB1.out (HB3.out.trans hb4)); clear hv4 hb4 hr))
  have HP := Lib.hid (HR.out.below HB4.out)
  have HQ := Lib.hid (HS.out.below HB4.out)
  go_region_held (fun _ => True) (first | exact trivial | exact True.intro)
        (first
          | (go_at_call 11; (with_reducible refine (hen.out _ _ _ (HR4.out.drew)).mono ?_); rintro e w5 ⟨A5, c5, rfl, hr, hb⟩; have g5 := conv_row hr; have R5 := Lib.hid hr; have P5 := Lib.hid (HP.out.drew.below hb); have Q5 := Lib.hid (HQ.out.drew.below hb); have B5 := Lib.hid (ubelow_next HB4.out (below_behind hb)); clear hr hb)
          | (go_at_call 11; (with_reducible refine (hea.out _ (P5.out)).mono ?_); rintro e w6 ⟨A6, c6, rfl, hr, hb⟩; have g6 := conv_row hr; have g65 := conv_row (R5.out.below hb); have R6 := Lib.hid hr; have R65 := Lib.hid (R5.out.below hb); have P6 := Lib.hid (P5.out.below hb); have Q6 := Lib.hid (Q5.out.below hb); have B6 := Lib.hid (ubelow_next B5.out hb); clear hr hb)
          | (go_at_call 11; (with_reducible refine (heb.out _ (Q6.out)).mono ?_); rintro e w7 ⟨A7, c7, rfl, hr, hb⟩; have g7 := conv_row hr; have g76 := conv_row (R6.out.below hb); have g75 := conv_row (R65.out.below hb); have P7 := Lib.hid (P6.out.below hb); have B7 := Lib.hid (ubelow_next B6.out hb); clear hr hb)
          | (go_at_call 11; (with_reducible refine (hea.out _ (P7.out)).mono ?_); rintro e w8 ⟨A8, c8, rfl, hr, hb⟩; have P8 := Lib.hid (P7.out.below hb); have B8 := Lib.hid (ubelow_next B7.out hb); clear hr hb)
          | (go_at_call 11; (with_reducible refine (hea.out _ (P8.out)).mono ?_); rintro e w9 ⟨A9, c9, rfl, hr, hb⟩; have B9 := Lib.hid (ubelow_next B8.out hb); clear hr hb))
  all_goals
    go_wp2
    go_ret
    exact ⟨ret_bool (by simp), B9.out⟩
end Go.Proofs.Ytekpinicfgofgaa
