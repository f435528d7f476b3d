/- class.checkBody. -/
import Derived.Test.YtkabkpkfglngnaaDoorClKD
import Derived.Test.YtkabkpkfglngnaaDoorClC
import Derived.Test.YtkabkpkfglngnaaDoorFl1
import Derived.Deep.RegionHeld
namespace Go.Proofs.YtkabkpkfglngnaaDoor
open Go.ChangeShapes Go.WideShapes Go.ChangeAt Go.RowKit
set_option linter.unusedVariables false
attribute [local go_sem] eqGuard_errV_nil eqGuard_errV_iface eql_errV_nil neq_errV_nil eql_errV_form

set_option maxRecDepth 20000 in
set_option maxHeartbeats 4000000 in
theorem body_bare (m : MethD) (A : Option Addr) (i j : Nat) (B : Option Addr) (k l : Nat) (w : World) (RC : InsRow w A i j m.code) (RH : HandRow w B k l m.hs) (hi : i ≤ 140737488351232) (hk : k ≤ 140737488351232) (hab : m.ab = true) :
    Calls Tryd.prog 27 #[methV m A i j B k l, .int .i64 (argsN m.ty : Int)] w fun e w' => e = .returned (errV (bareF m)) ∧ Below w.heap.size w w' := by
  have hci : m.code.length = i := RC.1
  have hhk : m.hs.length = k := RH.1
  have hc : (m.st = true ∧ bareF m = 8) ∨ (m.st = false ∧ m.pr = true ∧ bareF m = 8) ∨ (m.st = false ∧ m.pr = false ∧ 0 < i ∧ bareF m = 8) ∨ (m.st = false ∧ m.pr = false ∧ i = 0 ∧ 0 < k ∧ bareF m = 8) ∨ (m.st = false ∧ m.pr = false ∧ i = 0 ∧ k = 0 ∧ bareF m = 0) := by
    unfold bareF
    rw [hci, hhk]
    cases m.st with
    | true => exact .inl ⟨rfl, by simp⟩
    | false =>
      cases m.pr with
      | true => exact .inr (.inl ⟨rfl, rfl, by simp⟩)
      | false =>
        rcases Nat.eq_zero_or_pos i with h | h
        · rcases Nat.eq_zero_or_pos k with h' | h'
          · exact .inr (.inr (.inr (.inr ⟨rfl, rfl, h, h', by simp [h, h']⟩)))
          · exact .inr (.inr (.inr (.inl ⟨rfl, rfl, h, h', by have : k ≠ 0 := by omega
                                                              simp [h, this]⟩)))
        · exact .inr (.inr (.inl ⟨rfl, rfl, h, by have : i ≠ 0 := by omega
                                                  simp [this]⟩))
  clear RC RH hci hhk
  unfold methV
  rw [hab]
  clear hab
  rcases hc with ⟨h1, hv⟩ | ⟨h1, h2, hv⟩ | ⟨h1, h2, h3, hv⟩ | ⟨h1, h2, h3, h4, hv⟩ | ⟨h1, h2, h3, h4, hv⟩
  all_goals
    rw [hv, h1]
    try rw [h2]
    clear hv
    go_enter Tryd.func27, Tryd.ntmps27
    go_wp2_with fail
    go_ret
    exact ⟨rfl, al1 _ _⟩

theorem fcheck_zero {w w' : World} {l : List InsD} {e : Ending} (h0 : flowF l = 0) (h : e = .returned (errV (flowF l)) ∧ Below w.heap.size w w') : e = .returned .nilIface ∧ Below w.heap.size w w' := ⟨by rw [h.1, h0]; rfl, h.2⟩
set_option maxRecDepth 20000 in
set_option maxHeartbeats 8000000 in
theorem body_rest (m : MethD) (A : Option Addr) (i j : Nat) (B : Option Addr) (k l : Nat) (w : World) (T : Tab w) (RC : InsRow w A i j m.code) (RH : HandRow w B k l m.hs) (hm : m.upto 140737488351232) (hw : m.wf) (hab : m.ab = false) :
    Calls Tryd.prog 27 #[methV m A i j B k l, .int .i64 (argsN m.ty : Int)] w fun e w' => e = .returned (errV (bodyF m)) ∧ Below w.heap.size w w' := by
  have hci : m.code.length = i := RC.1
  have hhk : m.hs.length = k := RH.1
  have hi2 : i ≤ 140737488351232 := by have := hm.2.2.1.2; omega
  have hk2 : k ≤ 140737488351232 := by have := hm.2.2.2.2; omega
  have HFc := fun W T R => fcheck_any m.code A i j W T R hw.2.1 hm.2.2.1.1
  have HHa := Lib.hid (fun W R => hands_any m.hs B k l i W R hk2 hm.2.2.2.1 hi2)
  have HB0 := Lib.hid (al1 w (.cells #[.string (bs m.nm), .string (bs m.ty), .bool m.st, .bool m.ab, .bool m.pr, .int .i64 m.lo, .slice A i j, .slice B k l] 41))
  have HX := Lib.hid (mbox_at w m A i j B k l 41 (0, 0))
  have HT := Lib.hid (T.below HB0.out)
  have HRC := Lib.hid (RC.below HB0.out)
  have HRH := Lib.hid (RH.below HB0.out)
  by_cases hfl : flowF m.code = 0
  · have HLn := Lib.hid (fun W R => needs_any m (argsN m.ty) A i j B k l W R (argsN_le _) (by have := flow_len hw.2.1 hfl; omega) (flow_local hw.2.1 hfl))
    have HF0 := Lib.hid (fun W T R => (HFc W T R).mono fun e w' h => fcheck_zero hfl h)
    have HFew := Lib.hid (fun h => bodyF_few hfl h)
    have HLoc := Lib.hid (fun h1 h2 => bodyF_local hfl h1 h2)
    have HHan := Lib.hid (fun h1 h2 => bodyF_hands hfl h1 h2)
    have HNd := Lib.hid (need_lt (l := m.code) (n := (wantsN m : Int)) (lo := m.lo))
    rw [show ((argsN m.ty + if m.st then 0 else 1 : Nat) : Int) = (wantsN m : Int) from rfl] at HLn
    have hcase : (m.lo < needN (wantsN m : Int) m.code ∧ bodyF m = 2) ∨ (¬ m.lo < needN (wantsN m : Int) m.code ∧ bodyF m = handsF m.hs i) := by
      by_cases h1 : m.lo < (wantsN m : Int)
      · exact .inl ⟨need_lt.2 (.inl h1), bodyF_few hfl h1⟩
      · cases h2 : m.code.any (localB m.lo) with
        | true => exact .inl ⟨need_lt.2 (.inr h2), bodyF_local hfl h1 h2⟩
        | false => exact .inr ⟨fun h => (need_lt.1 h).elim h1 fun h => absurd (h2.symm.trans h) (by simp), by rw [bodyF_hands hfl h1 h2, hci]⟩
    clear HFc T RC RH hm hw hfl
    generalize needN (wantsN m : Int) m.code = nd at *
    unfold methV at HLn ⊢
    rw [hab] at HB0 HX HT HRC HRH HLn ⊢
    rcases hcase with ⟨hlt, hv⟩ | ⟨hlt, hv⟩
    all_goals
      rw [hv]
      clear hv
      go_enter Tryd.func27, Tryd.ntmps27
      go_wp2_with (first
        | (go_at_call 40; (with_reducible refine (HF0.out _ HT.out HRC.out).mono ?_); rintro e w1 ⟨rfl, hb⟩
           have HB1 := Lib.hid (bnext HB0.out hb)
           have HR1 := Lib.hid (HRC.out.below hb)
           have HH1 := Lib.hid (HRH.out.below hb)
           have BX := HX.out.below hb
           have HX1 := Lib.hid BX
           rw [MBox, hab] at BX
           obtain ⟨q0, q1, q2, q3, q4, q5, q6, q7, q8⟩ := BX
           clear hb))
      first | go_region_held (fun w' => w'.cell? ⟨w.heap.size, 0, none⟩ = some (.string (bs m.nm)) ∧ w'.cell? ⟨w.heap.size, 1, none⟩ = some (.string (bs m.ty)) ∧ w'.cell? ⟨w.heap.size, 2, none⟩ = some (.bool m.st) ∧ w'.cell? ⟨w.heap.size, 3, none⟩ = some (.bool false) ∧ w'.cell? ⟨w.heap.size, 4, none⟩ = some (.bool m.pr) ∧ w'.cell? ⟨w.heap.size, 5, none⟩ = some (.int .i64 m.lo) ∧ w'.cell? ⟨w.heap.size, 6, none⟩ = some (.slice A i j) ∧ w'.cell? ⟨w.heap.size, 7, none⟩ = some (.slice B k l)) (first | exact ⟨q1, q2, q3, q4, q5, q6, q7, q8⟩ | exact ⟨r1, r2, r3, r4, r5, r6, r7, r8⟩)
        (first
          | (go_at_call 41; (with_reducible refine (HLn.out w1.drew (HR1.out.below (drew_behind (Below.refl _ _)))).mono ?_); rintro e w2 ⟨rfl, hb⟩
             have HB2 := Lib.hid (bnext (drew_behind HB1.out) hb)
             have HH2 := Lib.hid (HandRow.below (HandRow.below HH1.out (drew_behind (Below.refl _ _))) hb)
             have BY := MBox.below (MBox.below HX1.out (drew_behind (Below.refl _ _))) hb
             rw [MBox, hab] at BY
             obtain ⟨r0, r1, r2, r3, r4, r5, r6, r7, r8⟩ := BY
             clear hb)) | fail
    all_goals
      go_wp2_with (first
        | (go_at_call 42; (with_reducible refine (HHa.out _ HH2.out).mono ?_); rintro e w3 ⟨rfl, hb⟩
           have HB3 := Lib.hid (bnext HB2.out hb)
           clear hb))
      go_ret
      first
      | exact ⟨rfl, HB2.out⟩
      | exact ⟨rfl, HB3.out⟩
  · have hne : (flowF m.code != 0) = true := by rw [bne_iff_ne]; exact hfl
    have HV := Lib.hid (bodyF_code hfl)
    rw [HV.out]
    replace HFc := Lib.hid HFc
    clear HHa hfl T RC RH hm hw HV
    generalize flowF m.code = ff at *
    unfold methV
    rw [hab] at HB0 HX HT HRC HRH ⊢
    go_enter Tryd.func27, Tryd.ntmps27
    go_wp2_with (first
      | (go_at_call 40; (with_reducible refine (HFc.out _ HT.out HRC.out).mono ?_); rintro e w1 ⟨rfl, hb⟩
         have HB1 := Lib.hid (bnext HB0.out hb)
         clear hb))
    go_ret
    exact ⟨rfl, HB1.out⟩
theorem body_any (m : MethD) (A : Option Addr) (i j : Nat) (B : Option Addr) (k l : Nat) (w : World) (T : Tab w) (RC : InsRow w A i j m.code) (RH : HandRow w B k l m.hs) (hm : m.upto 140737488351232) (hw : m.wf) :
    Calls Tryd.prog 27 #[methV m A i j B k l, .int .i64 (argsN m.ty : Int)] w fun e w' => e = .returned (errV (if m.ab = true then bareF m else bodyF m)) ∧ Below w.heap.size w w' := by
  cases hab : m.ab with
  | true =>
    rw [if_pos rfl]
    exact body_bare m A i j B k l w RC RH (by have := hm.2.2.1.2; have : m.code.length = i := RC.1; omega) (by have := hm.2.2.2.2; have : m.hs.length = k := RH.1; omega) hab
  | false =>
    rw [if_neg (by simp)]
    exact body_rest m A i j B k l w T RC RH hm hw hab
end Go.Proofs.YtkabkpkfglngnaaDoor
