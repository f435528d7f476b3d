/- Package find: the closures of Method and inFaces, first. -/
import Derived.Test.YtkolpbjpgobkcaaDoorFiP1
namespace Go.Proofs.YtkolpbjpgobkcaaDoor
open Go.ChangeShapes Go.WideShapes Go.ChangeAt Go.RowKit
set_option linter.unusedVariables false

theorem field_meths (a b : ByteArray) (A B C : Option Addr) (i j k n m o : Nat) (f : Bool) (W : World) : (Instr.field 31 (.agg #[.string a, .string b, .slice A i j, .bool f, .slice B k n, .slice C m o]) 5).run Tryd.prog W = .ok (.slice C m o) W := by kernel_rfl
theorem field_fields (a b : ByteArray) (A B C : Option Addr) (i j k n m o : Nat) (f : Bool) (W : World) : (Instr.field 31 (.agg #[.string a, .string b, .slice A i j, .bool f, .slice B k n, .slice C m o]) 4).run Tryd.prog W = .ok (.slice B k n) W := by kernel_rfl
attribute [local go_sem] field_meths
/-- Has the method the name and the type? -/
def askB (z u : List UInt8) (m : MethD) : Bool := m.nm == z && m.ty == u
def wholeB (z u : List UInt8) (m : MethD) : Bool := (m.nm == z && m.ty == u) && !m.ab
set_option maxHeartbeats 2000000 in
theorem asked_any (z u : List UInt8) (b1 b2 : Nat) (w : World) (h1 : w.cell? ⟨b1, 0, none⟩ = some (.string (bs z))) (h2 : w.cell? ⟨b2, 0, none⟩ = some (.string (bs u))) (hb1 : b1 < w.heap.size) (hb2 : b2 < w.heap.size) (x : MethD) (A : Option Addr) (i j : Nat) (B : Option Addr) (k l : Nat) :
    Calls Tryd.prog 12 #[methV x A i j B k l, .pointer (some ⟨b1, 0, none⟩), .pointer (some ⟨b2, 0, none⟩)] w fun e w' => e = .returned (.bool (askB z u x)) ∧ Below w.heap.size w w' := by
  unfold methV
  by_cases he : x.nm = z
  · by_cases hf : x.ty = u
    · have e : askB z u x = true := by simp [askB, he, hf]
      rw [e]
      rw [← he] at h1
      rw [← hf] at h2
      clear e he hf
      go_enter Tryd.func12, Tryd.ntmps12
      go_wp2
      go_ret
      exact ⟨rfl, al1 _ _⟩
    · have e : askB z u x = false := by simp [askB, hf]
      rw [e]
      rw [← he] at h1
      have hne := str_ne hf
      clear e he hf
      go_enter Tryd.func12, Tryd.ntmps12
      go_wp2
      go_ret
      exact ⟨rfl, al1 _ _⟩
  · have e : askB z u x = false := by simp [askB, he]
    rw [e]
    have hne := str_ne he
    clear e he
    go_enter Tryd.func12, Tryd.ntmps12
    go_wp2
    go_ret
    exact ⟨rfl, al1 _ _⟩
set_option maxRecDepth 20000 in
set_option maxHeartbeats 4000000 in
theorem whole_any (z u : List UInt8) (b1 b2 b3 : Nat) (w : World) (h1 : w.cell? ⟨b1, 0, none⟩ = some (.string (bs z))) (h2 : w.cell? ⟨b2, 0, none⟩ = some (.string (bs u))) (h3 : w.cell? ⟨b3, 0, none⟩ = some (.func (.func 12) #[] #[.pointer (some ⟨b1, 0, none⟩), .pointer (some ⟨b2, 0, none⟩)])) (hb1 : b1 < w.heap.size) (hb2 : b2 < w.heap.size) (hb3 : b3 < w.heap.size) (x : MethD) (A : Option Addr) (i j : Nat) (B : Option Addr) (k l : Nat) :
    Calls Tryd.prog 26 #[methV x A i j B k l, .pointer (some ⟨b3, 0, none⟩)] w fun e w' => e = .returned (.bool (wholeB z u x)) ∧ Below w.heap.size w w' := by
  have hal := al1 w (.cells #[.string (bs x.nm), .string (bs x.ty), .bool x.st, .bool x.ab, .bool x.pr, .int .i64 x.lo, .slice A i j, .slice B k l] 36)
  have ha := asked_any z u b1 b2 _ ((hal.cell (p := ⟨b1, 0, none⟩) hb1).trans h1) ((hal.cell (p := ⟨b2, 0, none⟩) hb2).trans h2) (Nat.lt_of_lt_of_le hb1 hal.size) (Nat.lt_of_lt_of_le hb2 hal.size) x A i j B k l
  have HCx := Lib.hid (cells_at w #[.string (bs x.nm), .string (bs x.ty), .bool x.st, .bool x.ab, .bool x.pr, .int .i64 x.lo, .slice A i j, .slice B k l] 36)
  have HB0 := Lib.hid hal
  have hw : wholeB z u x = (askB z u x && !x.ab) := rfl
  rw [hw]
  clear h1 h2 hb1 hb2 hal hw
  unfold methV at ha ⊢
  cases hq : askB z u x with
  | true =>
    rw [hq] at ha
    have HA := Lib.hid ha
    clear ha hq
    cases hab : x.ab with
    | true =>
      rw [hab] at HA HCx HB0
      go_enter Tryd.func26, Tryd.ntmps26
      go_wp2_with (first
        | (go_at_call 12; (with_reducible refine HA.out.mono ?_); rintro e w1 ⟨rfl, hb⟩
           obtain ⟨q0, q1, q2, q3, q4, q5, q6, q7⟩ := (HCx.out.below hb).get8
           have HB1 := Lib.hid (bnext HB0.out hb)
           clear hb))
      go_ret
      exact ⟨rfl, HB1.out⟩
    | false =>
      rw [hab] at HA HCx HB0
      go_enter Tryd.func26, Tryd.ntmps26
      go_wp2_with (first
        | (go_at_call 12; (with_reducible refine HA.out.mono ?_); rintro e w1 ⟨rfl, hb⟩
           obtain ⟨q0, q1, q2, q3, q4, q5, q6, q7⟩ := (HCx.out.below hb).get8
           have HB1 := Lib.hid (bnext HB0.out hb)
           clear hb))
      go_ret
      exact ⟨rfl, HB1.out⟩
  | false =>
    rw [hq] at ha
    have HA := Lib.hid ha
    clear ha hq
    go_enter Tryd.func26, Tryd.ntmps26
    go_wp2_with (first
      | (go_at_call 12; (with_reducible refine HA.out.mono ?_); rintro e w1 ⟨rfl, hb⟩
         have HB1 := Lib.hid (bnext HB0.out hb)
         clear hb))
    go_ret
    exact ⟨rfl, HB1.out⟩

/-- What first says. -/
def FirstSays (w : World) (o : Option (List UInt8 × MethD)) (e : Ending) (w' : World) : Prop :=
  ∃ v, e = .returned (.tuple #[.string (bs ((o.map (·.1)).getD [])), v, errV (if o.isSome = true then 0 else 3)]) ∧ MethBare ((o.map (·.2)).getD zeroM) v ∧ Below w.heap.size w w'

set_option maxRecDepth 20000 in
set_option maxHeartbeats 8000000 in
theorem firstA_any (l : List ClassD) (hJ : Joined l) (p : MethD → Bool) (b1 b2 : Nat) (s : List (List UInt8)) (A : Option Addr) (n c : Nat) (M : Option Addr) (d : Nat) (w : World) (R : ClassRow w A n c l) (S : StrRow w M s.length d s) (hn : n ≤ 140737488351232) (hs : s.length ≤ 1000) (hf : ∀ x ∈ s, (classD l x).meths.length ≤ 1000000000 ∧ ∀ m ∈ (classD l x).meths, m.upto 140737488351232)
    (HC : ∀ (W : World), Below w.heap.size w W → ∀ (x : MethD) (A : Option Addr) (i j : Nat) (B : Option Addr) (k l : Nat), Calls Tryd.prog 12 #[methV x A i j B k l, .pointer (some ⟨b1, 0, none⟩), .pointer (some ⟨b2, 0, none⟩)] W fun e w' => e = .returned (.bool (p x)) ∧ Below W.heap.size W w') :
    Calls Tryd.prog 13 #[.slice A n c, .slice M s.length d, .func (.func 12) #[] #[.pointer (some ⟨b1, 0, none⟩), .pointer (some ⟨b2, 0, none⟩)]] w (FirstSays w (firstM l p s)) := by
  have hb0 := al1 w (.cells #[.string ⟨#[]⟩, .string ⟨#[]⟩, .bool false, .bool false, .bool false, .int .i64 0, .slice none 0 0, .slice none 0 0] 36)
  have HR := Lib.hid R
  have HO := Lib.hid S
  have HG := Lib.hid (fun y W R => given_any l y A n c W R hn)
  have HOwn := Lib.hid (fun m hm A i j B k l W => ownMethod_any m hm A i j B k l W)
  have HJ := Lib.hid hJ
  have HF := Lib.hid hf
  have HB0 := Lib.hid hb0
  have HLd := Lib.hid (laid8_at w 36)
  have HC0 := Lib.hid HC
  have HP0 := Lib.hid (NoneTo.start (fun x => ((classD l x).meths.find? p).map (fun m => (x, m))) s)
  clear R S hb0 hf HC hJ
  go_enter Tryd.func13, Tryd.ntmps13
  go_wp2_with fail
  go_loopw [10, 12, 15] (fun _ _ i wr => ∃ t : Nat, t ≤ s.length ∧ i = .int .i64 t ∧ Hid (NoneTo (fun x => ((classD l x).meths.find? p).map (fun m => (x, m))) s t) ∧ Hid (Below w.heap.size w wr) ∧ Hid (Laid8 wr w.heap.size)) (fun _ _ i _ => s.length - (intOf i).toNat)
  case atStart => exact ⟨0, Nat.zero_le _, rfl, HP0, HB0, HLd⟩
  case round =>
    obtain ⟨t, ht, rfl, HN, HB, HL⟩ := hrel
    by_cases hlt : t < s.length
    · obtain ⟨b1_, o1, rfl, hb1, hx1⟩ := SRow.at_ (StrRow.below HO.out HB.out) hlt
      rw [Nat.mul_one] at hx1
      unfold StrAt at hx1
      have HGx := Lib.hid (HG.out s[t] wr (ClassRow.below HR.out HB.out))
      have hfx := HF.out _ (List.getElem_mem hlt)
      have HGm := Lib.hid (given_lists HJ.out s[t]).2
      have HHit := Lib.hid (show ∀ m, (classD l s[t]).meths.find? p = some m → firstM l p s = some (s[t], m) from fun m h => HN.out.hit hlt (by rw [h]; rfl))
      have HNx := Lib.hid (show (classD l s[t]).meths.find? p = none → _ from fun h => HN.out.next hlt (by rw [h]; rfl))
      generalize s[t] = x at *
      unfold GivenSays at HGx
      generalize (classD l x).meths = ms at *
      generalize givenD l x = gx at *
      have HFx := Lib.hid hfx.2
      have hfl := hfx.1
      clear hfx
      go_wp2_with (first
        | (go_at_call 24; (with_reducible refine HGx.out.mono ?_); rintro e w2 ⟨v2, rfl, hh, hb⟩
           obtain ⟨pA, pi, pj, pB, pk, pl, pC, pm, pn, rfl, _, _, RM, _, _, NM⟩ := hh
           rw [HGm.out] at RM
           have hpm : ms.length = pm := RM.1
           have HM2 := Lib.hid RM
           have HB2 := Lib.hid (bnext HB.out hb)
           have HL2 := Lib.hid (HL.out.below hb)
           clear hb RM))
      have HPm := Lib.hid hpm
      clear hpm
      go_loopw [12, 24] (fun _ i wq => ∃ k : Nat, k ≤ pm ∧ i = .int .i64 k ∧ Hid (NotTo p ms k) ∧ Hid (Below w2.heap.size w2 wq)) (fun _ i _ => pm - (intOf i).toNat)
      case atStart => exact ⟨0, Nat.zero_le _, rfl, Lib.hid (NotTo.start _ _), Lib.hid (Below.refl _ _)⟩
      case round =>
        obtain ⟨k, hk, rfl, HK, HBq⟩ := hrel
        by_cases hlk : k < pm
        · obtain ⟨b3, o3, rfl, hb3, hx3⟩ := SRow.at_ (MethRow.below HM2.out HBq.out) hlk
          have hk1 : k < ms.length := by rw [HPm.out]; exact hlk
          have hup := HFx.out _ (List.getElem_mem hk1)
          have HFo := Lib.hid (show p ms[k] = true → firstM l p s = some (x, ms[k]) from fun h => HHit.out _ (HK.out.hit hk1 h))
          have HKn := Lib.hid (show p ms[k] = false → _ from fun h => HK.out.next hk1 h)
          generalize ms[k] = m at *
          obtain ⟨d0, d1, d2, d3, d4, d5, ⟨D1, x1, y1, d6, _, _⟩, ⟨D2, x2, y2, d7, _, _⟩⟩ := hx3
          have HBw := Lib.hid (bnext HB2.out (bnext HBq.out (al1 _ (.cells #[.string (bs m.nm), .string (bs m.ty), .bool m.st, .bool m.ab, .bool m.pr, .int .i64 m.lo, .slice D1 x1 y1, .slice D2 x2 y2] 36))))
          have HCx := HC0.out _ HBw.out m D1 x1 y1 D2 x2 y2
          have HOx := HOwn.out m hup D1 x1 y1 D2 x2 y2
          have HBx := Lib.hid (cells_at _ #[.string (bs m.nm), .string (bs m.ty), .bool m.st, .bool m.ab, .bool m.pr, .int .i64 m.lo, .slice D1 x1 y1, .slice D2 x2 y2] 36 : Cells (wr.alloc _) wr.heap.size _)
          have HLq := Lib.hid (HL2.out.below (bnext HBq.out (al1 _ (.cells #[.string (bs m.nm), .string (bs m.ty), .bool m.st, .bool m.ab, .bool m.pr, .int .i64 m.lo, .slice D1 x1 y1, .slice D2 x2 y2] 36))))
          unfold methV at HCx HOx
          replace HOx := Lib.hid HOx
          clear hup
          cases hp : p m with
          | true =>
            rw [hp] at HCx
            replace HCx := Lib.hid HCx
            have HV := Lib.hid (HFo.out hp)
            clear HFo HKn hp
            go_wp2_with (first
              | (go_at_call 12; (with_reducible refine HCx.out.mono ?_); rintro e w4 ⟨rfl, hb⟩
                 have HB4 := Lib.hid (bnext HBw.out hb)
                 have HL4 := Lib.hid (HLq.out.below hb)
                 obtain ⟨q0, q1, q2, q3, q4, q5, q6, q7⟩ := (HBx.out.below hb).get8
                 clear hb)
              | (go_at_call 25; (with_reducible refine (HOx.out _).mono ?_); rintro e w5 ⟨v5, rfl, ⟨E1, r1, E2, r2, rfl⟩, hb⟩
                 obtain ⟨g0, g1, g2, g3, g4, g5, g6, g7, g8, f1, f2, f3, f4, f5, f6, f7, f8⟩ := HL4.out.below hb
                 have HB5 := Lib.hid (bnext HB4.out hb)
                 clear hb))
            refine bodyPost_ret (v := .tuple #[.string (bs x), .agg #[.string (bs m.nm), .string (bs m.ty), .bool m.st, .bool m.ab, .bool m.pr, .int .i64 m.lo, .slice E1 0 r1, .slice E2 0 r2], .nilIface]) ?_ rfl ⟨_, by rw [HV.out]; rfl, by rw [HV.out]; exact ⟨_, _, _, _, rfl⟩, ?_⟩
            · simp [results, Tryd.results13, go_sem, *]
            · have B := HB5.out
              have hzb := B.size
              repeat (first | with_reducible exact B | with_reducible refine bput_ ?_ (Nat.le_refl _) | with_reducible refine bal_ ?_ (by simp; omega))
          | false =>
            rw [hp] at HCx
            replace HCx := Lib.hid HCx
            have HK2 := Lib.hid (HKn.out hp)
            clear HFo HKn hp HOx
            go_wp2_with (first
              | (go_at_call 12; (with_reducible refine HCx.out.mono ?_); rintro e w4 ⟨rfl, hb⟩
                 have HB4 := Lib.hid (bnext (bnext HBq.out (al1 _ (.cells #[.string (bs m.nm), .string (bs m.ty), .bool m.st, .bool m.ab, .bool m.pr, .int .i64 m.lo, .slice D1 x1 y1, .slice D2 x2 y2] 36))) hb)
                 clear hb))
            go_roundw
            case rel => exact ⟨k + 1, by omega, by go_num, HK2, HB4⟩
            case measure => first | (simp [intOf]; omega) | simp [intOf]
        · obtain rfl : k = pm := by omega
          have HN2 := Lib.hid (HNx.out (HK.out.all (by rw [HPm.out]; exact Nat.le_refl _)))
          have HB3 := Lib.hid (bnext HB2.out HBq.out)
          have HL3 := Lib.hid (HL2.out.below HBq.out)
          go_wp2_with fail
          go_roundw
          case rel => exact ⟨t + 1, by omega, by go_num, HN2, HB3, HL3⟩
          case measure => first | (simp [intOf]; omega) | simp [intOf]
    · obtain rfl : t = s.length := by omega
      have HV := Lib.hid (show firstM l p s = none from HN.out.all (Nat.le_refl _))
      obtain ⟨g0, g1, g2, g3, g4, g5, g6, g7, g8, f1, f2, f3, f4, f5, f6, f7, f8⟩ := HL.out
      go_wp2_with fail
      refine bodyPost_ret (v := .tuple #[.string ⟨#[]⟩, .agg #[.string ⟨#[]⟩, .string ⟨#[]⟩, .bool false, .bool false, .bool false, .int .i64 0, .slice none 0 0, .slice none 0 0], errV 3]) ?_ rfl ⟨_, by rw [HV.out]; rfl, by rw [HV.out]; exact ⟨none, 0, none, 0, rfl⟩, ?_⟩
      · simp [results, Tryd.results13, go_sem, *]
        try rfl
      · have B := HB.out
        repeat (first | with_reducible exact B | with_reducible refine bput_ ?_ (Nat.le_refl _))

set_option maxRecDepth 20000 in
set_option maxHeartbeats 8000000 in
theorem firstW_any (l : List ClassD) (hJ : Joined l) (p : MethD → Bool) (b3_ : Nat) (s : List (List UInt8)) (A : Option Addr) (n c : Nat) (M : Option Addr) (d : Nat) (w : World) (R : ClassRow w A n c l) (S : StrRow w M s.length d s) (hn : n ≤ 140737488351232) (hs : s.length ≤ 1000) (hf : ∀ x ∈ s, (classD l x).meths.length ≤ 1000000000 ∧ ∀ m ∈ (classD l x).meths, m.upto 140737488351232)
    (HC : ∀ (W : World), Below w.heap.size w W → ∀ (x : MethD) (A : Option Addr) (i j : Nat) (B : Option Addr) (k l : Nat), Calls Tryd.prog 26 #[methV x A i j B k l, .pointer (some ⟨b3_, 0, none⟩)] W fun e w' => e = .returned (.bool (p x)) ∧ Below W.heap.size W w') :
    Calls Tryd.prog 13 #[.slice A n c, .slice M s.length d, .func (.func 26) #[] #[.pointer (some ⟨b3_, 0, none⟩)]] w (FirstSays w (firstM l p s)) := by
  have hb0 := al1 w (.cells #[.string ⟨#[]⟩, .string ⟨#[]⟩, .bool false, .bool false, .bool false, .int .i64 0, .slice none 0 0, .slice none 0 0] 36)
  have HR := Lib.hid R
  have HO := Lib.hid S
  have HG := Lib.hid (fun y W R => given_any l y A n c W R hn)
  have HOwn := Lib.hid (fun m hm A i j B k l W => ownMethod_any m hm A i j B k l W)
  have HJ := Lib.hid hJ
  have HF := Lib.hid hf
  have HB0 := Lib.hid hb0
  have HLd := Lib.hid (laid8_at w 36)
  have HC0 := Lib.hid HC
  have HP0 := Lib.hid (NoneTo.start (fun x => ((classD l x).meths.find? p).map (fun m => (x, m))) s)
  clear R S hb0 hf HC hJ
  go_enter Tryd.func13, Tryd.ntmps13
  go_wp2_with fail
  go_loopw [10, 12, 15] (fun _ _ i wr => ∃ t : Nat, t ≤ s.length ∧ i = .int .i64 t ∧ Hid (NoneTo (fun x => ((classD l x).meths.find? p).map (fun m => (x, m))) s t) ∧ Hid (Below w.heap.size w wr) ∧ Hid (Laid8 wr w.heap.size)) (fun _ _ i _ => s.length - (intOf i).toNat)
  case atStart => exact ⟨0, Nat.zero_le _, rfl, HP0, HB0, HLd⟩
  case round =>
    obtain ⟨t, ht, rfl, HN, HB, HL⟩ := hrel
    by_cases hlt : t < s.length
    · obtain ⟨b1_, o1, rfl, hb1, hx1⟩ := SRow.at_ (StrRow.below HO.out HB.out) hlt
      rw [Nat.mul_one] at hx1
      unfold StrAt at hx1
      have HGx := Lib.hid (HG.out s[t] wr (ClassRow.below HR.out HB.out))
      have hfx := HF.out _ (List.getElem_mem hlt)
      have HGm := Lib.hid (given_lists HJ.out s[t]).2
      have HHit := Lib.hid (show ∀ m, (classD l s[t]).meths.find? p = some m → firstM l p s = some (s[t], m) from fun m h => HN.out.hit hlt (by rw [h]; rfl))
      have HNx := Lib.hid (show (classD l s[t]).meths.find? p = none → _ from fun h => HN.out.next hlt (by rw [h]; rfl))
      generalize s[t] = x at *
      unfold GivenSays at HGx
      generalize (classD l x).meths = ms at *
      generalize givenD l x = gx at *
      have HFx := Lib.hid hfx.2
      have hfl := hfx.1
      clear hfx
      go_wp2_with (first
        | (go_at_call 24; (with_reducible refine HGx.out.mono ?_); rintro e w2 ⟨v2, rfl, hh, hb⟩
           obtain ⟨pA, pi, pj, pB, pk, pl, pC, pm, pn, rfl, _, _, RM, _, _, NM⟩ := hh
           rw [HGm.out] at RM
           have hpm : ms.length = pm := RM.1
           have HM2 := Lib.hid RM
           have HB2 := Lib.hid (bnext HB.out hb)
           have HL2 := Lib.hid (HL.out.below hb)
           clear hb RM))
      have HPm := Lib.hid hpm
      clear hpm
      go_loopw [12, 24] (fun _ i wq => ∃ k : Nat, k ≤ pm ∧ i = .int .i64 k ∧ Hid (NotTo p ms k) ∧ Hid (Below w2.heap.size w2 wq)) (fun _ i _ => pm - (intOf i).toNat)
      case atStart => exact ⟨0, Nat.zero_le _, rfl, Lib.hid (NotTo.start _ _), Lib.hid (Below.refl _ _)⟩
      case round =>
        obtain ⟨k, hk, rfl, HK, HBq⟩ := hrel
        by_cases hlk : k < pm
        · obtain ⟨b3, o3, rfl, hb3, hx3⟩ := SRow.at_ (MethRow.below HM2.out HBq.out) hlk
          have hk1 : k < ms.length := by rw [HPm.out]; exact hlk
          have hup := HFx.out _ (List.getElem_mem hk1)
          have HFo := Lib.hid (show p ms[k] = true → firstM l p s = some (x, ms[k]) from fun h => HHit.out _ (HK.out.hit hk1 h))
          have HKn := Lib.hid (show p ms[k] = false → _ from fun h => HK.out.next hk1 h)
          generalize ms[k] = m at *
          obtain ⟨d0, d1, d2, d3, d4, d5, ⟨D1, x1, y1, d6, _, _⟩, ⟨D2, x2, y2, d7, _, _⟩⟩ := hx3
          have HBw := Lib.hid (bnext HB2.out (bnext HBq.out (al1 _ (.cells #[.string (bs m.nm), .string (bs m.ty), .bool m.st, .bool m.ab, .bool m.pr, .int .i64 m.lo, .slice D1 x1 y1, .slice D2 x2 y2] 36))))
          have HCx := HC0.out _ HBw.out m D1 x1 y1 D2 x2 y2
          have HOx := HOwn.out m hup D1 x1 y1 D2 x2 y2
          have HBx := Lib.hid (cells_at _ #[.string (bs m.nm), .string (bs m.ty), .bool m.st, .bool m.ab, .bool m.pr, .int .i64 m.lo, .slice D1 x1 y1, .slice D2 x2 y2] 36 : Cells (wr.alloc _) wr.heap.size _)
          have HLq := Lib.hid (HL2.out.below (bnext HBq.out (al1 _ (.cells #[.string (bs m.nm), .string (bs m.ty), .bool m.st, .bool m.ab, .bool m.pr, .int .i64 m.lo, .slice D1 x1 y1, .slice D2 x2 y2] 36))))
          unfold methV at HCx HOx
          replace HOx := Lib.hid HOx
          clear hup
          cases hp : p m with
          | true =>
            rw [hp] at HCx
            replace HCx := Lib.hid HCx
            have HV := Lib.hid (HFo.out hp)
            clear HFo HKn hp
            go_wp2_with (first
              | (go_at_call 26; (with_reducible refine HCx.out.mono ?_); rintro e w4 ⟨rfl, hb⟩
                 have HB4 := Lib.hid (bnext HBw.out hb)
                 have HL4 := Lib.hid (HLq.out.below hb)
                 obtain ⟨q0, q1, q2, q3, q4, q5, q6, q7⟩ := (HBx.out.below hb).get8
                 clear hb)
              | (go_at_call 25; (with_reducible refine (HOx.out _).mono ?_); rintro e w5 ⟨v5, rfl, ⟨E1, r1, E2, r2, rfl⟩, hb⟩
                 obtain ⟨g0, g1, g2, g3, g4, g5, g6, g7, g8, f1, f2, f3, f4, f5, f6, f7, f8⟩ := HL4.out.below hb
                 have HB5 := Lib.hid (bnext HB4.out hb)
                 clear hb))
            refine bodyPost_ret (v := .tuple #[.string (bs x), .agg #[.string (bs m.nm), .string (bs m.ty), .bool m.st, .bool m.ab, .bool m.pr, .int .i64 m.lo, .slice E1 0 r1, .slice E2 0 r2], .nilIface]) ?_ rfl ⟨_, by rw [HV.out]; rfl, by rw [HV.out]; exact ⟨_, _, _, _, rfl⟩, ?_⟩
            · simp [results, Tryd.results13, go_sem, *]
            · have B := HB5.out
              have hzb := B.size
              repeat (first | with_reducible exact B | with_reducible refine bput_ ?_ (Nat.le_refl _) | with_reducible refine bal_ ?_ (by simp; omega))
          | false =>
            rw [hp] at HCx
            replace HCx := Lib.hid HCx
            have HK2 := Lib.hid (HKn.out hp)
            clear HFo HKn hp HOx
            go_wp2_with (first
              | (go_at_call 26; (with_reducible refine HCx.out.mono ?_); rintro e w4 ⟨rfl, hb⟩
                 have HB4 := Lib.hid (bnext (bnext HBq.out (al1 _ (.cells #[.string (bs m.nm), .string (bs m.ty), .bool m.st, .bool m.ab, .bool m.pr, .int .i64 m.lo, .slice D1 x1 y1, .slice D2 x2 y2] 36))) hb)
                 clear hb))
            go_roundw
            case rel => exact ⟨k + 1, by omega, by go_num, HK2, HB4⟩
            case measure => first | (simp [intOf]; omega) | simp [intOf]
        · obtain rfl : k = pm := by omega
          have HN2 := Lib.hid (HNx.out (HK.out.all (by rw [HPm.out]; exact Nat.le_refl _)))
          have HB3 := Lib.hid (bnext HB2.out HBq.out)
          have HL3 := Lib.hid (HL2.out.below HBq.out)
          go_wp2_with fail
          go_roundw
          case rel => exact ⟨t + 1, by omega, by go_num, HN2, HB3, HL3⟩
          case measure => first | (simp [intOf]; omega) | simp [intOf]
    · obtain rfl : t = s.length := by omega
      have HV := Lib.hid (show firstM l p s = none from HN.out.all (Nat.le_refl _))
      obtain ⟨g0, g1, g2, g3, g4, g5, g6, g7, g8, f1, f2, f3, f4, f5, f6, f7, f8⟩ := HL.out
      go_wp2_with fail
      refine bodyPost_ret (v := .tuple #[.string ⟨#[]⟩, .agg #[.string ⟨#[]⟩, .string ⟨#[]⟩, .bool false, .bool false, .bool false, .int .i64 0, .slice none 0 0, .slice none 0 0], errV 3]) ?_ rfl ⟨_, by rw [HV.out]; rfl, by rw [HV.out]; exact ⟨none, 0, none, 0, rfl⟩, ?_⟩
      · simp [results, Tryd.results13, go_sem, *]
        try rfl
      · have B := HB.out
        repeat (first | with_reducible exact B | with_reducible refine bput_ ?_ (Nat.le_refl _))
end Go.Proofs.YtkolpbjpgobkcaaDoor
