/- The reference's FoundMethod. -/
import Derived.Test.YtkolpbjpgobkcaaGreatDoorGL
import Derived.Test.YtkolpbjpgobkcaaGreatDoorGX
namespace Go.Proofs.YtkolpbjpgobkcaaGreatDoor
open Go.ChangeShapes Go.WideShapes Go.ChangeAt Go.RowKit
set_option linter.unusedVariables false

/-- What FoundMethod says. -/
def FoundSays (w : World) (o : Option (List UInt8 × MethD)) (e : Ending) (w' : World) : Prop :=
  ∃ v, e = .returned (.tuple #[.string (bs ((o.map (·.1)).getD [])), v, .bool o.isSome]) ∧ MethVal ((o.map (·.2)).getD zeroM) v ∧ Below w.heap.size w w'
/-- One step of the search among interfaces. -/
def ifaceStep (l : List ClassD) (z u : List UInt8) (ab : Bool) (x : List UInt8) : Option (List UInt8 × MethD) := match methIn z u (classD l x) with
  | some m => if ((classD l x).face && m.ab == ab) = true then some (x, m) else none
  | none => none
theorem ifaceFirst_eq (l : List ClassD) (z u : List UInt8) (ab : Bool) (e : List (List UInt8)) : ifaceFirst l z u ab e = e.findSome? (ifaceStep l z u ab) := rfl
def methStep (l : List ClassD) (z u : List UInt8) (x : List UInt8) : Option (List UInt8 × MethD) := (methIn z u (classD l x)).map (fun m => (x, m))
theorem methFirst_eq (l : List ClassD) (z u : List UInt8) (s : List (List UInt8)) : methFirst l z u s = s.findSome? (methStep l z u) := rfl
theorem found_own {l : List ClassD} {z u : List UInt8} {s e : List (List UInt8)} {r : List UInt8 × MethD} (h : methFirst l z u s = some r) : foundFirst l z u s e = some r := by unfold foundFirst; rw [h]
theorem found_conc {l : List ClassD} {z u : List UInt8} {s e : List (List UInt8)} {r : List UInt8 × MethD} (h : methFirst l z u s = none) (h1 : ifaceFirst l z u false e = some r) : foundFirst l z u s e = some r := by unfold foundFirst; rw [h, h1]
theorem found_abs {l : List ClassD} {z u : List UInt8} {s e : List (List UInt8)} {o : Option (List UInt8 × MethD)} (h : methFirst l z u s = none) (h1 : ifaceFirst l z u false e = none) (h2 : ifaceFirst l z u true e = o) : foundFirst l z u s e = o := by unfold foundFirst; rw [h, h1, h2]
theorem Laid8.keep {w w' : World} {g : Nat} (h : Laid8 w g) (hb : Below w.heap.size w w') : Laid8 w' g := h.below hb

set_option maxRecDepth 20000 in
set_option maxHeartbeats 16000000 in
theorem rfound_any (l : List ClassD) (hV : Valid l) (y z u : List UInt8) (hk : knownB l y = true) (s ev : List (List UInt8)) (hC : Chain l y s) (hS : Sorted l y ev) (A : Option Addr) (n c : Nat) (w : World) (R : ClassRow w A n c l) (hn : n ≤ 140737488351232) (hs : s.length ≤ 1000) (hf : ∀ x, (classD l x).meths.length ≤ 1000000000) :
    Calls Tryz.prog 9 #[.slice A n c, .string (bs y), .string (bs z), .string (bs u)] w (FoundSays w (foundFirst l z u s ev)) := by
  have hb0 := al1 w (.cells #[.string ⟨#[]⟩, .string ⟨#[]⟩, .bool false, .bool false, .bool false, .int .i64 0, .slice none 0 0, .slice none 0 0] 35)
  have HS := Lib.hid (rsupers_any l y s hC A n c _ (ClassRow.below R hb0) hn hs)
  have HEv := Lib.hid (fun W R => revery_any l hV y hk A n c W R hn)
  have HOw := Lib.hid (fun x W R => rown_any l x z u A n c W R hn (hf x))
  have HCo := Lib.hid (fun x W R => rclassOf_any l x A n c W R hn)
  have HR := Lib.hid R
  have HB0 := Lib.hid hb0
  have HLd := Lib.hid (laid8_at w 35)
  have HSo := Lib.hid hS
  have HP0 := Lib.hid (NoneTo.start (methStep l z u) s)
  clear hC R hb0 hf hS hk hV
  go_enter Tryz.func9, Tryz.ntmps9
  go_wp2_with (first
    | (go_at_call 21; (with_reducible refine HS.out.mono ?_); rintro e w1 ⟨v1, rfl, hv, hb⟩
       obtain ⟨M, d, rfl⟩ := hv.form
       have HO1 := Lib.hid hv.row
       have HB1 := Lib.hid (bnext HB0.out hb)
       have HL1 := Lib.hid (HLd.out.below hb)
       clear hb hv))
  go_loopw [12, 13, 14] (fun i _ _ wr => ∃ t : Nat, t ≤ s.length ∧ i = .int .i64 t ∧ Hid (NoneTo (methStep l z u) s t) ∧ Hid (Below w1.heap.size w1 wr)) (fun i _ _ _ => s.length - (intOf i).toNat)
  case atStart => exact ⟨0, Nat.zero_le _, rfl, HP0, Lib.hid (Below.refl _ _)⟩
  case round =>
    obtain ⟨t, ht, rfl, HN, HB⟩ := hrel
    by_cases hlt : t < s.length
    · obtain ⟨b1, o1, rfl, hb1, hx1⟩ := SRow.at_ (StrRow.below HO1.out HB.out) hlt
      rw [Nat.mul_one] at hx1
      unfold StrAt at hx1
      have hOx := HOw.out s[t] wr (ClassRow.below HR.out (bnext HB1.out HB.out))
      unfold OwnSays at hOx
      have HHit := Lib.hid (show ∀ m, methIn z u (classD l s[t]) = some m → methFirst l z u s = some (s[t], m) from fun m h => HN.out.hit hlt (by unfold methStep; rw [h]; rfl))
      have HNx := Lib.hid (show methIn z u (classD l s[t]) = none → _ from fun h => HN.out.next hlt (by unfold methStep; rw [h]; rfl))
      generalize s[t] = x at *
      cases hm : methIn z u (classD l x) with
      | none =>
        rw [hm] at hOx
        have HOx := Lib.hid hOx
        have HN2 := Lib.hid (HNx.out hm)
        clear HHit HNx hm hOx
        go_wp2_with (first
          | (go_at_call 22; (with_reducible refine HOx.out.mono ?_); rintro e w2 ⟨v2, rfl, ⟨mA, mi, mj, mB, mk, ml, rfl⟩, hb⟩
             have HB2 := Lib.hid ((bnext HB.out hb).alloc (bnext HB.out hb).size (.cells #[.string (bs ((none : Option MethD).getD zeroM).nm), .string (bs ((none : Option MethD).getD zeroM).ty), .bool ((none : Option MethD).getD zeroM).st, .bool ((none : Option MethD).getD zeroM).ab, .bool ((none : Option MethD).getD zeroM).pr, .int .i64 ((none : Option MethD).getD zeroM).lo, .slice mA mi mj, .slice mB mk ml] 35))
             clear hb))
        go_roundw
        case rel => exact ⟨t + 1, by omega, by go_num, HN2, HB2⟩
        case measure => first | (simp [intOf]; omega) | simp [intOf]
      | some m =>
        rw [hm] at hOx
        simp only [Option.getD_some, Option.isSome_some] at hOx
        have HOx := Lib.hid hOx
        have HV := Lib.hid (found_own (e := ev) (HHit.out m hm))
        clear HHit HNx hm hOx
        go_wp2_with (first
          | (go_at_call 22; (with_reducible refine HOx.out.mono ?_); rintro e w2 ⟨v2, rfl, ⟨mA, mi, mj, mB, mk, ml, rfl⟩, hb⟩
             have hx2 := ((bnext (Below.refl _ _) hb).cell (p := ⟨b1, o1 + t, none⟩) hb1).trans hx1
             have hz2 := hb.size
             have hbl : b1 < w2.heap.size := by omega
             have HXa := Lib.hid (((al1 w2 (.cells #[.string (bs m.nm), .string (bs m.ty), .bool m.st, .bool m.ab, .bool m.pr, .int .i64 m.lo, .slice mA mi mj, .slice mB mk ml] 35)).cell (p := ⟨b1, o1 + t, none⟩) hbl).trans hx2)
             have HL2 := Lib.hid (HL1.out.below (bnext HB.out hb))
             have HB2 := Lib.hid (bnext HB.out hb)
             clear hb hx2))
        have hxa := HXa.out
        obtain ⟨g0, g1, g2, g3, g4, g5, g6, g7, g8, f1, f2, f3, f4, f5, f6, f7, f8⟩ := HL2.out
        go_region
        go_wp2_with fail
        refine bodyPost_ret (v := .tuple #[.string (bs x), .agg #[.string (bs m.nm), .string (bs m.ty), .bool m.st, .bool m.ab, .bool m.pr, .int .i64 m.lo, .slice mA mi mj, .slice mB mk ml], .bool true]) ?_ rfl ⟨_, by rw [HV.out]; rfl, by rw [HV.out]; exact ⟨_, _, _, _, _, _, rfl⟩, ?_⟩
        · simp [results, Tryz.results9, go_sem, *]
        · have B := bnext HB1.out HB2.out
          have hzb := B.size
          repeat (first | with_reducible exact B | with_reducible refine Below.drew ?_ | with_reducible refine bput_ ?_ (Nat.le_refl _) | with_reducible refine bal_ ?_ (by simp; omega))
    · obtain rfl : t = s.length := by omega
      have HM0 := Lib.hid (show methFirst l z u s = none from HN.out.all (Nat.le_refl _))
      have HBx := Lib.hid (bnext HB1.out HB.out)
      go_wp2_with (first
        | (go_at_call 23; (with_reducible refine (HEv.out _ (ClassRow.below HR.out HBx.out)).mono ?_); rintro e w3 ⟨out, hso, h13, v3, rfl, hv, hb⟩
           obtain rfl := hso.one HSo.out
           obtain ⟨E, de, rfl⟩ := hv.form
           have HE3 := Lib.hid hv.row
           have HB3 := Lib.hid (bnext HBx.out hb)
           have HL3 := Lib.hid (HL1.out.below (bnext HB.out hb))
           clear hb hv hso))
      go_loopw [16, 17, 18, 19, 20, 21] (fun i _ _ _ _ _ wq => ∃ τ : Nat, τ ≤ 2 ∧ i = .int .i64 τ ∧ Hid (0 < τ → ifaceFirst l z u false out = none) ∧ Hid (1 < τ → ifaceFirst l z u true out = none) ∧ Hid (Below w3.heap.size w3 wq)) (fun i _ _ _ _ _ _ => 2 - (intOf i).toNat)
      case atStart => exact ⟨0, by omega, rfl, Lib.hid (fun h => by omega), Lib.hid (fun h => by omega), Lib.hid (Below.refl _ _)⟩
      case round =>
        obtain ⟨τ, hτ, rfl, H0, H1, HBo⟩ := hrel
        rcases (show τ = 0 ∨ τ = 1 ∨ τ = 2 by omega) with rfl | rfl | rfl
        · have HFin := Lib.hid (show ∀ r, ifaceFirst l z u false out = some r → foundFirst l z u s out = some r from fun r h => found_conc HM0.out h)
          have HNext := Lib.hid (show ifaceFirst l z u false out = none → 0 + 1 ≤ 2 ∧ (0 < 0 + 1 → ifaceFirst l z u false out = none) ∧ (1 < 0 + 1 → ifaceFirst l z u true out = none) from fun h => ⟨by omega, fun _ => h, fun h2 => by omega⟩)
          have HI0 := Lib.hid (NoneTo.start (ifaceStep l z u false) out)
          go_wp2_with fail
          go_loopw [17, 18, 19, 20, 21] (fun i _ _ _ _ wr => ∃ t : Nat, t ≤ out.length ∧ i = .int .i64 t ∧ Hid (NoneTo (ifaceStep l z u false) out t) ∧ Hid (Below w3.heap.size w3 wr)) (fun i _ _ _ _ _ => out.length - (intOf i).toNat)
          case atStart => exact ⟨0, Nat.zero_le _, rfl, HI0, HBo⟩
          case round =>
            obtain ⟨t, ht, rfl, HN, HB⟩ := hrel
            by_cases hlt : t < out.length
            · obtain ⟨b1, o1, rfl, hb1, hx1⟩ := SRow.at_ (StrRow.below HE3.out HB.out) hlt
              rw [Nat.mul_one] at hx1
              unfold StrAt at hx1
              have hCx := HCo.out out[t] _ (ClassRow.below HR.out (bnext HB3.out HB.out))
              unfold ClassSays at hCx
              have hOx := fun W R => HOw.out out[t] W R
              unfold OwnSays at hOx
              have HHit := Lib.hid (show ∀ r, ifaceStep l z u false out[t] = some r → foundFirst l z u s out = some r from fun r h => HFin.out r (by rw [ifaceFirst_eq]; exact HN.out.hit hlt h))
              have HNx := Lib.hid (show ifaceStep l z u false out[t] = none → _ from fun h => HN.out.next hlt h)
              generalize out[t] = x at *
              have HCx := Lib.hid hCx
              clear hCx
              cases hm : methIn z u (classD l x) with
              | none =>
                have HN2 := Lib.hid (HNx.out (by unfold ifaceStep; rw [hm]))
                rw [hm] at hOx
                have HOx := Lib.hid hOx
                obtain ⟨fc, hfc'⟩ : ∃ fc, fc = (classD l x).face := ⟨_, rfl⟩
                have hfc := hfc'.symm
                clear HHit HNx hm hOx hfc'
                go_wp2_with (first
                  | (go_at_call 14; (with_reducible refine HCx.out.mono ?_); rintro e w4 ⟨v4, rfl, hh, hb⟩
                     obtain ⟨pA, pi, pj, pB, pk, pl, pC, pm, pn, hv, _⟩ := hh
                     rw [hfc] at hv
                     subst hv
                     have hx4 := (hb.cell (p := ⟨b1, o1 + t, none⟩) hb1).trans hx1
                     have hz4 := hb.size
                     have hbl4 : b1 < w4.heap.size := by omega
                     have hxb := ((al1 w4 (.cells #[.string (bs (classD l x).nm), .string (bs (classD l x).su), .slice pA pi pj, .bool fc, .slice pB pk pl, .slice pC pm pn] 51)).cell (p := ⟨b1, o1 + t, none⟩) hbl4).trans hx4
                     have HXb := Lib.hid hxb
                     have K3 := Lib.hid (World.cell?_alloc_mark w4 #[.string (bs (classD l x).nm), .string (bs (classD l x).su), .slice pA pi pj, .bool fc, .slice pB pk pl, .slice pC pm pn] 51 (0, 0) 3)
                     have HB4n := Lib.hid (bnext HB.out hb)
                     have HB4 := Lib.hid (HB4n.out.alloc HB4n.out.size (.cells #[.string (bs (classD l x).nm), .string (bs (classD l x).su), .slice pA pi pj, .bool fc, .slice pB pk pl, .slice pC pm pn] 51))
                     clear hb hx4)
                  | (go_at_call 22; (with_reducible refine (HOx.out _ (ClassRow.below HR.out (bnext HB3.out HB4.out))).mono ?_); rintro e w5 ⟨v5, rfl, ⟨mA, mi, mj, mB, mk, ml, hv⟩, hb⟩
                     subst hv
                     have hz5 : w4.heap.size < w5.heap.size := by have := hb.size; simp at this; omega
                     have hne5 : w4.heap.size ≠ w5.heap.size := by omega
                     have k3 := (hb.cell (p := ⟨w4.heap.size, 3, none⟩) (by simp)).trans K3.out
                     have hb5n := bnext HB4.out hb
                     have HB5n := Lib.hid hb5n
                     have HB5 := Lib.hid (hb5n.alloc hb5n.size (.cells #[.string (bs ((none : Option MethD).getD zeroM).nm), .string (bs ((none : Option MethD).getD zeroM).ty), .bool ((none : Option MethD).getD zeroM).st, .bool ((none : Option MethD).getD zeroM).ab, .bool ((none : Option MethD).getD zeroM).pr, .int .i64 ((none : Option MethD).getD zeroM).lo, .slice mA mi mj, .slice mB mk ml] 35))
                     have hx5 := (hb.cell (p := ⟨b1, o1 + t, none⟩) (by simp; omega)).trans HXb.out
                     have hbl5 : b1 < w5.heap.size := by omega
                     have HXc := Lib.hid (((al1 w5 (.cells #[.string (bs ((none : Option MethD).getD zeroM).nm), .string (bs ((none : Option MethD).getD zeroM).ty), .bool ((none : Option MethD).getD zeroM).st, .bool ((none : Option MethD).getD zeroM).ab, .bool ((none : Option MethD).getD zeroM).pr, .int .i64 ((none : Option MethD).getD zeroM).lo, .slice mA mi mj, .slice mB mk ml] 35)).cell (p := ⟨b1, o1 + t, none⟩) hbl5).trans hx5)
                     have HL5 := Lib.hid (HL3.out.below hb5n)
                     clear hb hb5n hx5))
                first | refine ⟨⟨_, _, _, _, _, _, _, _, _, _, _, _, _, _, _, _, _, _, _, _, _, _, _, _, _, _, _, _, _, _, _, _, _, _, _, _, _, _, _, _, _, _, _, _, _, _, _, _, _, _, ?_, rfl⟩, ?_⟩
                · exact ⟨t + 1, by omega, by go_num, HN2, HB5⟩
                · first | (simp [intOf]; omega) | simp [intOf]
              | some m =>
                rw [hm] at hOx
                simp only [Option.getD_some, Option.isSome_some] at hOx
                have HOx := Lib.hid hOx
                have hst : ifaceStep l z u false x = if ((classD l x).face && m.ab == false) = true then some (x, m) else none := by unfold ifaceStep; rw [hm]
                clear hOx hm
                cases hfc : (classD l x).face with
                | false =>
                  cases hab : m.ab with
                  | false =>
                    have HN2 := Lib.hid (HNx.out (by rw [hst, hfc, hab]; rfl))
                    clear HHit HNx hst
                    go_wp2_with (first
                      | (go_at_call 14; (with_reducible refine HCx.out.mono ?_); rintro e w4 ⟨v4, rfl, hh, hb⟩
                         obtain ⟨pA, pi, pj, pB, pk, pl, pC, pm, pn, hv, _⟩ := hh
                         rw [hfc] at hv
                         subst hv
                         have hx4 := (hb.cell (p := ⟨b1, o1 + t, none⟩) hb1).trans hx1
                         have hz4 := hb.size
                         have hbl4 : b1 < w4.heap.size := by omega
                         have hxb := ((al1 w4 (.cells #[.string (bs (classD l x).nm), .string (bs (classD l x).su), .slice pA pi pj, .bool false, .slice pB pk pl, .slice pC pm pn] 51)).cell (p := ⟨b1, o1 + t, none⟩) hbl4).trans hx4
                         have HXb := Lib.hid hxb
                         have K3 := Lib.hid (World.cell?_alloc_mark w4 #[.string (bs (classD l x).nm), .string (bs (classD l x).su), .slice pA pi pj, .bool false, .slice pB pk pl, .slice pC pm pn] 51 (0, 0) 3)
                         have HB4n := Lib.hid (bnext HB.out hb)
                         have HB4 := Lib.hid (HB4n.out.alloc HB4n.out.size (.cells #[.string (bs (classD l x).nm), .string (bs (classD l x).su), .slice pA pi pj, .bool false, .slice pB pk pl, .slice pC pm pn] 51))
                         clear hb hx4)
                      | (go_at_call 22; (with_reducible refine (HOx.out _ (ClassRow.below HR.out (bnext HB3.out HB4.out))).mono ?_); rintro e w5 ⟨v5, rfl, ⟨mA, mi, mj, mB, mk, ml, hv⟩, hb⟩
                         rw [hab] at hv
                         subst hv
                         have hz5 : w4.heap.size < w5.heap.size := by have := hb.size; simp at this; omega
                         have hne5 : w4.heap.size ≠ w5.heap.size := by omega
                         have k3 := (hb.cell (p := ⟨w4.heap.size, 3, none⟩) (by simp)).trans K3.out
                         have hb5n := bnext HB4.out hb
                         have HB5n := Lib.hid hb5n
                         have HB5 := Lib.hid (hb5n.alloc hb5n.size (.cells #[.string (bs m.nm), .string (bs m.ty), .bool m.st, .bool false, .bool m.pr, .int .i64 m.lo, .slice mA mi mj, .slice mB mk ml] 35))
                         have hx5 := (hb.cell (p := ⟨b1, o1 + t, none⟩) (by simp; omega)).trans HXb.out
                         have hbl5 : b1 < w5.heap.size := by omega
                         have HXc := Lib.hid (((al1 w5 (.cells #[.string (bs m.nm), .string (bs m.ty), .bool m.st, .bool false, .bool m.pr, .int .i64 m.lo, .slice mA mi mj, .slice mB mk ml] 35)).cell (p := ⟨b1, o1 + t, none⟩) hbl5).trans hx5)
                         have HL5 := Lib.hid (HL3.out.below hb5n)
                         clear hb hb5n hx5))
                    first | refine ⟨⟨_, _, _, _, _, _, _, _, _, _, _, _, _, _, _, _, _, _, _, _, _, _, _, _, _, _, _, _, _, _, _, _, _, _, _, _, _, _, _, _, _, _, _, _, _, _, _, _, _, _, ?_, rfl⟩, ?_⟩
                    · exact ⟨t + 1, by omega, by go_num, HN2, HB5⟩
                    · first | (simp [intOf]; omega) | simp [intOf]
                  | true =>
                    have HN2 := Lib.hid (HNx.out (by rw [hst, hfc, hab]; rfl))
                    clear HHit HNx hst
                    go_wp2_with (first
                      | (go_at_call 14; (with_reducible refine HCx.out.mono ?_); rintro e w4 ⟨v4, rfl, hh, hb⟩
                         obtain ⟨pA, pi, pj, pB, pk, pl, pC, pm, pn, hv, _⟩ := hh
                         rw [hfc] at hv
                         subst hv
                         have hx4 := (hb.cell (p := ⟨b1, o1 + t, none⟩) hb1).trans hx1
                         have hz4 := hb.size
                         have hbl4 : b1 < w4.heap.size := by omega
                         have hxb := ((al1 w4 (.cells #[.string (bs (classD l x).nm), .string (bs (classD l x).su), .slice pA pi pj, .bool false, .slice pB pk pl, .slice pC pm pn] 51)).cell (p := ⟨b1, o1 + t, none⟩) hbl4).trans hx4
                         have HXb := Lib.hid hxb
                         have K3 := Lib.hid (World.cell?_alloc_mark w4 #[.string (bs (classD l x).nm), .string (bs (classD l x).su), .slice pA pi pj, .bool false, .slice pB pk pl, .slice pC pm pn] 51 (0, 0) 3)
                         have HB4n := Lib.hid (bnext HB.out hb)
                         have HB4 := Lib.hid (HB4n.out.alloc HB4n.out.size (.cells #[.string (bs (classD l x).nm), .string (bs (classD l x).su), .slice pA pi pj, .bool false, .slice pB pk pl, .slice pC pm pn] 51))
                         clear hb hx4)
                      | (go_at_call 22; (with_reducible refine (HOx.out _ (ClassRow.below HR.out (bnext HB3.out HB4.out))).mono ?_); rintro e w5 ⟨v5, rfl, ⟨mA, mi, mj, mB, mk, ml, hv⟩, hb⟩
                         rw [hab] at hv
                         subst hv
                         have hz5 : w4.heap.size < w5.heap.size := by have := hb.size; simp at this; omega
                         have hne5 : w4.heap.size ≠ w5.heap.size := by omega
                         have k3 := (hb.cell (p := ⟨w4.heap.size, 3, none⟩) (by simp)).trans K3.out
                         have hb5n := bnext HB4.out hb
                         have HB5n := Lib.hid hb5n
                         have HB5 := Lib.hid (hb5n.alloc hb5n.size (.cells #[.string (bs m.nm), .string (bs m.ty), .bool m.st, .bool true, .bool m.pr, .int .i64 m.lo, .slice mA mi mj, .slice mB mk ml] 35))
                         have hx5 := (hb.cell (p := ⟨b1, o1 + t, none⟩) (by simp; omega)).trans HXb.out
                         have hbl5 : b1 < w5.heap.size := by omega
                         have HXc := Lib.hid (((al1 w5 (.cells #[.string (bs m.nm), .string (bs m.ty), .bool m.st, .bool true, .bool m.pr, .int .i64 m.lo, .slice mA mi mj, .slice mB mk ml] 35)).cell (p := ⟨b1, o1 + t, none⟩) hbl5).trans hx5)
                         have HL5 := Lib.hid (HL3.out.below hb5n)
                         clear hb hb5n hx5))
                    first | refine ⟨⟨_, _, _, _, _, _, _, _, _, _, _, _, _, _, _, _, _, _, _, _, _, _, _, _, _, _, _, _, _, _, _, _, _, _, _, _, _, _, _, _, _, _, _, _, _, _, _, _, _, _, ?_, rfl⟩, ?_⟩
                    · exact ⟨t + 1, by omega, by go_num, HN2, HB5⟩
                    · first | (simp [intOf]; omega) | simp [intOf]
                | true =>
                  cases hab : m.ab with
                  | false =>
                    have HV := Lib.hid (HHit.out (x, m) (by rw [hst, hfc, hab]; rfl))
                    clear HHit HNx hst
                    go_wp2_with (first
                      | (go_at_call 14; (with_reducible refine HCx.out.mono ?_); rintro e w4 ⟨v4, rfl, hh, hb⟩
                         obtain ⟨pA, pi, pj, pB, pk, pl, pC, pm, pn, hv, _⟩ := hh
                         rw [hfc] at hv
                         subst hv
                         have hx4 := (hb.cell (p := ⟨b1, o1 + t, none⟩) hb1).trans hx1
                         have hz4 := hb.size
                         have hbl4 : b1 < w4.heap.size := by omega
                         have hxb := ((al1 w4 (.cells #[.string (bs (classD l x).nm), .string (bs (classD l x).su), .slice pA pi pj, .bool true, .slice pB pk pl, .slice pC pm pn] 51)).cell (p := ⟨b1, o1 + t, none⟩) hbl4).trans hx4
                         have HXb := Lib.hid hxb
                         have K3 := Lib.hid (World.cell?_alloc_mark w4 #[.string (bs (classD l x).nm), .string (bs (classD l x).su), .slice pA pi pj, .bool true, .slice pB pk pl, .slice pC pm pn] 51 (0, 0) 3)
                         have HB4n := Lib.hid (bnext HB.out hb)
                         have HB4 := Lib.hid (HB4n.out.alloc HB4n.out.size (.cells #[.string (bs (classD l x).nm), .string (bs (classD l x).su), .slice pA pi pj, .bool true, .slice pB pk pl, .slice pC pm pn] 51))
                         clear hb hx4)
                      | (go_at_call 22; (with_reducible refine (HOx.out _ (ClassRow.below HR.out (bnext HB3.out HB4.out))).mono ?_); rintro e w5 ⟨v5, rfl, ⟨mA, mi, mj, mB, mk, ml, hv⟩, hb⟩
                         rw [hab] at hv
                         subst hv
                         have hz5 : w4.heap.size < w5.heap.size := by have := hb.size; simp at this; omega
                         have hne5 : w4.heap.size ≠ w5.heap.size := by omega
                         have k3 := (hb.cell (p := ⟨w4.heap.size, 3, none⟩) (by simp)).trans K3.out
                         have hb5n := bnext HB4.out hb
                         have HB5n := Lib.hid hb5n
                         have HB5 := Lib.hid (hb5n.alloc hb5n.size (.cells #[.string (bs m.nm), .string (bs m.ty), .bool m.st, .bool false, .bool m.pr, .int .i64 m.lo, .slice mA mi mj, .slice mB mk ml] 35))
                         have hx5 := (hb.cell (p := ⟨b1, o1 + t, none⟩) (by simp; omega)).trans HXb.out
                         have hbl5 : b1 < w5.heap.size := by omega
                         have HXc := Lib.hid (((al1 w5 (.cells #[.string (bs m.nm), .string (bs m.ty), .bool m.st, .bool false, .bool m.pr, .int .i64 m.lo, .slice mA mi mj, .slice mB mk ml] 35)).cell (p := ⟨b1, o1 + t, none⟩) hbl5).trans hx5)
                         have HL5 := Lib.hid (HL3.out.below hb5n)
                         clear hb hb5n hx5))
                    have hxa := HXc.out
                    obtain ⟨g0, g1, g2, g3, g4, g5, g6, g7, g8, f1, f2, f3, f4, f5, f6, f7, f8⟩ := HL5.out
                    go_region
                    go_wp2_with fail
                    refine bodyPost_ret (v := .tuple #[.string (bs x), .agg #[.string (bs m.nm), .string (bs m.ty), .bool m.st, .bool false, .bool m.pr, .int .i64 m.lo, .slice mA mi mj, .slice mB mk ml], .bool true]) ?_ rfl ⟨_, by rw [HV.out]; rfl, by rw [HV.out]; exact ⟨mA, mi, mj, mB, mk, ml, by simp [hab]⟩, ?_⟩
                    · simp [results, Tryz.results9, go_sem, *]
                    · have B := bnext HB3.out HB5n.out
                      have hzb := B.size
                      repeat (first | with_reducible exact B | with_reducible refine Below.drew ?_ | with_reducible refine bput_ ?_ (Nat.le_refl _) | with_reducible refine bal_ ?_ (by simp; omega))
                  | true =>
                    have HN2 := Lib.hid (HNx.out (by rw [hst, hfc, hab]; rfl))
                    clear HHit HNx hst
                    go_wp2_with (first
                      | (go_at_call 14; (with_reducible refine HCx.out.mono ?_); rintro e w4 ⟨v4, rfl, hh, hb⟩
                         obtain ⟨pA, pi, pj, pB, pk, pl, pC, pm, pn, hv, _⟩ := hh
                         rw [hfc] at hv
                         subst hv
                         have hx4 := (hb.cell (p := ⟨b1, o1 + t, none⟩) hb1).trans hx1
                         have hz4 := hb.size
                         have hbl4 : b1 < w4.heap.size := by omega
                         have hxb := ((al1 w4 (.cells #[.string (bs (classD l x).nm), .string (bs (classD l x).su), .slice pA pi pj, .bool true, .slice pB pk pl, .slice pC pm pn] 51)).cell (p := ⟨b1, o1 + t, none⟩) hbl4).trans hx4
                         have HXb := Lib.hid hxb
                         have K3 := Lib.hid (World.cell?_alloc_mark w4 #[.string (bs (classD l x).nm), .string (bs (classD l x).su), .slice pA pi pj, .bool true, .slice pB pk pl, .slice pC pm pn] 51 (0, 0) 3)
                         have HB4n := Lib.hid (bnext HB.out hb)
                         have HB4 := Lib.hid (HB4n.out.alloc HB4n.out.size (.cells #[.string (bs (classD l x).nm), .string (bs (classD l x).su), .slice pA pi pj, .bool true, .slice pB pk pl, .slice pC pm pn] 51))
                         clear hb hx4)
                      | (go_at_call 22; (with_reducible refine (HOx.out _ (ClassRow.below HR.out (bnext HB3.out HB4.out))).mono ?_); rintro e w5 ⟨v5, rfl, ⟨mA, mi, mj, mB, mk, ml, hv⟩, hb⟩
                         rw [hab] at hv
                         subst hv
                         have hz5 : w4.heap.size < w5.heap.size := by have := hb.size; simp at this; omega
                         have hne5 : w4.heap.size ≠ w5.heap.size := by omega
                         have k3 := (hb.cell (p := ⟨w4.heap.size, 3, none⟩) (by simp)).trans K3.out
                         have hb5n := bnext HB4.out hb
                         have HB5n := Lib.hid hb5n
                         have HB5 := Lib.hid (hb5n.alloc hb5n.size (.cells #[.string (bs m.nm), .string (bs m.ty), .bool m.st, .bool true, .bool m.pr, .int .i64 m.lo, .slice mA mi mj, .slice mB mk ml] 35))
                         have hx5 := (hb.cell (p := ⟨b1, o1 + t, none⟩) (by simp; omega)).trans HXb.out
                         have hbl5 : b1 < w5.heap.size := by omega
                         have HXc := Lib.hid (((al1 w5 (.cells #[.string (bs m.nm), .string (bs m.ty), .bool m.st, .bool true, .bool m.pr, .int .i64 m.lo, .slice mA mi mj, .slice mB mk ml] 35)).cell (p := ⟨b1, o1 + t, none⟩) hbl5).trans hx5)
                         have HL5 := Lib.hid (HL3.out.below hb5n)
                         clear hb hb5n hx5))
                    first | refine ⟨⟨_, _, _, _, _, _, _, _, _, _, _, _, _, _, _, _, _, _, _, _, _, _, _, _, _, _, _, _, _, _, _, _, _, _, _, _, _, _, _, _, _, _, _, _, _, _, _, _, _, _, ?_, rfl⟩, ?_⟩
                    · exact ⟨t + 1, by omega, by go_num, HN2, HB5⟩
                    · first | (simp [intOf]; omega) | simp [intOf]
            · obtain rfl : t = out.length := by omega
              have HNo := Lib.hid (HNext.out (by rw [ifaceFirst_eq]; exact HN.out.all (Nat.le_refl _)))
              go_wp2_with fail
              refine ⟨?_, ?_⟩
              · exact ⟨_, HNo.out.1, by go_num, Lib.hid HNo.out.2.1, Lib.hid HNo.out.2.2, HB⟩
              · first | (simp [intOf]; omega) | simp [intOf]
        · have HFin := Lib.hid (show ∀ r, ifaceFirst l z u true out = some r → foundFirst l z u s out = some r from fun r h => found_abs HM0.out (H0.out (by omega)) h)
          have HNext := Lib.hid (show ifaceFirst l z u true out = none → 1 + 1 ≤ 2 ∧ (0 < 1 + 1 → ifaceFirst l z u false out = none) ∧ (1 < 1 + 1 → ifaceFirst l z u true out = none) from fun h => ⟨by omega, fun _ => H0.out (by omega), fun _ => h⟩)
          have HI0 := Lib.hid (NoneTo.start (ifaceStep l z u true) out)
          go_wp2_with fail
          go_loopw [17, 18, 19, 20, 21] (fun i _ _ _ _ wr => ∃ t : Nat, t ≤ out.length ∧ i = .int .i64 t ∧ Hid (NoneTo (ifaceStep l z u true) out t) ∧ Hid (Below w3.heap.size w3 wr)) (fun i _ _ _ _ _ => out.length - (intOf i).toNat)
          case atStart => exact ⟨0, Nat.zero_le _, rfl, HI0, HBo⟩
          case round =>
            obtain ⟨t, ht, rfl, HN, HB⟩ := hrel
            by_cases hlt : t < out.length
            · obtain ⟨b1, o1, rfl, hb1, hx1⟩ := SRow.at_ (StrRow.below HE3.out HB.out) hlt
              rw [Nat.mul_one] at hx1
              unfold StrAt at hx1
              have hCx := HCo.out out[t] _ (ClassRow.below HR.out (bnext HB3.out HB.out))
              unfold ClassSays at hCx
              have hOx := fun W R => HOw.out out[t] W R
              unfold OwnSays at hOx
              have HHit := Lib.hid (show ∀ r, ifaceStep l z u true out[t] = some r → foundFirst l z u s out = some r from fun r h => HFin.out r (by rw [ifaceFirst_eq]; exact HN.out.hit hlt h))
              have HNx := Lib.hid (show ifaceStep l z u true out[t] = none → _ from fun h => HN.out.next hlt h)
              generalize out[t] = x at *
              have HCx := Lib.hid hCx
              clear hCx
              cases hm : methIn z u (classD l x) with
              | none =>
                have HN2 := Lib.hid (HNx.out (by unfold ifaceStep; rw [hm]))
                rw [hm] at hOx
                have HOx := Lib.hid hOx
                obtain ⟨fc, hfc'⟩ : ∃ fc, fc = (classD l x).face := ⟨_, rfl⟩
                have hfc := hfc'.symm
                clear HHit HNx hm hOx hfc'
                go_wp2_with (first
                  | (go_at_call 14; (with_reducible refine HCx.out.mono ?_); rintro e w4 ⟨v4, rfl, hh, hb⟩
                     obtain ⟨pA, pi, pj, pB, pk, pl, pC, pm, pn, hv, _⟩ := hh
                     rw [hfc] at hv
                     subst hv
                     have hx4 := (hb.cell (p := ⟨b1, o1 + t, none⟩) hb1).trans hx1
                     have hz4 := hb.size
                     have hbl4 : b1 < w4.heap.size := by omega
                     have hxb := ((al1 w4 (.cells #[.string (bs (classD l x).nm), .string (bs (classD l x).su), .slice pA pi pj, .bool fc, .slice pB pk pl, .slice pC pm pn] 51)).cell (p := ⟨b1, o1 + t, none⟩) hbl4).trans hx4
                     have HXb := Lib.hid hxb
                     have K3 := Lib.hid (World.cell?_alloc_mark w4 #[.string (bs (classD l x).nm), .string (bs (classD l x).su), .slice pA pi pj, .bool fc, .slice pB pk pl, .slice pC pm pn] 51 (0, 0) 3)
                     have HB4n := Lib.hid (bnext HB.out hb)
                     have HB4 := Lib.hid (HB4n.out.alloc HB4n.out.size (.cells #[.string (bs (classD l x).nm), .string (bs (classD l x).su), .slice pA pi pj, .bool fc, .slice pB pk pl, .slice pC pm pn] 51))
                     clear hb hx4)
                  | (go_at_call 22; (with_reducible refine (HOx.out _ (ClassRow.below HR.out (bnext HB3.out HB4.out))).mono ?_); rintro e w5 ⟨v5, rfl, ⟨mA, mi, mj, mB, mk, ml, hv⟩, hb⟩
                     subst hv
                     have hz5 : w4.heap.size < w5.heap.size := by have := hb.size; simp at this; omega
                     have hne5 : w4.heap.size ≠ w5.heap.size := by omega
                     have k3 := (hb.cell (p := ⟨w4.heap.size, 3, none⟩) (by simp)).trans K3.out
                     have hb5n := bnext HB4.out hb
                     have HB5n := Lib.hid hb5n
                     have HB5 := Lib.hid (hb5n.alloc hb5n.size (.cells #[.string (bs ((none : Option MethD).getD zeroM).nm), .string (bs ((none : Option MethD).getD zeroM).ty), .bool ((none : Option MethD).getD zeroM).st, .bool ((none : Option MethD).getD zeroM).ab, .bool ((none : Option MethD).getD zeroM).pr, .int .i64 ((none : Option MethD).getD zeroM).lo, .slice mA mi mj, .slice mB mk ml] 35))
                     have hx5 := (hb.cell (p := ⟨b1, o1 + t, none⟩) (by simp; omega)).trans HXb.out
                     have hbl5 : b1 < w5.heap.size := by omega
                     have HXc := Lib.hid (((al1 w5 (.cells #[.string (bs ((none : Option MethD).getD zeroM).nm), .string (bs ((none : Option MethD).getD zeroM).ty), .bool ((none : Option MethD).getD zeroM).st, .bool ((none : Option MethD).getD zeroM).ab, .bool ((none : Option MethD).getD zeroM).pr, .int .i64 ((none : Option MethD).getD zeroM).lo, .slice mA mi mj, .slice mB mk ml] 35)).cell (p := ⟨b1, o1 + t, none⟩) hbl5).trans hx5)
                     have HL5 := Lib.hid (HL3.out.below hb5n)
                     clear hb hb5n hx5))
                first | refine ⟨⟨_, _, _, _, _, _, _, _, _, _, _, _, _, _, _, _, _, _, _, _, _, _, _, _, _, _, _, _, _, _, _, _, _, _, _, _, _, _, _, _, _, _, _, _, _, _, _, _, _, _, ?_, rfl⟩, ?_⟩
                · exact ⟨t + 1, by omega, by go_num, HN2, HB5⟩
                · first | (simp [intOf]; omega) | simp [intOf]
              | some m =>
                rw [hm] at hOx
                simp only [Option.getD_some, Option.isSome_some] at hOx
                have HOx := Lib.hid hOx
                have hst : ifaceStep l z u true x = if ((classD l x).face && m.ab == true) = true then some (x, m) else none := by unfold ifaceStep; rw [hm]
                clear hOx hm
                cases hfc : (classD l x).face with
                | false =>
                  cases hab : m.ab with
                  | false =>
                    have HN2 := Lib.hid (HNx.out (by rw [hst, hfc, hab]; rfl))
                    clear HHit HNx hst
                    go_wp2_with (first
                      | (go_at_call 14; (with_reducible refine HCx.out.mono ?_); rintro e w4 ⟨v4, rfl, hh, hb⟩
                         obtain ⟨pA, pi, pj, pB, pk, pl, pC, pm, pn, hv, _⟩ := hh
                         rw [hfc] at hv
                         subst hv
                         have hx4 := (hb.cell (p := ⟨b1, o1 + t, none⟩) hb1).trans hx1
                         have hz4 := hb.size
                         have hbl4 : b1 < w4.heap.size := by omega
                         have hxb := ((al1 w4 (.cells #[.string (bs (classD l x).nm), .string (bs (classD l x).su), .slice pA pi pj, .bool false, .slice pB pk pl, .slice pC pm pn] 51)).cell (p := ⟨b1, o1 + t, none⟩) hbl4).trans hx4
                         have HXb := Lib.hid hxb
                         have K3 := Lib.hid (World.cell?_alloc_mark w4 #[.string (bs (classD l x).nm), .string (bs (classD l x).su), .slice pA pi pj, .bool false, .slice pB pk pl, .slice pC pm pn] 51 (0, 0) 3)
                         have HB4n := Lib.hid (bnext HB.out hb)
                         have HB4 := Lib.hid (HB4n.out.alloc HB4n.out.size (.cells #[.string (bs (classD l x).nm), .string (bs (classD l x).su), .slice pA pi pj, .bool false, .slice pB pk pl, .slice pC pm pn] 51))
                         clear hb hx4)
                      | (go_at_call 22; (with_reducible refine (HOx.out _ (ClassRow.below HR.out (bnext HB3.out HB4.out))).mono ?_); rintro e w5 ⟨v5, rfl, ⟨mA, mi, mj, mB, mk, ml, hv⟩, hb⟩
                         rw [hab] at hv
                         subst hv
                         have hz5 : w4.heap.size < w5.heap.size := by have := hb.size; simp at this; omega
                         have hne5 : w4.heap.size ≠ w5.heap.size := by omega
                         have k3 := (hb.cell (p := ⟨w4.heap.size, 3, none⟩) (by simp)).trans K3.out
                         have hb5n := bnext HB4.out hb
                         have HB5n := Lib.hid hb5n
                         have HB5 := Lib.hid (hb5n.alloc hb5n.size (.cells #[.string (bs m.nm), .string (bs m.ty), .bool m.st, .bool false, .bool m.pr, .int .i64 m.lo, .slice mA mi mj, .slice mB mk ml] 35))
                         have hx5 := (hb.cell (p := ⟨b1, o1 + t, none⟩) (by simp; omega)).trans HXb.out
                         have hbl5 : b1 < w5.heap.size := by omega
                         have HXc := Lib.hid (((al1 w5 (.cells #[.string (bs m.nm), .string (bs m.ty), .bool m.st, .bool false, .bool m.pr, .int .i64 m.lo, .slice mA mi mj, .slice mB mk ml] 35)).cell (p := ⟨b1, o1 + t, none⟩) hbl5).trans hx5)
                         have HL5 := Lib.hid (HL3.out.below hb5n)
                         clear hb hb5n hx5))
                    first | refine ⟨⟨_, _, _, _, _, _, _, _, _, _, _, _, _, _, _, _, _, _, _, _, _, _, _, _, _, _, _, _, _, _, _, _, _, _, _, _, _, _, _, _, _, _, _, _, _, _, _, _, _, _, ?_, rfl⟩, ?_⟩
                    · exact ⟨t + 1, by omega, by go_num, HN2, HB5⟩
                    · first | (simp [intOf]; omega) | simp [intOf]
                  | true =>
                    have HN2 := Lib.hid (HNx.out (by rw [hst, hfc, hab]; rfl))
                    clear HHit HNx hst
                    go_wp2_with (first
                      | (go_at_call 14; (with_reducible refine HCx.out.mono ?_); rintro e w4 ⟨v4, rfl, hh, hb⟩
                         obtain ⟨pA, pi, pj, pB, pk, pl, pC, pm, pn, hv, _⟩ := hh
                         rw [hfc] at hv
                         subst hv
                         have hx4 := (hb.cell (p := ⟨b1, o1 + t, none⟩) hb1).trans hx1
                         have hz4 := hb.size
                         have hbl4 : b1 < w4.heap.size := by omega
                         have hxb := ((al1 w4 (.cells #[.string (bs (classD l x).nm), .string (bs (classD l x).su), .slice pA pi pj, .bool false, .slice pB pk pl, .slice pC pm pn] 51)).cell (p := ⟨b1, o1 + t, none⟩) hbl4).trans hx4
                         have HXb := Lib.hid hxb
                         have K3 := Lib.hid (World.cell?_alloc_mark w4 #[.string (bs (classD l x).nm), .string (bs (classD l x).su), .slice pA pi pj, .bool false, .slice pB pk pl, .slice pC pm pn] 51 (0, 0) 3)
                         have HB4n := Lib.hid (bnext HB.out hb)
                         have HB4 := Lib.hid (HB4n.out.alloc HB4n.out.size (.cells #[.string (bs (classD l x).nm), .string (bs (classD l x).su), .slice pA pi pj, .bool false, .slice pB pk pl, .slice pC pm pn] 51))
                         clear hb hx4)
                      | (go_at_call 22; (with_reducible refine (HOx.out _ (ClassRow.below HR.out (bnext HB3.out HB4.out))).mono ?_); rintro e w5 ⟨v5, rfl, ⟨mA, mi, mj, mB, mk, ml, hv⟩, hb⟩
                         rw [hab] at hv
                         subst hv
                         have hz5 : w4.heap.size < w5.heap.size := by have := hb.size; simp at this; omega
                         have hne5 : w4.heap.size ≠ w5.heap.size := by omega
                         have k3 := (hb.cell (p := ⟨w4.heap.size, 3, none⟩) (by simp)).trans K3.out
                         have hb5n := bnext HB4.out hb
                         have HB5n := Lib.hid hb5n
                         have HB5 := Lib.hid (hb5n.alloc hb5n.size (.cells #[.string (bs m.nm), .string (bs m.ty), .bool m.st, .bool true, .bool m.pr, .int .i64 m.lo, .slice mA mi mj, .slice mB mk ml] 35))
                         have hx5 := (hb.cell (p := ⟨b1, o1 + t, none⟩) (by simp; omega)).trans HXb.out
                         have hbl5 : b1 < w5.heap.size := by omega
                         have HXc := Lib.hid (((al1 w5 (.cells #[.string (bs m.nm), .string (bs m.ty), .bool m.st, .bool true, .bool m.pr, .int .i64 m.lo, .slice mA mi mj, .slice mB mk ml] 35)).cell (p := ⟨b1, o1 + t, none⟩) hbl5).trans hx5)
                         have HL5 := Lib.hid (HL3.out.below hb5n)
                         clear hb hb5n hx5))
                    first | refine ⟨⟨_, _, _, _, _, _, _, _, _, _, _, _, _, _, _, _, _, _, _, _, _, _, _, _, _, _, _, _, _, _, _, _, _, _, _, _, _, _, _, _, _, _, _, _, _, _, _, _, _, _, ?_, rfl⟩, ?_⟩
                    · exact ⟨t + 1, by omega, by go_num, HN2, HB5⟩
                    · first | (simp [intOf]; omega) | simp [intOf]
                | true =>
                  cases hab : m.ab with
                  | false =>
                    have HN2 := Lib.hid (HNx.out (by rw [hst, hfc, hab]; rfl))
                    clear HHit HNx hst
                    go_wp2_with (first
                      | (go_at_call 14; (with_reducible refine HCx.out.mono ?_); rintro e w4 ⟨v4, rfl, hh, hb⟩
                         obtain ⟨pA, pi, pj, pB, pk, pl, pC, pm, pn, hv, _⟩ := hh
                         rw [hfc] at hv
                         subst hv
                         have hx4 := (hb.cell (p := ⟨b1, o1 + t, none⟩) hb1).trans hx1
                         have hz4 := hb.size
                         have hbl4 : b1 < w4.heap.size := by omega
                         have hxb := ((al1 w4 (.cells #[.string (bs (classD l x).nm), .string (bs (classD l x).su), .slice pA pi pj, .bool true, .slice pB pk pl, .slice pC pm pn] 51)).cell (p := ⟨b1, o1 + t, none⟩) hbl4).trans hx4
                         have HXb := Lib.hid hxb
                         have K3 := Lib.hid (World.cell?_alloc_mark w4 #[.string (bs (classD l x).nm), .string (bs (classD l x).su), .slice pA pi pj, .bool true, .slice pB pk pl, .slice pC pm pn] 51 (0, 0) 3)
                         have HB4n := Lib.hid (bnext HB.out hb)
                         have HB4 := Lib.hid (HB4n.out.alloc HB4n.out.size (.cells #[.string (bs (classD l x).nm), .string (bs (classD l x).su), .slice pA pi pj, .bool true, .slice pB pk pl, .slice pC pm pn] 51))
                         clear hb hx4)
                      | (go_at_call 22; (with_reducible refine (HOx.out _ (ClassRow.below HR.out (bnext HB3.out HB4.out))).mono ?_); rintro e w5 ⟨v5, rfl, ⟨mA, mi, mj, mB, mk, ml, hv⟩, hb⟩
                         rw [hab] at hv
                         subst hv
                         have hz5 : w4.heap.size < w5.heap.size := by have := hb.size; simp at this; omega
                         have hne5 : w4.heap.size ≠ w5.heap.size := by omega
                         have k3 := (hb.cell (p := ⟨w4.heap.size, 3, none⟩) (by simp)).trans K3.out
                         have hb5n := bnext HB4.out hb
                         have HB5n := Lib.hid hb5n
                         have HB5 := Lib.hid (hb5n.alloc hb5n.size (.cells #[.string (bs m.nm), .string (bs m.ty), .bool m.st, .bool false, .bool m.pr, .int .i64 m.lo, .slice mA mi mj, .slice mB mk ml] 35))
                         have hx5 := (hb.cell (p := ⟨b1, o1 + t, none⟩) (by simp; omega)).trans HXb.out
                         have hbl5 : b1 < w5.heap.size := by omega
                         have HXc := Lib.hid (((al1 w5 (.cells #[.string (bs m.nm), .string (bs m.ty), .bool m.st, .bool false, .bool m.pr, .int .i64 m.lo, .slice mA mi mj, .slice mB mk ml] 35)).cell (p := ⟨b1, o1 + t, none⟩) hbl5).trans hx5)
                         have HL5 := Lib.hid (HL3.out.below hb5n)
                         clear hb hb5n hx5))
                    first | refine ⟨⟨_, _, _, _, _, _, _, _, _, _, _, _, _, _, _, _, _, _, _, _, _, _, _, _, _, _, _, _, _, _, _, _, _, _, _, _, _, _, _, _, _, _, _, _, _, _, _, _, _, _, ?_, rfl⟩, ?_⟩
                    · exact ⟨t + 1, by omega, by go_num, HN2, HB5⟩
                    · first | (simp [intOf]; omega) | simp [intOf]
                  | true =>
                    have HV := Lib.hid (HHit.out (x, m) (by rw [hst, hfc, hab]; rfl))
                    clear HHit HNx hst
                    go_wp2_with (first
                      | (go_at_call 14; (with_reducible refine HCx.out.mono ?_); rintro e w4 ⟨v4, rfl, hh, hb⟩
                         obtain ⟨pA, pi, pj, pB, pk, pl, pC, pm, pn, hv, _⟩ := hh
                         rw [hfc] at hv
                         subst hv
                         have hx4 := (hb.cell (p := ⟨b1, o1 + t, none⟩) hb1).trans hx1
                         have hz4 := hb.size
                         have hbl4 : b1 < w4.heap.size := by omega
                         have hxb := ((al1 w4 (.cells #[.string (bs (classD l x).nm), .string (bs (classD l x).su), .slice pA pi pj, .bool true, .slice pB pk pl, .slice pC pm pn] 51)).cell (p := ⟨b1, o1 + t, none⟩) hbl4).trans hx4
                         have HXb := Lib.hid hxb
                         have K3 := Lib.hid (World.cell?_alloc_mark w4 #[.string (bs (classD l x).nm), .string (bs (classD l x).su), .slice pA pi pj, .bool true, .slice pB pk pl, .slice pC pm pn] 51 (0, 0) 3)
                         have HB4n := Lib.hid (bnext HB.out hb)
                         have HB4 := Lib.hid (HB4n.out.alloc HB4n.out.size (.cells #[.string (bs (classD l x).nm), .string (bs (classD l x).su), .slice pA pi pj, .bool true, .slice pB pk pl, .slice pC pm pn] 51))
                         clear hb hx4)
                      | (go_at_call 22; (with_reducible refine (HOx.out _ (ClassRow.below HR.out (bnext HB3.out HB4.out))).mono ?_); rintro e w5 ⟨v5, rfl, ⟨mA, mi, mj, mB, mk, ml, hv⟩, hb⟩
                         rw [hab] at hv
                         subst hv
                         have hz5 : w4.heap.size < w5.heap.size := by have := hb.size; simp at this; omega
                         have hne5 : w4.heap.size ≠ w5.heap.size := by omega
                         have k3 := (hb.cell (p := ⟨w4.heap.size, 3, none⟩) (by simp)).trans K3.out
                         have hb5n := bnext HB4.out hb
                         have HB5n := Lib.hid hb5n
                         have HB5 := Lib.hid (hb5n.alloc hb5n.size (.cells #[.string (bs m.nm), .string (bs m.ty), .bool m.st, .bool true, .bool m.pr, .int .i64 m.lo, .slice mA mi mj, .slice mB mk ml] 35))
                         have hx5 := (hb.cell (p := ⟨b1, o1 + t, none⟩) (by simp; omega)).trans HXb.out
                         have hbl5 : b1 < w5.heap.size := by omega
                         have HXc := Lib.hid (((al1 w5 (.cells #[.string (bs m.nm), .string (bs m.ty), .bool m.st, .bool true, .bool m.pr, .int .i64 m.lo, .slice mA mi mj, .slice mB mk ml] 35)).cell (p := ⟨b1, o1 + t, none⟩) hbl5).trans hx5)
                         have HL5 := Lib.hid (HL3.out.below hb5n)
                         clear hb hb5n hx5))
                    have hxa := HXc.out
                    obtain ⟨g0, g1, g2, g3, g4, g5, g6, g7, g8, f1, f2, f3, f4, f5, f6, f7, f8⟩ := HL5.out
                    go_region
                    go_wp2_with fail
                    refine bodyPost_ret (v := .tuple #[.string (bs x), .agg #[.string (bs m.nm), .string (bs m.ty), .bool m.st, .bool true, .bool m.pr, .int .i64 m.lo, .slice mA mi mj, .slice mB mk ml], .bool true]) ?_ rfl ⟨_, by rw [HV.out]; rfl, by rw [HV.out]; exact ⟨mA, mi, mj, mB, mk, ml, by simp [hab]⟩, ?_⟩
                    · simp [results, Tryz.results9, go_sem, *]
                    · have B := bnext HB3.out HB5n.out
                      have hzb := B.size
                      repeat (first | with_reducible exact B | with_reducible refine Below.drew ?_ | with_reducible refine bput_ ?_ (Nat.le_refl _) | with_reducible refine bal_ ?_ (by simp; omega))
            · obtain rfl : t = out.length := by omega
              have HNo := Lib.hid (HNext.out (by rw [ifaceFirst_eq]; exact HN.out.all (Nat.le_refl _)))
              go_wp2_with fail
              refine ⟨?_, ?_⟩
              · exact ⟨_, HNo.out.1, by go_num, Lib.hid HNo.out.2.1, Lib.hid HNo.out.2.2, HB⟩
              · first | (simp [intOf]; omega) | simp [intOf]
        · have HV := Lib.hid (show foundFirst l z u s out = none from found_abs HM0.out (H0.out (by omega)) (H1.out (by omega)))
          obtain ⟨g0, g1, g2, g3, g4, g5, g6, g7, g8, f1, f2, f3, f4, f5, f6, f7, f8⟩ := HL3.out.below HBo.out
          go_wp2_with fail
          refine bodyPost_ret (v := .tuple #[.string ⟨#[]⟩, .agg #[.string ⟨#[]⟩, .string ⟨#[]⟩, .bool false, .bool false, .bool false, .int .i64 0, .slice none 0 0, .slice none 0 0], .bool false]) ?_ rfl ⟨_, by rw [HV.out]; rfl, by rw [HV.out]; exact zeroM_val, ?_⟩
          · simp [results, Tryz.results9, go_sem, *]
          · have B := bnext HB3.out HBo.out
            have hzb := B.size
            repeat (first | with_reducible exact B | with_reducible refine Below.drew ?_ | with_reducible refine bput_ ?_ (Nat.le_refl _) | with_reducible refine bal_ ?_ (by simp; omega))
end Go.Proofs.YtkolpbjpgobkcaaGreatDoor
