/- The reference's FieldOf. The reference's ownMethod. -/
import Derived.Test.YtkolpbjpgobkcaaGreatDoorGJ
import Derived.Test.YtkolpbjpgobkcaaGreatDoorWoS
namespace Go.Proofs.YtkolpbjpgobkcaaGreatDoor
open Go.ChangeShapes Go.WideShapes Go.ChangeAt Go.RowKit
set_option linter.unusedVariables false

def fieldV (f : FieldD) : Value := .agg #[.string (bs f.nm), .string (bs f.ty)]
/-- What FieldOf gives back. -/
def fieldRes : Option (List UInt8 × FieldD) → Value
  | some r => .tuple #[.string (bs r.1), fieldV r.2, .bool true]
  | none => .tuple #[.string ⟨#[]⟩, .agg #[.string ⟨#[]⟩, .string ⟨#[]⟩], .bool false]
/-- A block of two texts that may be written. -/
def Laid2 (w : World) (g : Nat) : Prop := g < w.heap.size ∧ w.cell? ⟨g, 0, none⟩ = some (.string ⟨#[]⟩) ∧ w.cell? ⟨g, 1, none⟩ = some (.string ⟨#[]⟩) ∧ w.frozen? ⟨g, 0, none⟩ = false ∧ w.frozen? ⟨g, 1, none⟩ = false
theorem laid2_at (w : World) (t : TypeId) : Laid2 (w.alloc (.cells #[.string ⟨#[]⟩, .string ⟨#[]⟩] t)) w.heap.size := ⟨by simp, World.cell?_alloc_mark .., World.cell?_alloc_mark .., frozen_at .., frozen_at ..⟩
theorem Laid2.below {w w' : World} {g : Nat} (h : Laid2 w g) (hb : Below w.heap.size w w') : Laid2 w' g := by
  obtain ⟨h0, h1, h2, h3, h4⟩ := h
  exact ⟨Nat.lt_of_lt_of_le h0 hb.size, (hb.cell (by exact h0)).trans h1, (hb.cell (by exact h0)).trans h2, (hb.frozen (by exact h0)).trans h3, (hb.frozen (by exact h0)).trans h4⟩
set_option maxRecDepth 20000 in
set_option maxHeartbeats 8000000 in
theorem rfieldOf_any (l : List ClassD) (y z : List UInt8) (s : List (List UInt8)) (hC : Chain l y s) (A : Option Addr) (n c : Nat) (w : World) (R : ClassRow w A n c l) (hn : n ≤ 140737488351232) (hs : s.length ≤ 1000) (hf : ∀ x ∈ s, (classD l x).fields.length ≤ 1000000000) :
    Calls Tryz.prog 8 #[.slice A n c, .string (bs y), .string (bs z)] w fun e w' => e = .returned (fieldRes (fieldFirst l z s)) ∧ Below w.heap.size w w' := by
  have hb0 := al1 w (.cells #[.string ⟨#[]⟩, .string ⟨#[]⟩] 27)
  have HS := Lib.hid (rsupers_any l y s hC A n c _ (ClassRow.below R hb0) hn hs)
  have HCo := Lib.hid (fun z W R => rclassOf_any l z A n c W R hn)
  have HR := Lib.hid R
  have HB0 := Lib.hid hb0
  have HLd := Lib.hid (laid2_at w 27)
  have HF := Lib.hid hf
  have HP0 := Lib.hid (NoneTo.start (fun x => (fieldIn z (classD l x)).map (fun f => (x, f))) s)
  clear hC R hb0 hf
  go_enter Tryz.func8, Tryz.ntmps8
  go_wp2_with (first
    | (go_at_call 21; (with_reducible refine HS.out.mono ?_); rintro e w1 ⟨v1, rfl, hv, hb⟩
       obtain ⟨M, d, rfl⟩ := hv.form
       have HO1 := Lib.hid hv.row
       have HB1 := Lib.hid (bnext HB0.out hb)
       have HL1 := Lib.hid (HLd.out.below hb)
       clear hb hv))
  go_loopw [10, 11, 12, 13] (fun i _ _ _ wr => ∃ t : Nat, t ≤ s.length ∧ i = .int .i64 t ∧ Hid (NoneTo (fun x => (fieldIn z (classD l x)).map (fun f => (x, f))) s t) ∧ Hid (Below w1.heap.size w1 wr)) (fun i _ _ _ _ => s.length - (intOf i).toNat)
  case atStart => exact ⟨0, Nat.zero_le _, rfl, HP0, Lib.hid (Below.refl _ _)⟩
  case round =>
    obtain ⟨t, ht, rfl, HN, HB⟩ := hrel
    by_cases hlt : t < s.length
    · obtain ⟨b1, o1, rfl, hb1, hx1⟩ := SRow.at_ (StrRow.below HO1.out HB.out) hlt
      rw [Nat.mul_one] at hx1
      unfold StrAt at hx1
      have HCx := Lib.hid (HCo.out s[t] wr (ClassRow.below HR.out (bnext HB1.out HB.out)))
      have hfx := HF.out _ (List.getElem_mem hlt)
      have HHit := Lib.hid (show ∀ f, fieldIn z (classD l s[t]) = some f → fieldFirst l z s = some (s[t], f) from fun f h => HN.out.hit hlt (by rw [h]; rfl))
      have HNx := Lib.hid (show fieldIn z (classD l s[t]) = none → _ from fun h => HN.out.next hlt (by rw [h]; rfl))
      generalize s[t] = x at *
      obtain ⟨cx, hcx⟩ : ∃ cx, cx = classD l x := ⟨_, rfl⟩
      unfold ClassSays at HCx
      rw [← hcx] at HCx hfx HHit HNx
      clear hcx
      go_wp2_with (first
        | (go_at_call 14; (with_reducible refine HCx.out.mono ?_); rintro e w2 ⟨v2, rfl, hh, hb⟩
           obtain ⟨pA, pi, pj, pB, pk, pl, pC, pm, pn, rfl, _, RF, _, _, NF, _⟩ := hh
           have hpk : cx.fields.length = pk := RF.1
           have HX2 := Lib.hid (cbox_at w2 cx pA pi pj pB pk pl pC pm pn 51 (0, 0))
           obtain ⟨q0, q1, q2, q3, q4, q5, q6⟩ := HX2.out
           have HB2 := Lib.hid ((bnext HB.out hb).alloc (bnext HB.out hb).size (.cells #[.string (bs cx.nm), .string (bs cx.su), .slice pA pi pj, .bool cx.face, .slice pB pk pl, .slice pC pm pn] 51))
           have HF2 := Lib.hid (FieldRow.below RF (al1 w2 (.cells #[.string (bs cx.nm), .string (bs cx.su), .slice pA pi pj, .bool cx.face, .slice pB pk pl, .slice pC pm pn] 51)))
           have hx2 := ((bnext (Below.refl _ _) hb).cell (p := ⟨b1, o1 + t, none⟩) hb1).trans hx1
           have hz2 := hb.size
           have hbl : b1 < w2.heap.size := by omega
           have hxa := ((al1 w2 (.cells #[.string (bs cx.nm), .string (bs cx.su), .slice pA pi pj, .bool cx.face, .slice pB pk pl, .slice pC pm pn] 51)).cell (p := ⟨b1, o1 + t, none⟩) hbl).trans hx2
           have HXa := Lib.hid hxa
           have HL2 := Lib.hid (HL1.out.below (bnext HB.out hb))
           have HB2n := Lib.hid (bnext HB.out hb)
           clear hb RF hx2 hxa))
      have HPk := Lib.hid hpk
      clear hpk
      go_loop [13] (fun i => ∃ k : Nat, k ≤ pk ∧ i = .int .i64 k ∧ Hid (NotTo (fun f : FieldD => f.nm == z) cx.fields k)) (fun i => pk - (intOf i).toNat)
      case atStart => exact ⟨0, Nat.zero_le _, rfl, Lib.hid (NotTo.start _ _)⟩
      case round =>
        obtain ⟨k, hk, rfl, HK⟩ := hrel
        by_cases hlk : k < pk
        · obtain ⟨b3, o3, rfl, hb3, hx3⟩ := SRow.at_ HF2.out hlk
          have hk1 : k < cx.fields.length := by rw [HPk.out]; exact hlk
          obtain ⟨d0, d1⟩ := hx3
          have HFo := Lib.hid (show (cx.fields[k].nm == z) = true → fieldFirst l z s = some (x, cx.fields[k]) from fun h => HHit.out _ (HK.out.hit hk1 h))
          have HKn := Lib.hid (show (cx.fields[k].nm == z) = false → _ from fun h => HK.out.next hk1 h)
          generalize cx.fields[k] = f at *
          by_cases hf : f.nm = z
          · have e5 : ((bs f.nm).toList == (bs z).toList) = true := by rw [hf]; simp
            have HV := Lib.hid (HFo.out (by rw [hf]; simp))
            obtain ⟨g0, g1, g2, g3, g4⟩ := HL2.out
            clear HFo HKn hf
            go_wp2_with fail
            have hxa := HXa.out
            go_region
            go_wp2_with fail
            refine bodyPost_ret (v := .tuple #[.string (bs x), .agg #[.string (bs f.nm), .string (bs f.ty)], .bool true]) ?_ rfl ⟨by rw [HV.out]; rfl, ?_⟩
            · simp [results, Tryz.results8, go_sem, *]
            · have B := bnext HB1.out HB2n.out
              have hzb := B.size
              refine Below.drew ?_
              repeat (first | with_reducible exact B | with_reducible refine bput_ ?_ (Nat.le_refl _) | with_reducible refine bal_ ?_ (by simp; omega))
          · have e5 : ((bs f.nm).toList == (bs z).toList) = false := str_ne_ hf
            have HK2 := Lib.hid (HKn.out (by rw [beq_eq_false_iff_ne]; exact hf))
            clear HFo HKn hf
            go_wp2_with fail
            go_round
            case rel => exact ⟨k + 1, by omega, by go_num, HK2⟩
            case measure => first | (simp [intOf]; omega) | simp [intOf]
        · obtain rfl : k = pk := by omega
          have HN2 := Lib.hid (HNx.out (HK.out.all (by rw [HPk.out]; exact Nat.le_refl _)))
          go_wp2_with fail
          go_roundw
          case rel => exact ⟨t + 1, by omega, by go_num, HN2, HB2⟩
          case measure => first | (simp [intOf]; omega) | simp [intOf]
    · obtain rfl : t = s.length := by omega
      have HV := Lib.hid (show fieldFirst l z s = none from HN.out.all (Nat.le_refl _))
      obtain ⟨g0, g1, g2, g3, g4⟩ := HL1.out.below HB.out
      go_wp2_with fail
      refine bodyPost_ret (v := .tuple #[.string ⟨#[]⟩, .agg #[.string ⟨#[]⟩, .string ⟨#[]⟩], .bool false]) ?_ rfl ⟨by rw [HV.out]; rfl, ?_⟩
      · simp [results, Tryz.results8, go_sem, *]
      · have B := bnext HB1.out HB.out
        repeat (first | with_reducible exact B | with_reducible refine bput_ ?_ (Nat.le_refl _))
end Go.Proofs.YtkolpbjpgobkcaaGreatDoor
namespace Go.Proofs.YtkolpbjpgobkcaaGreatDoor
open Go.ChangeShapes Go.WideShapes Go.ChangeAt Go.RowKit
set_option linter.unusedVariables false

/-- The value of a method, whatever its code and its handlers lie in. -/
def MethVal (m : MethD) (v : Value) : Prop := ∃ A i j B k l, v = .agg #[.string (bs m.nm), .string (bs m.ty), .bool m.st, .bool m.ab, .bool m.pr, .int .i64 m.lo, .slice A i j, .slice B k l]
def zeroM : MethD := ⟨[], [], false, false, false, 0, [], []⟩
theorem zeroM_val : MethVal zeroM (.agg #[.string ⟨#[]⟩, .string ⟨#[]⟩, .bool false, .bool false, .bool false, .int .i64 0, .slice none 0 0, .slice none 0 0]) := ⟨none, 0, 0, none, 0, 0, rfl⟩
/-- A block of a method that may be written. -/
def Laid8 (w : World) (g : Nat) : Prop := g < w.heap.size ∧ w.cell? ⟨g, 0, none⟩ = some (.string ⟨#[]⟩) ∧ w.cell? ⟨g, 1, none⟩ = some (.string ⟨#[]⟩) ∧ w.cell? ⟨g, 2, none⟩ = some (.bool false) ∧ w.cell? ⟨g, 3, none⟩ = some (.bool false) ∧ w.cell? ⟨g, 4, none⟩ = some (.bool false) ∧ w.cell? ⟨g, 5, none⟩ = some (.int .i64 0) ∧ w.cell? ⟨g, 6, none⟩ = some (.slice none 0 0) ∧ w.cell? ⟨g, 7, none⟩ = some (.slice none 0 0) ∧
  w.frozen? ⟨g, 0, none⟩ = false ∧ w.frozen? ⟨g, 1, none⟩ = false ∧ w.frozen? ⟨g, 2, none⟩ = false ∧ w.frozen? ⟨g, 3, none⟩ = false ∧ w.frozen? ⟨g, 4, none⟩ = false ∧ w.frozen? ⟨g, 5, none⟩ = false ∧ w.frozen? ⟨g, 6, none⟩ = false ∧ w.frozen? ⟨g, 7, none⟩ = false
theorem laid8_at (w : World) (t : TypeId) : Laid8 (w.alloc (.cells #[.string ⟨#[]⟩, .string ⟨#[]⟩, .bool false, .bool false, .bool false, .int .i64 0, .slice none 0 0, .slice none 0 0] t)) w.heap.size :=
  ⟨by simp, World.cell?_alloc_mark .., World.cell?_alloc_mark .., World.cell?_alloc_mark .., World.cell?_alloc_mark .., World.cell?_alloc_mark .., World.cell?_alloc_mark .., World.cell?_alloc_mark .., World.cell?_alloc_mark ..,
    frozen_at .., frozen_at .., frozen_at .., frozen_at .., frozen_at .., frozen_at .., frozen_at .., frozen_at ..⟩
theorem Laid8.below {w w' : World} {g : Nat} (h : Laid8 w g) (hb : Below w.heap.size w w') : Laid8 w' g := by
  obtain ⟨h0, h1, h2, h3, h4, h5, h6, h7, h8, f1, f2, f3, f4, f5, f6, f7, f8⟩ := h
  exact ⟨Nat.lt_of_lt_of_le h0 hb.size, (hb.cell (by exact h0)).trans h1, (hb.cell (by exact h0)).trans h2, (hb.cell (by exact h0)).trans h3, (hb.cell (by exact h0)).trans h4, (hb.cell (by exact h0)).trans h5, (hb.cell (by exact h0)).trans h6, (hb.cell (by exact h0)).trans h7, (hb.cell (by exact h0)).trans h8,
    (hb.frozen (by exact h0)).trans f1, (hb.frozen (by exact h0)).trans f2, (hb.frozen (by exact h0)).trans f3, (hb.frozen (by exact h0)).trans f4, (hb.frozen (by exact h0)).trans f5, (hb.frozen (by exact h0)).trans f6, (hb.frozen (by exact h0)).trans f7, (hb.frozen (by exact h0)).trans f8⟩
/-- What ownMethod says. -/
def OwnSays (w : World) (o : Option MethD) (e : Ending) (w' : World) : Prop := ∃ v, e = .returned (.tuple #[v, .bool o.isSome]) ∧ MethVal (o.getD zeroM) v ∧ Below w.heap.size w w'
set_option maxRecDepth 20000 in
set_option maxHeartbeats 8000000 in
theorem rown_any (l : List ClassD) (y z u : List UInt8) (A : Option Addr) (n c : Nat) (w : World) (R : ClassRow w A n c l) (hn : n ≤ 140737488351232) (hf : (classD l y).meths.length ≤ 1000000000) :
    Calls Tryz.prog 22 #[.slice A n c, .string (bs y), .string (bs z), .string (bs u)] w (OwnSays w (methIn z u (classD l y))) := by
  have hb0 := al1 w (.cells #[.string ⟨#[]⟩, .string ⟨#[]⟩, .bool false, .bool false, .bool false, .int .i64 0, .slice none 0 0, .slice none 0 0] 35)
  have hCo := rclassOf_any l y A n c _ (ClassRow.below R hb0) hn
  have HB0 := Lib.hid hb0
  have HLd := Lib.hid (laid8_at w 35)
  unfold ClassSays at hCo
  obtain ⟨cx, hcx⟩ : ∃ cx, cx = classD l y := ⟨_, rfl⟩
  rw [← hcx] at hCo hf ⊢
  have HCo := Lib.hid hCo
  clear hcx hCo R hb0
  go_enter Tryz.func22, Tryz.ntmps22
  go_wp2_with (first
    | (go_at_call 14; (with_reducible refine HCo.out.mono ?_); rintro e w2 ⟨v2, rfl, hh, hb⟩
       obtain ⟨pA, pi, pj, pB, pk, pl, pC, pm, pn, rfl, _, _, RM, _, _, NM⟩ := hh
       have hpm : cx.meths.length = pm := RM.1
       have HX2 := Lib.hid (cbox_at w2 cx pA pi pj pB pk pl pC pm pn 51 (0, 0))
       obtain ⟨q0, q1, q2, q3, q4, q5, q6⟩ := HX2.out
       have HB2 := Lib.hid (bnext HB0.out hb)
       have HM2 := Lib.hid (MethRow.below RM (al1 w2 (.cells #[.string (bs cx.nm), .string (bs cx.su), .slice pA pi pj, .bool cx.face, .slice pB pk pl, .slice pC pm pn] 51)))
       have HL2 := Lib.hid (HLd.out.below hb)
       clear hb RM))
  have HPm := Lib.hid hpm
  clear hpm
  go_loop [12] (fun i => ∃ k : Nat, k ≤ pm ∧ i = .int .i64 k ∧ Hid (NotTo (fun m : MethD => m.nm == z && m.ty == u) cx.meths k)) (fun i => pm - (intOf i).toNat)
  case atStart => exact ⟨0, Nat.zero_le _, rfl, Lib.hid (NotTo.start _ _)⟩
  case round =>
    obtain ⟨k, hk, rfl, HK⟩ := hrel
    by_cases hlk : k < pm
    · obtain ⟨b3, o3, rfl, hb3, hx3⟩ := SRow.at_ HM2.out hlk
      have hk1 : k < cx.meths.length := by rw [HPm.out]; exact hlk
      obtain ⟨d0, d1, d2, d3, d4, d5, ⟨D1, x1, y1, d6, _, _⟩, ⟨D2, x2, y2, d7, _, _⟩⟩ := hx3
      have HFo := Lib.hid (show (cx.meths[k].nm == z && cx.meths[k].ty == u) = true → methIn z u cx = some cx.meths[k] from fun h => HK.out.hit hk1 h)
      have HKn := Lib.hid (show (cx.meths[k].nm == z && cx.meths[k].ty == u) = false → _ from fun h => HK.out.next hk1 h)
      generalize cx.meths[k] = m at *
      by_cases h1 : m.nm = z
      · have e5 : ((bs m.nm).toList == (bs z).toList) = true := by rw [h1]; simp
        by_cases h2 : m.ty = u
        · have e6 : ((bs m.ty).toList == (bs u).toList) = true := by rw [h2]; simp
          have HV := Lib.hid (HFo.out (by rw [h1, h2]; simp))
          obtain ⟨g0, g1, g2, g3, g4, g5, g6, g7, g8, f1, f2, f3, f4, f5, f6, f7, f8⟩ := HL2.out
          clear HFo HKn h1 h2
          go_wp2_with fail
          refine bodyPost_ret (v := .tuple #[.agg #[.string (bs m.nm), .string (bs m.ty), .bool m.st, .bool m.ab, .bool m.pr, .int .i64 m.lo, .slice D1 x1 y1, .slice D2 x2 y2], .bool true]) ?_ rfl ⟨_, by rw [HV.out]; rfl, by rw [HV.out]; exact ⟨_, _, _, _, _, _, rfl⟩, ?_⟩
          · simp [results, Tryz.results22, go_sem, *]
          · have B := HB2.out
            have hzb := B.size
            repeat (first | with_reducible exact B | with_reducible refine bput_ ?_ (Nat.le_refl _) | with_reducible refine bal_ ?_ (by simp; omega))
        · have e6 : ((bs m.ty).toList == (bs u).toList) = false := str_ne_ h2
          have HK2 := Lib.hid (HKn.out (by rw [show (m.ty == u) = false from beq_eq_false_iff_ne.2 h2, Bool.and_false]))
          clear HFo HKn h1 h2
          go_wp2_with fail
          go_round
          case rel => exact ⟨k + 1, by omega, by go_num, HK2⟩
          case measure => first | (simp [intOf]; omega) | simp [intOf]
      · have e5 : ((bs m.nm).toList == (bs z).toList) = false := str_ne_ h1
        have HK2 := Lib.hid (HKn.out (by rw [show (m.nm == z) = false from beq_eq_false_iff_ne.2 h1, Bool.false_and]))
        clear HFo HKn h1
        go_wp2_with fail
        go_round
        case rel => exact ⟨k + 1, by omega, by go_num, HK2⟩
        case measure => first | (simp [intOf]; omega) | simp [intOf]
    · obtain rfl : k = pm := by omega
      have HV := Lib.hid (show methIn z u cx = none from HK.out.all (by rw [HPm.out]; exact Nat.le_refl _))
      obtain ⟨g0, g1, g2, g3, g4, g5, g6, g7, g8, f1, f2, f3, f4, f5, f6, f7, f8⟩ := HL2.out
      go_wp2_with fail
      refine bodyPost_ret (v := .tuple #[.agg #[.string ⟨#[]⟩, .string ⟨#[]⟩, .bool false, .bool false, .bool false, .int .i64 0, .slice none 0 0, .slice none 0 0], .bool false]) ?_ rfl ⟨_, by rw [HV.out]; rfl, by rw [HV.out]; exact zeroM_val, ?_⟩
      · simp [results, Tryz.results22, go_sem, *]
      · have B := HB2.out
        have hzb := B.size
        repeat (first | with_reducible exact B | with_reducible refine bput_ ?_ (Nat.le_refl _) | with_reducible refine bal_ ?_ (by simp; omega))
end Go.Proofs.YtkolpbjpgobkcaaGreatDoor
