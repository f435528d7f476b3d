/- Package world: checkParents. -/
import Derived.Test.YtdpkjmdmmhnfnaaGreatDoorWpC
namespace Go.Proofs.YtdpkjmdmmhnfnaaGreatDoor
open Go.ChangeShapes Go.WideShapes Go.ChangeAt Go.RowKit Go.Maps
set_option linter.unusedVariables false
attribute [local go_sem] eqGuard_errV_nil eqGuard_errV_iface eql_errV_nil neq_errV_nil eql_errV_form

section
variable {l : List ClassD} {c : ClassD}
theorem linkF_all (h : c.su ≠ []) (h0 : ∀ x ∈ c.su :: c.faces, knownB l x = true) : linkF l c = if (faceB l c.su || c.faces.any (fun n => !faceB l n)) = true then 7 else if (c.face && c.su != objB) = true then 7 else 0 := by
  unfold linkF
  rw [if_neg h, if_neg (by rw [List.all_eq_true.2 h0]; simp)]
theorem linkF_super (h : c.su ≠ []) (h0 : ∀ x ∈ c.su :: c.faces, knownB l x = true) (h1 : faceB l c.su = true) : linkF l c = 7 := by
  rw [linkF_all h h0, if_pos (by rw [h1, Bool.true_or])]
theorem linkF_own (h : c.su ≠ []) (h0 : ∀ x ∈ c.su :: c.faces, knownB l x = true) (h1 : c.face = true) (h2 : c.su ≠ objB) : linkF l c = 7 := by
  rw [linkF_all h h0]
  split
  · rfl
  · rw [if_pos (by rw [h1, Bool.true_and, bne_iff_ne]; exact h2)]
theorem linkF_elem (h : c.su ≠ []) (h0 : ∀ x ∈ c.su :: c.faces, knownB l x = true) {k : Nat} (hk : k < c.faces.length) (h1 : faceB l c.faces[k] = false) : linkF l c = 7 := by
  rw [linkF_all h h0, if_pos]
  rw [Bool.or_eq_true]
  exact .inr (List.any_eq_true.2 ⟨_, List.getElem_mem hk, by rw [h1]; rfl⟩)
theorem linkF_good (h : c.su ≠ []) (h0 : ∀ x ∈ c.su :: c.faces, knownB l x = true) (h1 : faceB l c.su = false) (h2 : c.face = false ∨ c.su = objB) (h3 : ∀ (k : Nat) (hk : k < c.faces.length), faceB l c.faces[k] = true) : linkF l c = 0 := by
  rw [linkF_all h h0, if_neg, if_neg]
  · rcases h2 with h2 | h2
    · rw [h2, Bool.false_and]; simp
    · rw [h2]; simp
  · rw [h1, Bool.false_or, Bool.not_eq_true, List.any_eq_false]
    intro x hx
    obtain ⟨k, hk, rfl⟩ := List.getElem_of_mem hx
    rw [h3 k hk]
    simp
end
theorem field_face (a b : ByteArray) (A B C : Option Addr) (i j k n m o : Nat) (f : Bool) (W : World) : (Instr.field 48 (.agg #[.string a, .string b, .slice A i j, .bool f, .slice B k n, .slice C m o]) 3).run Tryz.prog W = .ok (.bool f) W := by kernel_rfl
attribute [local go_sem] field_face
theorem owns_below {w w' : World} {b n : Nat} {D : DataW Value} (h : w.ownsMap Tryz.prog 9 readV b n D) (hb : Below w.heap.size w w') : w'.ownsMap Tryz.prog 9 readV b n D := h.kept (below_grown hb) (by simp)

set_option maxRecDepth 20000 in
set_option maxHeartbeats 8000000 in
theorem checkParents_any (l : List ClassD) (w0 : World) (b N : Nat) (x : ClassD) (v : Value) (w : World) (hM : ClassMap w0 w b N l) (hx : Held w x v) (hnm : x.nm ≠ objB) (hf : x.faces.length ≤ 1000) (hu : x.upto 140737488351232) :
    Calls Tryz.prog 60 #[.map (some b), v] w fun e w' => e = .returned (errV (linkF l x)) ∧ Below w.heap.size w w' := by
  have HHx := Lib.hid hx
  obtain ⟨A1, i1, j1, A2, i2, j2, A3, i3, j3, rfl, RF, _, _, NF, _, _⟩ := hx
  have hl1 : x.faces.length = i1 := RF.1
  obtain ⟨D, hown, hsay⟩ := hM
  have HB0 := Lib.hid (al1 w (.cells #[.string (bs x.nm), .string (bs x.su), .slice A1 i1 j1, .bool x.face, .slice A2 i2 j2, .slice A3 i3 j3] 48))
  have HX := Lib.hid (cbox_at w x A1 i1 j1 A2 i2 j2 A3 i3 j3 48 (0, 0))
  have HO := Lib.hid (owns_below hown HB0.out)
  have HS := Lib.hid hsay
  have HRF := Lib.hid (RF.below HB0.out)
  have HF8 := Lib.hid hl1
  clear RF NF hown hsay
  by_cases hs : x.su = []
  · have he := emptyB_yes hs
    have HV := Lib.hid (linkF_bare (l := l) hs)
    clear hs hu hf hl1
    go_enter Tryz.func60, Tryz.ntmps60
    go_wp2_with fail
    go_ret
    exact ⟨ret_err (by rw [HV.out]; rfl), HB0.out⟩
  · have he := emptyB_no hs
    have HSu := Lib.hid hs
    have HPa := Lib.hid (fun (W : World) (hB : Below w.heap.size w W) => parents_any x _ W (HHx.out.below hB) hf)
    have HU := Lib.hid (show ∀ z ∈ x.su :: x.faces, z.length ≤ maxLen from fun z hz => by
      rcases List.mem_cons.1 hz with rfl | hz
      · exact Nat.le_trans hu.2.1 (by decide)
      · exact Nat.le_trans (hu.2.2.1.1 z hz) (by decide))
    obtain ⟨ps, hps⟩ : ∃ ps, ps = x.pars := ⟨_, rfl⟩
    have hp2 : ps = x.su :: x.faces := by rw [hps]; unfold ClassD.pars; rw [if_neg hnm]
    have HP := Lib.hid hp2
    have hp9 : ps.length ≤ 1001 := by rw [hp2]; simp; omega
    rw [← hps] at HPa
    have hi1 : i1 ≤ 1000 := by omega
    clear hs hu hf hps hp2 hl1 hnm
    go_enter Tryz.func60, Tryz.ntmps60
    go_wp2_with (first
      | (go_at_call 67; (with_reducible refine (HPa.out _ HB0.out).mono ?_); rintro e w1 ⟨v1, rfl, hv, hb⟩
         obtain ⟨B, d, rfl⟩ := hv.form
         have HR1 := Lib.hid hv.row
         have HX1 := Lib.hid (HX.out.below hb)
         have HO1 := Lib.hid (owns_below HO.out hb)
         have HRF1 := Lib.hid (HRF.out.below hb)
         have HB1 := Lib.hid (bnext HB0.out hb)
         clear hv hb))
    go_loopw [6, 7, 8, 18] (fun _ _ _ i wr => ∃ k : Nat, k ≤ ps.length ∧ i = .int .i64 k ∧ Hid (∀ (t : Nat) (ht : t < ps.length), t < k → knownB l ps[t] = true) ∧ Hid (Below w1.heap.size w1 wr)) (fun _ _ _ i _ => ps.length - (intOf i).toNat)
    case atStart => exact ⟨0, Nat.zero_le _, rfl, Lib.hid (fun t ht h => by omega), Lib.hid (Below.refl _ _)⟩
    case round =>
      obtain ⟨k, hk, rfl, HT, HB⟩ := hrel
      by_cases hlt : k < ps.length
      · obtain ⟨b1, o1, rfl, hb1, hx1⟩ := SRow.at_ (HR1.out.below HB.out) hlt
        rw [Nat.mul_one] at hx1
        unfold StrAt at hx1
        have hy := HU.out ps[k] (by rw [← HP.out]; exact List.getElem_mem hlt)
        have HF := Lib.hid (show knownB l ps[k] = false → linkF l x = 3 from fun h => by
          have hk1 : k < (x.su :: x.faces).length := by rw [← HP.out]; exact hlt
          refine linkF_none HSu.out hk1 ?_
          rw [← h]
          congr 1
          simp only [HP.out])
        have HNx := Lib.hid (show knownB l ps[k] = true → ∀ (t : Nat) (ht : t < ps.length), t < k + 1 → knownB l ps[t] = true from fun h t ht htk => by
          by_cases e : t = k
          · subst e; exact h
          · exact HT.out t ht (by omega))
        obtain ⟨hhas, v, hat, hhv⟩ := HS.out.2 ps[k]
        obtain ⟨A4, i4, j4, A5, i5, j5, A6, i6, j6, rfl, _⟩ := hhv
        generalize ps[k] = z at *
        have HY := Lib.hid hy
        have HAt := Lib.hid hat
        have HOr := Lib.hid (owns_below HO1.out HB.out)
        have HBw := Lib.hid (bnext HB1.out HB.out)
        have hzw := HBw.out.size
        have hzr := HB.out.size
        clear hat hy
        cases hkn : knownB l z with
        | false =>
          have HV := Lib.hid (HF.out hkn)
          rw [hkn] at hhas
          have HHa := Lib.hid hhas
          clear HF HNx hkn hhas
          go_wp2_with (first
            | (at_lookup; refine wpList_lookup_vok _ rfl _ _ rfl b _ D rfl HOr.out z rfl HY.out _ HAt.out false HHa.out ?_))
          go_ret
          exact ⟨ret_err (by rw [HV.out]; rfl), HBw.out.alloc hzw _⟩
        | true =>
          have HT2 := Lib.hid (HNx.out hkn)
          rw [hkn] at hhas
          have HHa := Lib.hid hhas
          have HB2 := Lib.hid (HB.out.alloc hzr (.cells #[.string (bs (classD l z).nm), .string (bs (classD l z).su), .slice A4 i4 j4, .bool (classD l z).face, .slice A5 i5 j5, .slice A6 i6 j6] 48))
          clear HF HNx hkn hhas
          go_wp2_with (first
            | (at_lookup; refine wpList_lookup_vok _ rfl _ _ rfl b _ D rfl HOr.out z rfl HY.out _ HAt.out true HHa.out ?_))
          go_roundw
          case rel => exact ⟨k + 1, by omega, by go_num, HT2, HB2⟩
          case measure => first | (simp [intOf]; omega) | simp [intOf]
      · obtain rfl : k = ps.length := by omega
        have HK := Lib.hid (show ∀ z ∈ x.su :: x.faces, knownB l z = true from fun z hz => by
          rw [← HP.out] at hz
          obtain ⟨t, ht, rfl⟩ := List.getElem_of_mem hz
          exact HT.out t ht ht)
        have hy := HU.out x.su (by simp)
        have HY := Lib.hid hy
        obtain ⟨_, v, hat, hhv⟩ := HS.out.2 x.su
        obtain ⟨A4, i4, j4, A5, i5, j5, A6, i6, j6, rfl, _⟩ := hhv
        rw [← faceB_D] at hat
        have HOr := Lib.hid (owns_below HO1.out HB.out)
        have HBw := Lib.hid (bnext HB1.out HB.out)
        obtain ⟨q0, q1, q2, q3, q4, q5, q6⟩ := HX1.out.below HB.out
        have HRFr := Lib.hid (HRF1.out.below HB.out)
        clear HT hy
        cases hsf : faceB l x.su with
        | true =>
          rw [hsf] at hat
          have HAt := Lib.hid hat
          have HV := Lib.hid (linkF_super HSu.out HK.out hsf)
          clear hat hsf
          go_wp2_with (first
            | (at_lookup; refine wpList_lookup_v _ rfl _ _ rfl b _ D rfl HOr.out x.su rfl HY.out _ HAt.out ?_))
          go_ret
          exact ⟨ret_err (by rw [HV.out]; rfl), HBw.out⟩
        | false =>
          rw [hsf] at hat
          have HAt := Lib.hid hat
          clear hat
          rcases (show (x.face = true ∧ x.su ≠ objB) ∨ (x.face = false) ∨ (x.face = true ∧ x.su = objB) by cases h : x.face <;> by_cases h2 : x.su = objB <;> simp [h2]) with ⟨hxf, hso⟩ | hxf | ⟨hxf, hso⟩
          · have HV := Lib.hid (linkF_own HSu.out HK.out hxf hso)
            have e1 : ((bs x.su).toList == [79, 98, 106, 101, 99, 116]) = false := lst_no hso
            have e2 : ((bs x.su).toList != [79, 98, 106, 101, 99, 116]) = true := by rw [bne, e1]; rfl
            rw [hxf] at q4
            clear hsf hso hxf
            go_wp2_with (first
              | (at_lookup; refine wpList_lookup_v _ rfl _ _ rfl b _ D rfl HOr.out x.su rfl HY.out _ HAt.out ?_))
            go_ret
            exact ⟨ret_err (by rw [HV.out]; rfl), HBw.out⟩
          all_goals
            have HG := Lib.hid (fun h3 => linkF_good HSu.out HK.out hsf (by first | exact .inl hxf | exact .inr hso) h3)
            have e1 : x.su = objB → ((bs x.su).toList == [79, 98, 106, 101, 99, 116]) = true := fun h => lst_yes h
            first | replace e1 := e1 hso | clear e1
            rw [hxf] at q4
            clear hsf hxf
            try clear hso
            go_wp2_with (first
              | (at_lookup; refine wpList_lookup_v _ rfl _ _ rfl b _ D rfl HOr.out x.su rfl HY.out _ HAt.out ?_))
            go_loop [10, 50] (fun _ i => ∃ a : Nat, a ≤ i1 ∧ i = .int .i64 a ∧ Hid (∀ (t : Nat) (ht : t < x.faces.length), t < a → faceB l x.faces[t] = true)) (fun _ i => i1 - (intOf i).toNat)
            case atStart => exact ⟨0, Nat.zero_le _, rfl, Lib.hid (fun t ht h => by omega)⟩
            case round =>
              obtain ⟨a, ha, rfl, HTa⟩ := hrel
              by_cases hlt2 : a < i1
              · obtain ⟨b1, o1, rfl, hb1, hx1⟩ := SRow.at_ HRFr.out hlt2
                rw [Nat.mul_one] at hx1
                unfold StrAt at hx1
                have ha1 : a < x.faces.length := by rw [HF8.out]; exact hlt2
                have HYa := Lib.hid (HU.out x.faces[a] (by simp))
                have HE := Lib.hid (show faceB l x.faces[a] = false → _ from fun h => linkF_elem HSu.out HK.out ha1 h)
                have HNa := Lib.hid (show faceB l x.faces[a] = true → ∀ (t : Nat) (ht : t < x.faces.length), t < a + 1 → faceB l x.faces[t] = true from fun h t ht hta => by
                  by_cases e : t = a
                  · subst e; exact h
                  · exact HTa.out t ht (by omega))
                obtain ⟨_, v, hat, hhv⟩ := HS.out.2 x.faces[a]
                obtain ⟨A7, i7, j7, A8, i8, j8, A9, i9, j9, rfl, _⟩ := hhv
                rw [← faceB_D] at hat
                generalize x.faces[a] = z at *
                cases hzf : faceB l z with
                | false =>
                  rw [hzf] at hat
                  have HAz := Lib.hid hat
                  have HV := Lib.hid (HE.out hzf)
                  clear hat hzf HE HNa
                  go_wp2_with (first
                    | (at_lookup; refine wpList_lookup_v _ rfl _ _ rfl b _ D rfl HOr.out z rfl HYa.out _ HAz.out ?_))
                  go_ret
                  exact ⟨ret_err (by rw [HV.out]; rfl), HBw.out⟩
                | true =>
                  rw [hzf] at hat
                  have HAz := Lib.hid hat
                  have HTb := Lib.hid (HNa.out hzf)
                  clear hat hzf HE HNa
                  go_wp2_with (first
                    | (at_lookup; refine wpList_lookup_v _ rfl _ _ rfl b _ D rfl HOr.out z rfl HYa.out _ HAz.out ?_))
                  go_round
                  case rel => exact ⟨a + 1, by omega, by go_num, HTb⟩
                  case measure => first | (simp [intOf]; omega) | simp [intOf]
              · obtain rfl : a = i1 := by omega
                have HV := Lib.hid (HG.out (fun t ht => HTa.out t ht (by have := HF8.out; omega)))
                go_wp2_with fail
                go_ret
                exact ⟨ret_err (by rw [HV.out]; rfl), HBw.out⟩
end Go.Proofs.YtdpkjmdmmhnfnaaGreatDoor
