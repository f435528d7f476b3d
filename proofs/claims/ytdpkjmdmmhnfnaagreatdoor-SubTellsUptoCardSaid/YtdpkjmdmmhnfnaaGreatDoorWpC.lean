/- Package world: collect. -/
import Derived.Test.YtdpkjmdmmhnfnaaGreatDoorWpB
import Derived.Test.YtdpkjmdmmhnfnaaGreatDoorGF
namespace Go.Proofs.YtdpkjmdmmhnfnaaGreatDoor
open Go.ChangeShapes Go.WideShapes Go.ChangeAt Go.RowKit Go.Maps
set_option linter.unusedVariables false
attribute [local go_sem] eqGuard_errV_nil eqGuard_errV_iface eql_errV_nil neq_errV_nil eql_errV_form

/-- What collect says; the classes lie in w0. -/
def CollectSays (w0 w : World) (l : List ClassD) (e : Ending) (w' : World) : Prop :=
  Below w.heap.size w w' ∧ ((10 < l.length ∧ e = .returned (.tuple #[.map none, errV 4])) ∨ (l.length ≤ 10 ∧ firstAt memF l ≠ 0 ∧ e = .returned (.tuple #[.map none, errV (firstAt memF l)])) ∨
    (l.length ≤ 10 ∧ firstAt memF l = 0 ∧ ∃ b, e = .returned (.tuple #[.map (some b), .nilIface]) ∧ w.heap.size ≤ b ∧ ClassMap w0 w' b 12 l))
theorem short_obj : objB.length ≤ maxLen := by decide
theorem short_flt : fltB.length ≤ maxLen := by decide

set_option maxRecDepth 20000 in
set_option maxHeartbeats 8000000 in
theorem collect_any (l : List ClassD) (A : Option Addr) (n c : Nat) (w0 w : World) (h0w : Below w0.heap.size w0 w) (T : Tab w) (R : ClassRow w0 A n c l) (hu : ∀ x ∈ l, x.upto 140737488351232) (hw : ∀ x ∈ l, x.wf) (hn : n ≤ 140737488351232) :
    Calls Tryz.prog 59 #[.slice A n c] w (CollectSays w0 w l) := by
  have hmm := @run_makeMap Tryz.prog
  have hl : l.length = n := R.1
  by_cases h10 : 10 < n
  · have HV := Lib.hid (show 10 < l.length by omega)
    clear hl R hu hw T h0w
    go_enter Tryz.func59, Tryz.ntmps59
    go_wp2_with fail
    go_ret2
    exact ⟨Below.refl _ _, .inl ⟨HV.out, rfl⟩⟩
  · have h10' : n ≤ 10 := by omega
    have HL := Lib.hid hl
    have HR := Lib.hid R
    have HU := Lib.hid hu
    have HW := Lib.hid hw
    have HT0 := Lib.hid T
    have H0w := Lib.hid h0w
    have HM0 := Lib.hid (World.ownsMap_made w Tryz.prog 9 readV)
    have HB0 := Lib.hid (al1 w (.map #[] 0))
    clear hl R hu hw T h0w
    go_enter Tryz.func59, Tryz.ntmps59
    go_wp2_with (first
      | (refine wpList_insert_v _ rfl _ _ _ rfl w.heap.size 0 (.map []) rfl HM0.out (by unfold maxLen; omega) objB rfl short_obj objV rfl ?_
         intro w1 hown1 hg1
         have HM1 := Lib.hid hown1
         have HB1 := Lib.hid (HB0.out.grown hg1 HB0.out.size (fun j hj => by cases hj; exact Nat.le_refl _))
         clear hown1 hg1)
      | (refine wpList_insert_v _ rfl _ _ _ rfl w.heap.size 1 _ rfl HM1.out (by unfold maxLen; omega) fltB rfl short_flt fltV rfl ?_
         intro w2 hown2 hg2
         have HM2 := Lib.hid (show ClassMap w0 w2 w.heap.size 2 [] from ⟨_, hown2, map_start w0⟩)
         have HB2 := Lib.hid (HB1.out.grown hg2 HB1.out.size (fun j hj => by cases hj; exact Nat.le_refl _))
         clear hown2 hg2))
    go_loopw [6, 7, 8, 9, 20] (fun _ _ _ _ i wr => ∃ k : Nat, k ≤ n ∧ i = .int .i64 k ∧ Hid (CleanTo memF l k) ∧ Hid (ClassMap w0 wr w.heap.size (k + 2) (l.take k)) ∧ Hid (Below w.heap.size w wr)) (fun _ _ _ _ i _ => n - (intOf i).toNat)
    case atStart => exact ⟨0, Nat.zero_le _, rfl, Lib.hid (CleanTo.start _ _), HM2, HB2⟩
    case round =>
      obtain ⟨k, hk, rfl, HC, HM, HB⟩ := hrel
      by_cases hlt : k < n
      · obtain ⟨b1, o1, rfl, hb1, hx1⟩ := SRow.at_ HR.out hlt
        have hk1 : k < l.length := by rw [HL.out]; exact hlt
        have hxu := HU.out _ (List.getElem_mem hk1)
        have hxw := HW.out _ (List.getElem_mem hk1)
        have HFa := Lib.hid (show memF (l.take k) l[k] ≠ 0 → firstAt memF l ≠ 0 ∧ firstAt memF l = memF (l.take k) l[k] from fun h => by
          have e := HC.out.fault hk1 h
          exact ⟨by rw [e]; exact h, e⟩)
        have HNx := Lib.hid (show memF (l.take k) l[k] = 0 → _ from fun h => HC.out.next hk1 h)
        have htk := List.take_succ_eq_append_getElem hk1
        generalize l.take k = pre at *
        generalize l[k] = x at *
        have HTk := Lib.hid htk
        clear htk
        obtain ⟨c0, c1, ⟨A1, i1, j1, c2, R1, N1⟩, c3, ⟨A2, i2, j2, c4, R2, N2⟩, ⟨A3, i3, j3, c5, R3, N3⟩⟩ := hx1
        have HBw := Lib.hid (bnext H0w.out HB.out)
        replace c0 := (HBw.out.cell (p := ⟨b1, o1 + k * 6, none⟩) hb1).trans c0
        replace c1 := (HBw.out.cell (p := ⟨b1, o1 + k * 6 + 1, none⟩) hb1).trans c1
        replace c2 := (HBw.out.cell (p := ⟨b1, o1 + k * 6 + 2, none⟩) hb1).trans c2
        replace c3 := (HBw.out.cell (p := ⟨b1, o1 + k * 6 + 3, none⟩) hb1).trans c3
        replace c4 := (HBw.out.cell (p := ⟨b1, o1 + k * 6 + 4, none⟩) hb1).trans c4
        replace c5 := (HBw.out.cell (p := ⟨b1, o1 + k * 6 + 5, none⟩) hb1).trans c5
        have HH := Lib.hid (show Held w0 x _ from ⟨A1, i1, j1, A2, i2, j2, A3, i3, j3, rfl, R1, R2, R3, N1, N2, N3⟩)
        have HB3 := Lib.hid (HB.out.alloc HB.out.size (.cells #[.string (bs x.nm), .string (bs x.su), .slice A1 i1 j1, .bool x.face, .slice A2 i2 j2, .slice A3 i3 j3] 48))
        have HBw3 := Lib.hid (bnext H0w.out HB3.out)
        have HCl := class_checks x A1 i1 j1 A2 i2 j2 A3 i3 j3 _ (HT0.out.below HB3.out) (R1.below HBw3.out) (R2.below HBw3.out) (R3.below HBw3.out) N1 N2 N3 hxu hxw
        unfold classV at HCl
        have hnm : x.nm.length ≤ maxLen := by have := hxu.1; unfold maxLen; omega
        have HX := Lib.hid (cbox_at wr x A1 i1 j1 A2 i2 j2 A3 i3 j3 48 (0, 0))
        have hzr := HB.out.size
        clear R1 R2 R3 N1 N2 N3 hxu hxw
        by_cases h0 : classF x = 0
        · rw [h0] at HCl
          replace HCl := Lib.hid HCl
          obtain ⟨D, hown, hsay⟩ := HM.out
          obtain ⟨hhas, v, hat, hhv⟩ := hsay.2 x.nm
          obtain ⟨A4, i4, j4, A5, i5, j5, A6, i6, j6, rfl, _⟩ := hhv
          have HO := Lib.hid hown
          have HAt := Lib.hid hat
          clear hown hat
          cases hkn : knownB pre x.nm with
          | true =>
            have HV := Lib.hid (HFa.out (by rw [memF_twice h0 hkn]; decide))
            rw [memF_twice h0 hkn] at HV
            rw [hkn] at hhas
            have HHa := Lib.hid hhas
            have hkm := hnm
            replace hnm := Lib.hid hnm
            clear HFa HNx h0 hkn hhas hsay hkm
            go_wp2_with (first
              | (go_at_call 77; (with_reducible refine HCl.out.mono ?_); rintro e w2 ⟨rfl, hb⟩
                 obtain ⟨q0, q1, q2, q3, q4, q5, q6⟩ := HX.out.below hb
                 have HB4 := Lib.hid (bnext HB3.out hb)
                 have HO4 := Lib.hid (HO.out.kept (below_grown (bnext (al1 wr _) hb)) (by simp))
                 have hz4 := HB4.out.size
                 clear hb)
              | (at_lookup; refine wpList_lookup_vok _ rfl _ _ rfl w.heap.size _ D rfl HO4.out x.nm rfl hnm.out _ HAt.out true HHa.out ?_))
            go_ret2
            exact ⟨HB4.out.alloc hz4 _, .inr (.inl ⟨by rw [HL.out]; exact h10', HV.out.1, by rw [HV.out.2]; rfl⟩)⟩
          | false =>
            have HN2 := Lib.hid (HNx.out (memF_none h0 hkn))
            have HPut := Lib.hid (map_put hsay hkn HH.out)
            rw [hkn] at hhas
            have HHa := Lib.hid hhas
            replace hnm := Lib.hid hnm
            clear HFa HNx h0 hkn hhas hsay
            go_wp2_with (first
              | (go_at_call 77; (with_reducible refine HCl.out.mono ?_); rintro e w2 ⟨rfl, hb⟩
                 obtain ⟨q0, q1, q2, q3, q4, q5, q6⟩ := HX.out.below hb
                 have HB4 := Lib.hid (bnext HB3.out hb)
                 have HO4 := Lib.hid (HO.out.kept (below_grown (bnext (al1 wr _) hb)) (by simp))
                 have hz4 := HB4.out.size
                 have HB5 := Lib.hid (HB4.out.alloc hz4 (.cells #[.string (bs (classD pre x.nm).nm), .string (bs (classD pre x.nm).su), .slice A4 i4 j4, .bool (classD pre x.nm).face, .slice A5 i5 j5, .slice A6 i6 j6] 48))
                 have HO5 := Lib.hid (HO4.out.alloc (.cells #[.string (bs (classD pre x.nm).nm), .string (bs (classD pre x.nm).su), .slice A4 i4 j4, .bool (classD pre x.nm).face, .slice A5 i5 j5, .slice A6 i6 j6] 48))
                 have hz5 := HB5.out.size
                 clear hb)
              | (at_lookup; refine wpList_lookup_vok _ rfl _ _ rfl w.heap.size _ D rfl HO4.out x.nm rfl hnm.out _ HAt.out false HHa.out ?_)
              | (at_mapUpdate; refine wpList_update_v _ rfl _ _ _ rfl w.heap.size _ D rfl HO5.out (by unfold maxLen; omega) x.nm rfl hnm.out (.agg #[.string (bs x.nm), .string (bs x.su), .slice A1 i1 j1, .bool x.face, .slice A2 i2 j2, .slice A3 i3 j3]) rfl ?_
                 intro w6 hown6 hg6
                 have HM6 := Lib.hid (show ClassMap w0 w6 w.heap.size (k + 1 + 2) (l.take (k + 1)) from ⟨_, by rw [show k + 1 + 2 = k + 2 + 1 by omega]; exact hown6, by rw [HTk.out]; exact HPut.out⟩)
                 have HB6 := Lib.hid (HB5.out.grown hg6 hz5 (fun j hj => by cases hj; exact Nat.le_refl _))
                 clear hown6 hg6))
            go_roundw
            case rel => exact ⟨k + 1, by omega, by go_num, HN2, HM6, HB6⟩
            case measure => first | (simp [intOf]; omega) | simp [intOf]
        · have HV := Lib.hid (HFa.out (by rw [memF_cls h0]; exact h0))
          rw [memF_cls h0] at HV
          have hne : (classF x != 0) = true := by rw [bne_iff_ne]; exact h0
          replace HCl := Lib.hid HCl
          clear HFa HNx h0
          go_wp2_with (first
            | (go_at_call 77; (with_reducible refine HCl.out.mono ?_); rintro e w2 ⟨rfl, hb⟩
               have HB4 := Lib.hid (bnext HB3.out hb)
               clear hb))
          go_ret2
          exact ⟨HB4.out, .inr (.inl ⟨by rw [HL.out]; exact h10', HV.out.1, by rw [HV.out.2]; rfl⟩)⟩
      · obtain rfl : k = n := by omega
        have HV := Lib.hid (HC.out.all HL.out)
        have hm := HM.out
        rw [List.take_of_length_le (by rw [HL.out]; exact Nat.le_refl _)] at hm
        have HM2 := Lib.hid (hm.mono (show k + 2 ≤ 12 by omega))
        clear hm
        go_wp2_with fail
        go_ret2
        exact ⟨HB.out, .inr (.inr ⟨by rw [HL.out]; exact h10', HV.out, _, rfl, Nat.le_refl _, HM2.out⟩)⟩
end Go.Proofs.YtdpkjmdmmhnfnaaGreatDoor
