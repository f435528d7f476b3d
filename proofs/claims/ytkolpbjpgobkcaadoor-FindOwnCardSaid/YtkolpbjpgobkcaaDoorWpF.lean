/- Package world: checked, find. -/
import Derived.Test.YtkolpbjpgobkcaaDoorGQ
import Derived.Deep.RegionHeld
namespace Go.Proofs.YtkolpbjpgobkcaaDoor
open Go.ChangeShapes Go.WideShapes Go.ChangeAt Go.RowKit Go.Maps
set_option linter.unusedVariables false
attribute [local go_sem] eqGuard_errV_nil eqGuard_errV_iface eql_errV_nil neq_errV_nil eql_errV_form

/-- What checked says, where q is what is wrong; the classes lie in w0. -/
def CheckedSays (l : List ClassD) (q : Nat) (w0 w : World) (e : Ending) (w' : World) : Prop :=
  Below w.heap.size w w' ∧ ((q ≠ 0 ∧ e = .returned (.tuple #[.map none, errV q])) ∨ (q = 0 ∧ Valid l ∧ ∃ b, e = .returned (.tuple #[.map (some b), .nilIface]) ∧ w.heap.size ≤ b ∧ ClassMap w0 w' b 12 l))
theorem collect_bad {w0 w w' : World} {l : List ClassD} {q : Nat} {e : Ending} (h : CollectSays w0 w l e w') (hq : (10 < l.length ∧ q = 4) ∨ (l.length ≤ 10 ∧ firstAt memF l ≠ 0 ∧ q = firstAt memF l)) : e = .returned (.tuple #[.map none, errV q]) ∧ Below w.heap.size w w' ∧ q ≠ 0 := by
  obtain ⟨hb, ⟨h1, rfl⟩ | ⟨h1, h2, rfl⟩ | ⟨h1, h2, _⟩⟩ := h
  · rcases hq with ⟨_, rfl⟩ | ⟨h, _⟩
    · exact ⟨rfl, hb, by decide⟩
    · omega
  · rcases hq with ⟨h, _⟩ | ⟨_, _, rfl⟩
    · omega
    · exact ⟨rfl, hb, h2⟩
  · rcases hq with ⟨h, _⟩ | ⟨_, h, _⟩
    · omega
    · exact absurd h2 h
theorem collect_good {w0 w w' : World} {l : List ClassD} {e : Ending} (h : CollectSays w0 w l e w') (h1 : l.length ≤ 10) (h2 : firstAt memF l = 0) : ∃ b, e = .returned (.tuple #[.map (some b), .nilIface]) ∧ w.heap.size ≤ b ∧ ClassMap w0 w' b 12 l ∧ Below w.heap.size w w' := by
  obtain ⟨hb, ⟨h3, rfl⟩ | ⟨_, h3, rfl⟩ | ⟨_, _, b, he, h4, h5⟩⟩ := h
  · omega
  · exact absurd h2 h3
  · exact ⟨b, he, h4, h5, hb⟩

set_option maxRecDepth 20000 in
set_option maxHeartbeats 8000000 in
theorem checked_any (l : List ClassD) (q : Nat) (A : Option Addr) (n c : Nat) (w0 w : World) (h0w : Below w0.heap.size w0 w) (hq : WorldIs l q) (T : Tab w) (R : ClassRow w0 A n c l) (hu : ∀ x ∈ l, x.upto 140737488351232) (hw : ∀ x ∈ l, x.wf) (hn : n ≤ 140737488351232) :
    Calls Tryd.prog 10 #[.slice A n c] w (CheckedSays l q w0 w) := by
  have hl : l.length = n := R.1
  have hCo := collect_any l A n c w0 w h0w T R hu hw hn
  by_cases hbad : (10 < l.length ∧ q = 4) ∨ (l.length ≤ 10 ∧ firstAt memF l ≠ 0 ∧ q = firstAt memF l)
  · have HCo := Lib.hid (hCo.mono fun _ _ h => collect_bad h hbad)
    clear hCo hbad hq T R hu hw hl h0w
    go_enter Tryd.func10, Tryd.ntmps10
    go_wp2_with (first
      | (go_at_call 22; (with_reducible refine HCo.out.mono ?_); rintro e w1 ⟨rfl, hb, h0⟩
         have hne : (q != 0) = true := by rw [bne_iff_ne]; exact h0
         have H0 := Lib.hid h0
         have HB1 := Lib.hid hb
         clear hb h0))
    go_ret2
    exact ⟨HB1.out, .inl ⟨H0.out, rfl⟩⟩
  · have hgood : l.length ≤ 10 ∧ firstAt memF l = 0 := by
      rcases hq with ⟨h1, h2⟩ | ⟨h1, h2, h3⟩ | ⟨h1, h2, _⟩ | ⟨⟨h1, h2, _⟩, _⟩ | ⟨⟨h1, h2, _⟩, _⟩
      · exact absurd (.inl ⟨h1, h2⟩) hbad
      · exact absurd (.inr ⟨h1, h2, h3⟩) hbad
      · exact ⟨h1, h2⟩
      · exact ⟨h1, h2⟩
      · exact ⟨h1, h2⟩
    have h10 : n ≤ 10 := by omega
    have HCo := Lib.hid (hCo.mono fun _ _ h => collect_good h hgood.1 hgood.2)
    have HG := Lib.hid hgood
    have HQ := Lib.hid hq
    have HL := Lib.hid hl
    have HR := Lib.hid R
    have H0w := Lib.hid h0w
    have HU := Lib.hid hu
    have HF8 := Lib.hid (show ∀ (k : Nat) (hk : k < l.length), l[k].faces.length ≤ 8 from fun k hk => (faces_nodup (mem_class hgood.2 hk).1).2)
    have HNm := Lib.hid (show ∀ (k : Nat) (hk : k < l.length), l[k].nm ≠ objB from fun k hk e => by
      have := (mem_class hgood.2 hk).2
      rw [e, known_obj] at this
      cases this)
    clear hCo hbad hgood hq T R hu hw hl h0w
    go_enter Tryd.func10, Tryd.ntmps10
    go_wp2_with (first
      | (go_at_call 22; (with_reducible refine HCo.out.mono ?_); rintro e w1 ⟨b, rfl, hb0, hm, hb⟩
         have HM1 := Lib.hid hm
         have HB1 := Lib.hid hb
         have HBs := Lib.hid hb0
         clear hb hm hb0))
    go_loopw [7, 8, 21] (fun _ _ i wr => ∃ k : Nat, k ≤ n ∧ i = .int .i64 k ∧ Hid (CleanTo (fun _ c => linkF l c) l k) ∧ Hid (Below w1.heap.size w1 wr)) (fun _ _ i _ => n - (intOf i).toNat)
    case atStart => exact ⟨0, Nat.zero_le _, rfl, Lib.hid (CleanTo.start _ _), Lib.hid (Below.refl _ _)⟩
    case round =>
      obtain ⟨k, hk, rfl, HC, HB⟩ := hrel
      have HBw := Lib.hid (bnext H0w.out (bnext HB1.out HB.out))
      by_cases hlt : k < n
      · obtain ⟨b1, o1, rfl, hb1, hx1⟩ := SRow.at_ HR.out hlt
        have hk1 : k < l.length := by rw [HL.out]; exact hlt
        have hxu := HU.out _ (List.getElem_mem hk1)
        have hf8 := HF8.out k hk1
        have hnm := HNm.out k hk1
        have HFa := Lib.hid (show linkF l l[k] ≠ 0 → q ≠ 0 ∧ q = linkF l l[k] from fun h => by
          have e := HC.out.fault hk1 h
          have e2 : q = firstAt (fun _ c => linkF l c) l := worldIs_one HQ.out (.inr (.inr (.inl ⟨HG.out.1, HG.out.2, by rw [e]; exact h, rfl⟩)))
          rw [e2, e]
          exact ⟨h, rfl⟩)
        have HNx := Lib.hid (show linkF l l[k] = 0 → _ from fun h => HC.out.next hk1 h)
        generalize l[k] = x at *
        obtain ⟨c0, c1, ⟨A1, i1, j1, c2, R1, N1⟩, c3, ⟨A2, i2, j2, c4, R2, N2⟩, ⟨A3, i3, j3, c5, R3, N3⟩⟩ := hx1
        replace c0 := (HBw.out.cell (p := ⟨b1, o1 + k * 6, none⟩) hb1).trans c0
        replace c1 := (HBw.out.cell (p := ⟨b1, o1 + k * 6 + 1, none⟩) hb1).trans c1
        replace c2 := (HBw.out.cell (p := ⟨b1, o1 + k * 6 + 2, none⟩) hb1).trans c2
        replace c3 := (HBw.out.cell (p := ⟨b1, o1 + k * 6 + 3, none⟩) hb1).trans c3
        replace c4 := (HBw.out.cell (p := ⟨b1, o1 + k * 6 + 4, none⟩) hb1).trans c4
        replace c5 := (HBw.out.cell (p := ⟨b1, o1 + k * 6 + 5, none⟩) hb1).trans c5
        have hH : Held w0 x (.agg #[.string (bs x.nm), .string (bs x.su), .slice A1 i1 j1, .bool x.face, .slice A2 i2 j2, .slice A3 i3 j3]) := ⟨A1, i1, j1, A2, i2, j2, A3, i3, j3, rfl, R1, R2, R3, N1, N2, N3⟩
        have hzr := HB.out.size
        have HB2 := Lib.hid (HB.out.alloc hzr (.cells #[.string (bs x.nm), .string (bs x.su), .slice A1 i1 j1, .bool x.face, .slice A2 i2 j2, .slice A3 i3 j3] 31))
        have hCk := checkParents_any l w0 b 12 x _ _ (HM1.out.below HB2.out) (hH.below (bnext H0w.out (bnext HB1.out HB2.out))) hnm (by omega) hxu
        by_cases h0 : linkF l x = 0
        · rw [h0] at hCk
          have HCk := Lib.hid hCk
          have HN2 := Lib.hid (HNx.out h0)
          clear hCk HFa HNx h0 hH R1 R2 R3 N1 N2 N3 hxu hf8 hnm
          go_wp2_with (first
            | (go_at_call 23; (with_reducible refine HCk.out.mono ?_); rintro e w2 ⟨rfl, hb⟩
               have HB3 := Lib.hid (bnext HB2.out hb)
               clear hb))
          go_roundw
          case rel => exact ⟨k + 1, by omega, by go_num, HN2, HB3⟩
          case measure => first | (simp [intOf]; omega) | simp [intOf]
        · have HV := Lib.hid (HFa.out h0)
          have hne : (linkF l x != 0) = true := by rw [bne_iff_ne]; exact h0
          have HCk := Lib.hid hCk
          clear hCk HFa HNx h0 hH R1 R2 R3 N1 N2 N3 hxu hf8 hnm
          go_wp2_with (first
            | (go_at_call 23; (with_reducible refine HCk.out.mono ?_); rintro e w2 ⟨rfl, hb⟩
               have HB3 := Lib.hid (bnext HB1.out (bnext HB2.out hb))
               clear hb))
          go_ret2
          exact ⟨HB3.out, .inl ⟨HV.out.1, by rw [HV.out.2]; rfl⟩⟩
      · obtain rfl : k = n := by omega
        have hJ : Joined l := ⟨HG.out.1, HG.out.2, HC.out.all HL.out⟩
        have HMr := Lib.hid (HM1.out.below HB.out)
        have HJ := Lib.hid hJ
        clear hJ
        go_wp2_with fail
        go_loopw [10, 34] (fun _ i wq => ∃ a : Nat, a ≤ k ∧ i = .int .i64 a ∧ Hid (∀ (t : Nat) (ht : t < l.length), t < a → ¬ Up l l[t].nm l[t].nm) ∧ Hid (Below w1.heap.size w1 wq)) (fun _ i _ => k - (intOf i).toNat)
        case atStart => exact ⟨0, Nat.zero_le _, rfl, Lib.hid (fun t ht h => by omega), HB⟩
        case round =>
          obtain ⟨a, ha, rfl, HT, HBq⟩ := hrel
          have HBv := Lib.hid (bnext HB1.out HBq.out)
          have HBw2 := Lib.hid (bnext H0w.out HBv.out)
          by_cases hlt2 : a < k
          · obtain ⟨b1, o1, rfl, hb1, hx1⟩ := SRow.at_ HR.out hlt2
            have hk1 : a < l.length := by rw [HL.out]; exact hlt2
            have hmem := List.getElem_mem hk1
            have hxu := HU.out _ hmem
            have hcl := classOf_at HG.out.2 hk1
            have HRo := Lib.hid (show Up l l[a].nm l[a].nm → q = 6 from fun h => worldIs_one HQ.out (.inr (.inr (.inr (.inl ⟨HJ.out, ⟨_, hmem, h⟩, rfl⟩)))))
            have HNx := Lib.hid (show ¬ Up l l[a].nm l[a].nm → ∀ (t : Nat) (ht : t < l.length), t < a + 1 → ¬ Up l l[t].nm l[t].nm from fun h t ht hta => by
              by_cases e : t = a
              · subst e; exact h
              · exact HT.out t ht (by omega))
            generalize l[a] = x at *
            obtain ⟨c0, c1, ⟨A1, i1, j1, c2, R1, N1⟩, c3, ⟨A2, i2, j2, c4, R2, N2⟩, ⟨A3, i3, j3, c5, R3, N3⟩⟩ := hx1
            replace c0 := (HBw2.out.cell (p := ⟨b1, o1 + a * 6, none⟩) hb1).trans c0
            replace c1 := (HBw2.out.cell (p := ⟨b1, o1 + a * 6 + 1, none⟩) hb1).trans c1
            replace c2 := (HBw2.out.cell (p := ⟨b1, o1 + a * 6 + 2, none⟩) hb1).trans c2
            replace c3 := (HBw2.out.cell (p := ⟨b1, o1 + a * 6 + 3, none⟩) hb1).trans c3
            replace c4 := (HBw2.out.cell (p := ⟨b1, o1 + a * 6 + 4, none⟩) hb1).trans c4
            replace c5 := (HBw2.out.cell (p := ⟨b1, o1 + a * 6 + 5, none⟩) hb1).trans c5
            have hH : Held w0 (classD l x.nm) (.agg #[.string (bs x.nm), .string (bs x.su), .slice A1 i1 j1, .bool x.face, .slice A2 i2 j2, .slice A3 i3 j3]) := by
              rw [classD_some hcl]
              exact ⟨A1, i1, j1, A2, i2, j2, A3, i3, j3, rfl, R1, R2, R3, N1, N2, N3⟩
            have hky : knownB l x.nm = true := by unfold knownB; rw [hcl]; rfl
            have hzr := HBq.out.size
            have HB2 := Lib.hid (HBq.out.alloc hzr (.cells #[.string (bs x.nm), .string (bs x.su), .slice A1 i1 j1, .bool x.face, .slice A2 i2 j2, .slice A3 i3 j3] 31))
            have HAb := Lib.hid (above_any l HJ.out HU.out w0 b 12 x.nm _ _ hky hH (HM1.out.below HB2.out.drew) (bnext H0w.out (bnext HB1.out HB2.out.drew)))
            have HY := Lib.hid (known_short HU.out hky)
            have HX := Lib.hid (cbox_at wr x A1 i1 j1 A2 i2 j2 A3 i3 j3 31 (0, 0))
            clear hH hky hcl hxu hmem R1 R2 R3 N1 N2 N3
            by_cases hup : Up l x.nm x.nm
            · have HV := Lib.hid (HRo.out hup)
              have HUp := Lib.hid hup
              clear hup HRo HNx
              go_wp2_with fail
              first | go_region_held (fun w' => w'.cell? ⟨wr.heap.size, 0, none⟩ = some (.string (bs x.nm)) ∧ w'.cell? ⟨wr.heap.size, 1, none⟩ = some (.string (bs x.su)) ∧ w'.cell? ⟨wr.heap.size, 2, none⟩ = some (.slice A1 i1 j1) ∧ w'.cell? ⟨wr.heap.size, 3, none⟩ = some (.bool x.face) ∧ w'.cell? ⟨wr.heap.size, 4, none⟩ = some (.slice A2 i2 j2) ∧ w'.cell? ⟨wr.heap.size, 5, none⟩ = some (.slice A3 i3 j3)) (go_keep)
                (first
                  | (go_at_call 16; (with_reducible refine HAb.out.mono ?_); rintro e w3 ⟨g, out, rfl, hg, hnd, hle, hmem, hs, hb⟩
                     obtain ⟨q0, q1, q2, q3, q4, q5, q6⟩ := (HX.out.below (Below.refl _ _).drew).below hb
                     have hlk := hs.asks HY.out (any_mem.2 ((hmem x.nm).2 HUp.out))
                     have HB3 := Lib.hid (bnext HB1.out (bnext HB2.out.drew hb))
                     clear hb hs hmem hnd hle hg)) | fail
              all_goals
                go_wp2_with fail
                go_ret2
                exact ⟨HB3.out, .inl ⟨by rw [HV.out]; decide, by rw [HV.out]; rfl⟩⟩
            · have HN2 := Lib.hid (HNx.out hup)
              have HUp := Lib.hid hup
              clear hup HRo HNx
              go_wp2_with fail
              first | go_region_held (fun w' => w'.cell? ⟨wr.heap.size, 0, none⟩ = some (.string (bs x.nm)) ∧ w'.cell? ⟨wr.heap.size, 1, none⟩ = some (.string (bs x.su)) ∧ w'.cell? ⟨wr.heap.size, 2, none⟩ = some (.slice A1 i1 j1) ∧ w'.cell? ⟨wr.heap.size, 3, none⟩ = some (.bool x.face) ∧ w'.cell? ⟨wr.heap.size, 4, none⟩ = some (.slice A2 i2 j2) ∧ w'.cell? ⟨wr.heap.size, 5, none⟩ = some (.slice A3 i3 j3)) (go_keep)
                (first
                  | (go_at_call 16; (with_reducible refine HAb.out.mono ?_); rintro e w3 ⟨g, out, rfl, hg, hnd, hle, hmem, hs, hb⟩
                     obtain ⟨q0, q1, q2, q3, q4, q5, q6⟩ := (HX.out.below (Below.refl _ _).drew).below hb
                     have hlk := hs.asks HY.out (any_not.2 (fun h => HUp.out ((hmem x.nm).1 h)))
                     have HB3 := Lib.hid (bnext HB2.out.drew hb)
                     clear hb hs hmem hnd hle hg)) | fail
              all_goals
                go_wp2_with fail
                go_roundw
                case rel => exact ⟨a + 1, by omega, by go_num, HN2, HB3⟩
                case measure => first | (simp [intOf]; omega) | simp [intOf]
          · obtain rfl : a = k := by omega
            have HV := Lib.hid (show Valid l from ⟨HJ.out, fun ⟨x, hx, h⟩ => by
              obtain ⟨t, ht, rfl⟩ := List.getElem_of_mem hx
              exact HT.out t ht (by rw [← HL.out]; exact ht) h⟩)
            have HM2 := Lib.hid (HM1.out.below HBq.out)
            have HQ0 := Lib.hid (valid_is HV.out HQ.out)
            go_wp2_with fail
            go_ret2
            exact ⟨HBv.out, .inr ⟨HQ0.out, HV.out, b, rfl, HBs.out, HM2.out⟩⟩

/-- What find says. -/
def FindSays (l : List ClassD) (q : Nat) (y : List UInt8) (w0 w : World) (e : Ending) (w' : World) : Prop :=
  Below w.heap.size w w' ∧ ((namedQ l q y ≠ 0 ∧ e = .returned (.tuple #[.map none, zeroV, errV (namedQ l q y)])) ∨
    (namedQ l q y = 0 ∧ Valid l ∧ knownB l y = true ∧ ∃ b v, e = .returned (.tuple #[.map (some b), v, .nilIface]) ∧ w.heap.size ≤ b ∧ ClassMap w0 w' b 12 l ∧ Held w0 (classD l y) v))
set_option maxRecDepth 20000 in
set_option maxHeartbeats 8000000 in
theorem find_any (l : List ClassD) (q : Nat) (y : List UInt8) (A : Option Addr) (n c : Nat) (w0 w : World) (h0w : Below w0.heap.size w0 w) (hq : WorldIs l q) (T : Tab w) (R : ClassRow w0 A n c l) (hu : ∀ x ∈ l, x.upto 140737488351232) (hw : ∀ x ∈ l, x.wf) (hn : n ≤ 140737488351232) (hy : y.length ≤ 140737488351232) :
    Calls Tryd.prog 15 #[.slice A n c, .string (bs y)] w (FindSays l q y w0 w) := by
  have hb0 := al1 w (.cells #[.string ⟨#[]⟩, .string ⟨#[]⟩, .slice none 0 0, .bool false, .slice none 0 0, .slice none 0 0] 31)
  have hCk := checked_any l q A n c w0 _ (bnext h0w hb0) hq (T.below hb0) R hu hw hn
  have HB0 := Lib.hid hb0
  have HLd := Lib.hid (laid6_at w 31)
  have HY := Lib.hid (show y.length ≤ maxLen from Nat.le_trans hy (by decide))
  clear hq T R hu hw hb0 hy h0w
  by_cases h0 : q = 0
  · have HCk := Lib.hid (hCk.mono fun e w' h => show ∃ b, e = .returned (.tuple #[.map (some b), .nilIface]) ∧ Valid l ∧ (w.alloc (.cells #[.string ⟨#[]⟩, .string ⟨#[]⟩, .slice none 0 0, .bool false, .slice none 0 0, .slice none 0 0] 31)).heap.size ≤ b ∧ ClassMap w0 w' b 12 l ∧ Below (w.alloc (.cells #[.string ⟨#[]⟩, .string ⟨#[]⟩, .slice none 0 0, .bool false, .slice none 0 0, .slice none 0 0] 31)).heap.size (w.alloc (.cells #[.string ⟨#[]⟩, .string ⟨#[]⟩, .slice none 0 0, .bool false, .slice none 0 0, .slice none 0 0] 31)) w' from by
      obtain ⟨hb, ⟨h1, _⟩ | ⟨_, hv, b, he, h2, h3⟩⟩ := h
      · exact absurd h0 h1
      · exact ⟨b, he, hv, h2, h3, hb⟩)
    clear hCk
    cases hk : knownB l y with
    | false =>
      have HV := Lib.hid (show namedQ l q y = 3 by unfold namedQ; rw [h0, hk]; rfl)
      have HK := Lib.hid hk
      clear hk h0
      go_enter Tryd.func15, Tryd.ntmps15
      go_wp2_with (first
        | (go_at_call 10; (with_reducible refine HCk.out.mono ?_); rintro e w1 ⟨b, rfl, _, hbs, ⟨D, hown, hsay⟩, hb⟩
           obtain ⟨hhas, v, hat, A1, i1, j1, A2, i2, j2, A3, i3, j3, rfl, _⟩ := hsay.2 y
           rw [HK.out] at hhas
           have HHa := Lib.hid hhas
           have HAt := Lib.hid hat
           have HO := Lib.hid hown
           have HB1 := Lib.hid (bnext HB0.out hb)
           obtain ⟨g0, g1, g2, g3, g4, g5, f0, f1, f2, f3, f4, f5⟩ := HLd.out.below (by simp) hb
           have hz1 : w.heap.size < w1.heap.size := by have := hb.size; simp at this; omega
           clear hb hat hhas hown hsay hbs)
        | (at_lookup; refine wpList_lookup_vok _ rfl _ _ rfl b _ D rfl HO.out y rfl HY.out _ HAt.out false HHa.out ?_))
      refine bodyPost_ret (v := .tuple #[.map none, zeroV, errV 3]) ?_ rfl ⟨?_, .inl ⟨by rw [HV.out]; decide, by rw [HV.out]⟩⟩
      · simp [results, Tryd.results15, go_sem, *]
        exact ⟨rfl, rfl⟩
      · have B := HB1.out
        have hz2 := B.size
        repeat (first | with_reducible exact B | with_reducible refine bput_ ?_ (Nat.le_refl _) | with_reducible refine bal_ ?_ (by simp; omega))
    | true =>
      have HV := Lib.hid (show namedQ l q y = 0 by unfold namedQ; rw [h0, hk]; rfl)
      have HK := Lib.hid hk
      clear hk h0
      go_enter Tryd.func15, Tryd.ntmps15
      go_wp2_with (first
        | (go_at_call 10; (with_reducible refine HCk.out.mono ?_); rintro e w1 ⟨b, rfl, hval, hbs, ⟨D, hown, hsay⟩, hb⟩
           obtain ⟨hhas, v, hat, hhv⟩ := hsay.2 y
           have hhv0 := hhv
           obtain ⟨A1, i1, j1, A2, i2, j2, A3, i3, j3, rfl, _⟩ := hhv0
           rw [HK.out] at hhas
           have HHv := Lib.hid hhv
           have HSy := Lib.hid hsay
           have HVal := Lib.hid hval
           have HBs := Lib.hid hbs
           have HHa := Lib.hid hhas
           have HAt := Lib.hid hat
           have HO := Lib.hid hown
           have HB1 := Lib.hid (bnext HB0.out hb)
           obtain ⟨g0, g1, g2, g3, g4, g5, f0, f1, f2, f3, f4, f5⟩ := HLd.out.below (by simp) hb
           have hz1 : w.heap.size < w1.heap.size := by have := hb.size; simp at this; omega
           clear hb hat hhas hown hsay hbs hhv hval)
        | (at_lookup; refine wpList_lookup_vok _ rfl _ _ rfl b _ D rfl HO.out y rfl HY.out _ HAt.out true HHa.out ?_))
      go_region
      go_wp2_with fail
      refine bodyPost_ret (v := .tuple #[.map (some b), .agg #[.string (bs (classD l y).nm), .string (bs (classD l y).su), .slice A1 i1 j1, .bool (classD l y).face, .slice A2 i2 j2, .slice A3 i3 j3], .nilIface]) ?_ rfl ⟨?_, .inr ⟨HV.out, HVal.out, HK.out, b, _, rfl, by have := HBs.out; simp at this; omega, ⟨D, ?_, HSy.out⟩, HHv.out⟩⟩
      · simp [results, Tryd.results15, go_sem, *]
      · have B := HB1.out
        have hz2 := B.size
        refine Below.drew ?_
        repeat (first | with_reducible exact B | with_reducible refine bput_ ?_ (Nat.le_refl _) | with_reducible refine bal_ ?_ (by simp; omega))
      · have B := HO.out
        have hbs := HBs.out
        simp at hbs
        refine World.ownsMap.drew (World.ownsMap.alloc ?_ _)
        repeat (first | with_reducible exact B | with_reducible refine World.ownsMap.setCell ?_ (show b ≠ w.heap.size by omega) _)
  · have HCk := Lib.hid (hCk.mono fun e w' h => show e = .returned (.tuple #[.map none, errV q]) ∧ Below (w.alloc (.cells #[.string ⟨#[]⟩, .string ⟨#[]⟩, .slice none 0 0, .bool false, .slice none 0 0, .slice none 0 0] 31)).heap.size (w.alloc (.cells #[.string ⟨#[]⟩, .string ⟨#[]⟩, .slice none 0 0, .bool false, .slice none 0 0, .slice none 0 0] 31)) w' from by
      obtain ⟨hb, ⟨_, he⟩ | ⟨h1, _⟩⟩ := h
      · exact ⟨he, hb⟩
      · exact absurd h1 h0)
    have hne : (q != 0) = true := by rw [bne_iff_ne]; exact h0
    have HV := Lib.hid (show namedQ l q y = q ∧ namedQ l q y ≠ 0 by unfold namedQ; rw [if_pos h0]; exact ⟨rfl, h0⟩)
    clear hCk h0
    go_enter Tryd.func15, Tryd.ntmps15
    go_wp2_with (first
      | (go_at_call 10; (with_reducible refine HCk.out.mono ?_); rintro e w1 ⟨rfl, hb⟩
         have HB1 := Lib.hid (bnext HB0.out hb)
         obtain ⟨g0, g1, g2, g3, g4, g5, f0, f1, f2, f3, f4, f5⟩ := HLd.out.below (by simp) hb
         clear hb))
    refine bodyPost_ret (v := .tuple #[.map none, zeroV, errV q]) ?_ rfl ⟨?_, .inl ⟨HV.out.2, by rw [HV.out.1]⟩⟩
    · simp [results, Tryd.results15, go_sem, *]
      rfl
    · have B := HB1.out
      repeat (first | with_reducible exact B | with_reducible refine bput_ ?_ (Nat.le_refl _))
end Go.Proofs.YtkolpbjpgobkcaaDoor
