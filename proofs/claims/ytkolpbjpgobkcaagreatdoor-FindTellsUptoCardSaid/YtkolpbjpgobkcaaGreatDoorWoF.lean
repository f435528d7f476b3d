/- The reference's WorldFault. -/
import Derived.Test.YtkolpbjpgobkcaaGreatDoorGU
import Derived.Test.YtkolpbjpgobkcaaGreatDoorClG
namespace Go.Proofs.YtkolpbjpgobkcaaGreatDoor
open Go.ChangeShapes Go.WideShapes Go.ChangeAt Go.RowKit
set_option linter.unusedVariables false

theorem size_class (w : World) : (Go.sizeOf 51).run Tryz.prog w = .ok 6 w := by kernel_rfl
theorem pre_class (b o n c h : Nat) (hc : h ≤ c) (W : World) : (Instr.sliceAt 22 (.slice (some ⟨b, o, none⟩) n c) none (some (.int .i64 (h : Int))) none).run Tryz.prog W = .ok (.slice (some ⟨b, o, none⟩) h c) W := by
  have e : Tryz.prog.underlying 22 = some (.slice (Tryz.prog.elem 22)) := by kernel_rfl
  have e2 : Tryz.prog.elem 22 = 51 := by kernel_rfl
  rw [run_sliceAt_slice W _ _ _ _ _ e, run_slice_h W _ _ n c e .i64 _ (by omega) (by omega), e2, size_class]
  show Result.ok (sliced (some ⟨b, o, none⟩) 0 h c 6) W = _
  rw [sliced_pre]
theorem ClassRow.take {w : World} {A : Option Addr} {n c : Nat} {l : List ClassD} (R : ClassRow w A n c l) {h : Nat} (hh : h ≤ n) : ClassRow w A h c (l.take h) := SRow.take R hh
/-- A block that was just laid, in a later world. -/
def Laid6 (w : World) (g : Nat) : Prop :=
  w.cell? ⟨g, 0, none⟩ = some (.string ⟨#[]⟩) ∧ w.cell? ⟨g, 1, none⟩ = some (.string ⟨#[]⟩) ∧ w.cell? ⟨g, 2, none⟩ = some (.slice none 0 0) ∧ w.cell? ⟨g, 3, none⟩ = some (.bool false) ∧ w.cell? ⟨g, 4, none⟩ = some (.slice none 0 0) ∧ w.cell? ⟨g, 5, none⟩ = some (.slice none 0 0) ∧
  w.frozen? ⟨g, 0, none⟩ = false ∧ w.frozen? ⟨g, 1, none⟩ = false ∧ w.frozen? ⟨g, 2, none⟩ = false ∧ w.frozen? ⟨g, 3, none⟩ = false ∧ w.frozen? ⟨g, 4, none⟩ = false ∧ w.frozen? ⟨g, 5, none⟩ = false
theorem frozen_at (w : World) (C : Array Value) (t : TypeId) (j : Nat) : (w.alloc (.cells C t)).frozen? ⟨w.heap.size, j, none⟩ = false := by
  have h : (w.alloc (.cells C t)).heap[w.heap.size]? = some (.cells C t (0, 0)) := by
    show (w.heap.push (.cells C t))[w.heap.size]? = _
    simp
  unfold World.frozen?
  rw [h]
  show (decide (0 ≤ j) && decide (j < 0)) = false
  simp
theorem laid6_at (w : World) (t : TypeId) : Laid6 (w.alloc (.cells #[.string ⟨#[]⟩, .string ⟨#[]⟩, .slice none 0 0, .bool false, .slice none 0 0, .slice none 0 0] t)) w.heap.size :=
  ⟨World.cell?_alloc_mark .., World.cell?_alloc_mark .., World.cell?_alloc_mark .., World.cell?_alloc_mark .., World.cell?_alloc_mark .., World.cell?_alloc_mark .., frozen_at .., frozen_at .., frozen_at .., frozen_at .., frozen_at .., frozen_at ..⟩
theorem Laid6.below {w w' : World} {g : Nat} (h : Laid6 w g) (hg : g < w.heap.size) (hb : Below w.heap.size w w') : Laid6 w' g := by
  obtain ⟨h0, h1, h2, h3, h4, h5, f0, f1, f2, f3, f4, f5⟩ := h
  exact ⟨(hb.cell (by exact hg)).trans h0, (hb.cell (by exact hg)).trans h1, (hb.cell (by exact hg)).trans h2, (hb.cell (by exact hg)).trans h3, (hb.cell (by exact hg)).trans h4, (hb.cell (by exact hg)).trans h5,
    (hb.frozen (by exact hg)).trans f0, (hb.frozen (by exact hg)).trans f1, (hb.frozen (by exact hg)).trans f2, (hb.frozen (by exact hg)).trans f3, (hb.frozen (by exact hg)).trans f4, (hb.frozen (by exact hg)).trans f5⟩
theorem bal_ {B : Nat} {a w : World} {o : Obj} (h : Below B a w) (hB : B ≤ w.heap.size) : Below B a (w.alloc o) := h.alloc hB o
theorem bput_ {B b j : Nat} {a w : World} {v : Value} (h : Below B a w) (hB : B ≤ b) : Below B a (w.setCell ⟨b, j, none⟩ v) := h.setCell (p := ⟨b, j, none⟩) hB v
theorem memF_cls {pre : List ClassD} {x : ClassD} (h : classF x ≠ 0) : memF pre x = classF x := by unfold memF; rw [if_pos h]
theorem memF_twice {pre : List ClassD} {x : ClassD} (h : classF x = 0) (h2 : knownB pre x.nm = true) : memF pre x = 5 := by unfold memF; rw [h, if_neg (by simp), if_pos h2]
theorem memF_none {pre : List ClassD} {x : ClassD} (h : classF x = 0) (h2 : knownB pre x.nm = false) : memF pre x = 0 := by unfold memF; rw [h, h2, if_neg (by simp), if_neg (by simp)]

set_option maxRecDepth 20000 in
set_option maxHeartbeats 16000000 in
theorem rworld_any (l : List ClassD) (q : Nat) (hq : WorldIs l q) (A : Option Addr) (n c : Nat) (w : World) (R : ClassRow w A n c l) (hu : ∀ x ∈ l, x.upto 1048576) (hw : ∀ x ∈ l, x.wf) (hn : n ≤ 140737488351232) :
    Calls Tryz.prog 13 #[.slice A n c] w fun e w' => e = .returned (.int .i64 (q : Int)) ∧ Below w.heap.size w w' := by
  have hl : l.length = n := R.1
  by_cases h10 : 10 < n
  · have hv : q = 4 := worldIs_one hq (.inl ⟨by omega, rfl⟩)
    subst hv
    clear hl R hu hw hq
    go_enter Tryz.func13, Tryz.ntmps13
    go_wp2_with fail
    go_ret
    exact ⟨ret_int rfl, Below.refl _ _⟩
  · have h10' : n ≤ 10 := by omega
    have HL := Lib.hid hl
    have HR := Lib.hid R
    have HU := Lib.hid hu
    have HW := Lib.hid hw
    have HQ := Lib.hid hq
    clear hl R hu hw hq
    go_enter Tryz.func13, Tryz.ntmps13
    go_wp2_with fail
    go_loopw [3, 4, 5, 6] (fun i _ _ _ wr => ∃ k : Nat, k ≤ n ∧ i = .int .i64 k ∧ Hid (CleanTo memF l k) ∧ Hid (Below w.heap.size w wr)) (fun i _ _ _ _ => n - (intOf i).toNat)
    case atStart => exact ⟨0, Nat.zero_le _, rfl, Lib.hid (CleanTo.start _ _), Lib.hid (Below.refl _ _)⟩
    case round =>
      obtain ⟨k, hk, rfl, HT, HB⟩ := hrel
      by_cases hlt : k < n
      · obtain ⟨b1, o1, rfl, hb1, hx1⟩ := SRow.at_ (ClassRow.below HR.out HB.out) hlt
        have hk1 : k < l.length := by rw [HL.out]; exact hlt
        have hxu := HU.out _ (List.getElem_mem hk1)
        have hxw := HW.out _ (List.getElem_mem hk1)
        have HFa := Lib.hid (show memF (l.take k) l[k] ≠ 0 → q = memF (l.take k) l[k] from fun h => by
          have e := HT.out.fault hk1 h
          rw [← e] at h ⊢
          exact worldIs_one HQ.out (.inr (.inl ⟨by rw [HL.out]; exact h10', h, rfl⟩)))
        have HNx := Lib.hid (show memF (l.take k) l[k] = 0 → _ from fun h => HT.out.next hk1 h)
        have hcut := fun W => pre_class b1 o1 n c k (Nat.le_trans hk HR.out.2.1) W
        have HCt := Lib.hid (fun (W : World) (hB : Below wr.heap.size wr W) => rclassOf_any (l.take k) l[k].nm (some ⟨b1, o1, none⟩) k c W (ClassRow.below (ClassRow.below (ClassRow.take HR.out hk) HB.out) hB) (by omega))
        generalize l.take k = pre at *
        generalize l[k] = x at *
        obtain ⟨c0, c1, ⟨A1, i1, j1, c2, R1, N1⟩, c3, ⟨A2, i2, j2, c4, R2, N2⟩, ⟨A3, i3, j3, c5, R3, N3⟩⟩ := hx1
        have HCl := rclass_any x A1 i1 j1 A2 i2 j2 A3 i3 j3 wr R1 R2 R3 hxu hxw
        unfold classV at HCl
        clear R1 R2 R3 N1 N2 N3 hxu hxw
        by_cases h0 : classF x = 0
        · rw [h0] at HCl
          replace HCl := Lib.hid HCl
          cases hkn : knownB pre x.nm with
          | true =>
            have HV := Lib.hid (HFa.out (by rw [memF_twice h0 hkn]; decide))
            rw [memF_twice h0 hkn] at HV
            have HK := Lib.hid hkn
            clear HFa HNx h0 hkn
            go_wp2_with (first
              | (go_at_call 26; (with_reducible refine HCl.out.mono ?_); rintro e w2 ⟨rfl, hb⟩
                 have HB2 := Lib.hid hb
                 have d0 := (hb.cell (p := ⟨b1, o1 + k * 6, none⟩) hb1).trans c0
                 clear hb))
            have hb2z := HB2.out.size
            have hbz0 := HB.out.size
            have hnb : w2.heap.size ≠ b1 := by omega
            first | go_region_held (fun w' => w'.cell? ⟨b1, o1 + k * 6, none⟩ = some (.string (bs x.nm))) (go_keep)
              (first
                | (go_at_call 14; (with_reducible refine (HCt.out w2.drew HB2.out.drew).mono ?_); rintro e w3 ⟨v3, rfl, hh, hb⟩
                   obtain ⟨A4, i4, j4, A5, i5, j5, A6, i6, j6, rfl, _⟩ := hh
                   rw [HK.out]
                   have HB3 := Lib.hid (bnext HB2.out.drew hb)
                   have e0 := (HB3.out.cell (p := ⟨b1, o1 + k * 6, none⟩) hb1).trans c0
                   have hnc : w3.heap.size ≠ b1 := by have := HB3.out.size; omega
                   have HB4 := Lib.hid (bnext HB.out HB3.out)
                   have hz4 := HB4.out.size
                   clear hb)
                | (go_at_call 14; (with_reducible refine (HCt.out (w2.alloc (.cells #[.string ⟨#[]⟩, .string ⟨#[]⟩, .slice none 0 0, .bool false, .slice none 0 0, .slice none 0 0] 51)).drew (HB2.out.alloc hb2z (.cells #[.string ⟨#[]⟩, .string ⟨#[]⟩, .slice none 0 0, .bool false, .slice none 0 0, .slice none 0 0] 51)).drew).mono ?_); rintro e w3 ⟨v3, rfl, hh, hb⟩
                   obtain ⟨A4, i4, j4, A5, i5, j5, A6, i6, j6, rfl, _⟩ := hh
                   rw [HK.out]
                   have HB3 := Lib.hid (bnext (HB2.out.alloc hb2z (.cells #[.string ⟨#[]⟩, .string ⟨#[]⟩, .slice none 0 0, .bool false, .slice none 0 0, .slice none 0 0] 51)).drew hb)
                   have e0 := (HB3.out.cell (p := ⟨b1, o1 + k * 6, none⟩) hb1).trans c0
                   obtain ⟨g0, g1, g2, g3, g4, g5, f0, f1, f2, f3, f4, f5⟩ := (show Laid6 (w2.alloc (.cells #[.string ⟨#[]⟩, .string ⟨#[]⟩, .slice none 0 0, .bool false, .slice none 0 0, .slice none 0 0] 51)).drew w2.heap.size from laid6_at w2 51).below (by simp) hb
                   have hz3 : w2.heap.size < w3.heap.size := by have := hb.size; simp at this; omega
                   have HB4 := Lib.hid (bnext HB.out HB3.out)
                   have hz4 := HB4.out.size
                   clear hb)) | fail
            all_goals
              go_wp2_with fail
              go_ret
              refine ⟨ret_int (by rw [HV.out]; rfl), ?_⟩
              have B := HB4.out
              clear HB4
              repeat (first | with_reducible exact B | with_reducible refine bal_ ?_ (by omega) | with_reducible refine bput_ ?_ (by omega))
          | false =>
            have HN2 := Lib.hid (HNx.out (memF_none h0 hkn))
            have HK := Lib.hid hkn
            clear HFa HNx h0 hkn
            go_wp2_with (first
              | (go_at_call 26; (with_reducible refine HCl.out.mono ?_); rintro e w2 ⟨rfl, hb⟩
                 have HB2 := Lib.hid hb
                 have d0 := (hb.cell (p := ⟨b1, o1 + k * 6, none⟩) hb1).trans c0
                 clear hb))
            have hb2z := HB2.out.size
            have hbz0 := HB.out.size
            have hnb : w2.heap.size ≠ b1 := by omega
            first | go_region_held (fun w' => w'.cell? ⟨b1, o1 + k * 6, none⟩ = some (.string (bs x.nm))) (go_keep)
              (first
                | (go_at_call 14; (with_reducible refine (HCt.out w2.drew HB2.out.drew).mono ?_); rintro e w3 ⟨v3, rfl, hh, hb⟩
                   obtain ⟨A4, i4, j4, A5, i5, j5, A6, i6, j6, rfl, _⟩ := hh
                   rw [HK.out]
                   have HB3 := Lib.hid (bnext HB2.out.drew hb)
                   have e0 := (HB3.out.cell (p := ⟨b1, o1 + k * 6, none⟩) hb1).trans c0
                   have hnc : w3.heap.size ≠ b1 := by have := HB3.out.size; omega
                   have HB4 := Lib.hid (bnext HB.out HB3.out)
                   have hz4 := HB4.out.size
                   clear hb)
                | (go_at_call 14; (with_reducible refine (HCt.out (w2.alloc (.cells #[.string ⟨#[]⟩, .string ⟨#[]⟩, .slice none 0 0, .bool false, .slice none 0 0, .slice none 0 0] 51)).drew (HB2.out.alloc hb2z (.cells #[.string ⟨#[]⟩, .string ⟨#[]⟩, .slice none 0 0, .bool false, .slice none 0 0, .slice none 0 0] 51)).drew).mono ?_); rintro e w3 ⟨v3, rfl, hh, hb⟩
                   obtain ⟨A4, i4, j4, A5, i5, j5, A6, i6, j6, rfl, _⟩ := hh
                   rw [HK.out]
                   have HB3 := Lib.hid (bnext (HB2.out.alloc hb2z (.cells #[.string ⟨#[]⟩, .string ⟨#[]⟩, .slice none 0 0, .bool false, .slice none 0 0, .slice none 0 0] 51)).drew hb)
                   have e0 := (HB3.out.cell (p := ⟨b1, o1 + k * 6, none⟩) hb1).trans c0
                   obtain ⟨g0, g1, g2, g3, g4, g5, f0, f1, f2, f3, f4, f5⟩ := (show Laid6 (w2.alloc (.cells #[.string ⟨#[]⟩, .string ⟨#[]⟩, .slice none 0 0, .bool false, .slice none 0 0, .slice none 0 0] 51)).drew w2.heap.size from laid6_at w2 51).below (by simp) hb
                   have hz3 : w2.heap.size < w3.heap.size := by have := hb.size; simp at this; omega
                   have HB4 := Lib.hid (bnext HB.out HB3.out)
                   have hz4 := HB4.out.size
                   clear hb)) | fail
            all_goals
              go_wp2_with fail
              go_roundw
              case rel =>
                refine ⟨k + 1, by omega, by go_num, HN2, Lib.hid ?_⟩
                have B := HB4.out
                clear HB4
                repeat (first | with_reducible exact B | with_reducible refine bal_ ?_ (by omega) | with_reducible refine bput_ ?_ (by omega))
              case measure => first | (simp [intOf]; omega) | simp [intOf]
        · have HV := Lib.hid (HFa.out (by rw [memF_cls h0]; exact h0))
          rw [memF_cls h0] at HV
          have hne : ((classF x : Int) != 0) = true := by rw [bne_iff_ne]; omega
          clear HFa HNx h0 HCt hcut
          generalize classF x = ff at *
          replace HCl := Lib.hid HCl
          go_wp2_with (first
            | (go_at_call 26; (with_reducible refine HCl.out.mono ?_); rintro e w2 ⟨rfl, hb⟩
               have HB2 := Lib.hid (bnext HB.out hb)
               clear hb))
          go_ret
          exact ⟨ret_int (by rw [HV.out]), HB2.out⟩
      · obtain rfl : k = n := by omega
        have HM0 := Lib.hid (HT.out.all HL.out)
        clear HT
        go_wp2_with fail
        go_loopw [7, 8] (fun i _ wr => ∃ a : Nat, a ≤ k ∧ i = .int .i64 a ∧ Hid (CleanTo (fun _ c => linkF l c) l a) ∧ Hid (Below w.heap.size w wr)) (fun i _ _ => k - (intOf i).toNat)
        case atStart => exact ⟨0, Nat.zero_le _, rfl, Lib.hid (CleanTo.start _ _), HB⟩
        case round =>
          obtain ⟨a, ha, rfl, HT, HB⟩ := hrel
          by_cases hlt : a < k
          · obtain ⟨b1, o1, rfl, hb1, hx1⟩ := SRow.at_ (ClassRow.below HR.out HB.out) hlt
            have hk1 : a < l.length := by rw [HL.out]; exact hlt
            have hf8 := (faces_nodup (mem_class HM0.out hk1).1).2
            have HFa := Lib.hid (show linkF l l[a] ≠ 0 → q = linkF l l[a] from fun h => by
              have e := HT.out.fault hk1 h
              have h' : firstAt (fun _ c => linkF l c) l ≠ 0 := by rw [e]; exact h
              exact (worldIs_one HQ.out (.inr (.inr (.inl ⟨by rw [HL.out]; exact h10', HM0.out, h', rfl⟩)))).trans e)
            have HNx := Lib.hid (show linkF l l[a] = 0 → _ from fun h => HT.out.next hk1 h)
            generalize l[a] = x at *
            obtain ⟨c0, c1, ⟨A1, i1, j1, c2, R1, N1⟩, c3, ⟨A2, i2, j2, c4, R2, N2⟩, ⟨A3, i3, j3, c5, R3, N3⟩⟩ := hx1
            have HJ := rjoined_any l x (some ⟨b1, o1, none⟩) k c A1 i1 j1 A2 i2 j2 A3 i3 j3 _ (ClassRow.below HR.out HB.out) hn R1 N1 (by omega)
            clear R1 R2 R3 N1 N2 N3
            by_cases h0 : linkF l x = 0
            · rw [h0] at HJ
              replace HJ := Lib.hid HJ
              have HN2 := Lib.hid (HNx.out h0)
              clear HFa HNx h0
              go_wp2_with (first
                | (go_at_call 27; (with_reducible refine HJ.out.mono ?_); rintro e w2 ⟨rfl, hb⟩
                   have HB2 := Lib.hid (bnext HB.out hb)
                   clear hb))
              go_roundw
              case rel => exact ⟨a + 1, by omega, by go_num, HN2, HB2⟩
              case measure => first | (simp [intOf]; omega) | simp [intOf]
            · have HV := Lib.hid (HFa.out h0)
              have hne : ((linkF l x : Int) != 0) = true := by rw [bne_iff_ne]; omega
              clear HFa HNx h0
              generalize linkF l x = ff at *
              replace HJ := Lib.hid HJ
              go_wp2_with (first
                | (go_at_call 27; (with_reducible refine HJ.out.mono ?_); rintro e w2 ⟨rfl, hb⟩
                   have HB2 := Lib.hid (bnext HB.out hb)
                   clear hb))
              go_ret
              exact ⟨ret_int (by rw [HV.out]), HB2.out⟩
          · obtain rfl : a = k := by omega
            have HJ := Lib.hid (show Joined l from ⟨by rw [HL.out]; exact h10', HM0.out, HT.out.all HL.out⟩)
            clear HT
            have HUp := Lib.hid (fun z W R => rupward_any l HJ.out z A a c W R hn)
            go_wp2_with fail
            go_loopw [9] (fun i wr => ∃ d : Nat, d ≤ a ∧ i = .int .i64 d ∧ Hid (∀ x ∈ l.take d, ¬ Up l x.nm x.nm) ∧ Hid (Below w.heap.size w wr)) (fun i _ => a - (intOf i).toNat)
            case atStart => exact ⟨0, Nat.zero_le _, rfl, Lib.hid (fun x hx => by cases hx), HB⟩
            case round =>
              obtain ⟨d, hd, rfl, HT, HB⟩ := hrel
              by_cases hlt : d < a
              · obtain ⟨b1, o1, rfl, hb1, hx1⟩ := SRow.at_ (ClassRow.below HR.out HB.out) hlt
                have hk1 : d < l.length := by rw [HL.out]; exact hlt
                have HFa := Lib.hid (show Up l l[d].nm l[d].nm → q = 6 from fun h => worldIs_one HQ.out (.inr (.inr (.inr (.inl ⟨HJ.out, ⟨_, List.getElem_mem hk1, h⟩, rfl⟩)))))
                have HNx := Lib.hid (show ¬ Up l l[d].nm l[d].nm → ∀ x ∈ l.take (d + 1), ¬ Up l x.nm x.nm from fun h x hx => by
                  rw [List.take_succ_eq_append_getElem hk1] at hx
                  rcases List.mem_append.1 hx with hx | hx
                  · exact HT.out x hx
                  · obtain rfl := List.mem_singleton.1 hx; exact h)
                generalize l[d] = x at *
                obtain ⟨c0, _⟩ := hx1
                have HUx := Lib.hid (HUp.out x.nm wr.drew (ClassRow.below HR.out HB.out.drew))
                by_cases hUp : Up l x.nm x.nm
                · have HV := Lib.hid (HFa.out hUp)
                  have HP := Lib.hid hUp
                  clear HFa HNx hUp
                  go_wp2_with fail
                  first | go_region_held (fun w' => w'.cell? ⟨b1, o1 + d * 6, none⟩ = some (.string (bs x.nm))) (first | exact c0 | exact e0)
                    (first
                      | (go_at_call 29; (with_reducible refine HUx.out.mono ?_); rintro e w2 ⟨out, hnd, hiff, h12, v2, rfl, hv, hb⟩
                         obtain ⟨M, d2, rfl⟩ := hv.form
                         have hany : out.any (· == x.nm) = true := any_mem.2 ((hiff _).2 HP.out)
                         have h := rin_any M out.length d2 out x.nm w2 hv.row (by omega)
                         rw [hany] at h
                         have HIn := Lib.hid h
                         have HB2 := Lib.hid (bnext HB.out (behind_drew1 hb))
                         have e0 := (Below.cell (behind_drew1 hb) (p := ⟨b1, o1 + d * 6, none⟩) hb1).trans c0
                         clear h hany hv hb hiff hnd)
                      | (go_at_call 28; (with_reducible refine HIn.out.mono ?_); rintro e w3 ⟨rfl, rfl⟩)) | fail
                  all_goals
                    go_wp2_with fail
                    go_ret
                    exact ⟨ret_int (by rw [HV.out]; rfl), HB2.out⟩
                · have HN2 := Lib.hid (HNx.out hUp)
                  have HP := Lib.hid hUp
                  clear HFa HNx hUp
                  go_wp2_with fail
                  first | go_region_held (fun w' => w'.cell? ⟨b1, o1 + d * 6, none⟩ = some (.string (bs x.nm))) (first | exact c0 | exact e0)
                    (first
                      | (go_at_call 29; (with_reducible refine HUx.out.mono ?_); rintro e w2 ⟨out, hnd, hiff, h12, v2, rfl, hv, hb⟩
                         obtain ⟨M, d2, rfl⟩ := hv.form
                         have hany : out.any (· == x.nm) = false := any_not.2 (fun h => HP.out ((hiff _).1 h))
                         have h := rin_any M out.length d2 out x.nm w2 hv.row (by omega)
                         rw [hany] at h
                         have HIn := Lib.hid h
                         have HB2 := Lib.hid (bnext HB.out (behind_drew1 hb))
                         have e0 := (Below.cell (behind_drew1 hb) (p := ⟨b1, o1 + d * 6, none⟩) hb1).trans c0
                         clear h hany hv hb hiff hnd)
                      | (go_at_call 28; (with_reducible refine HIn.out.mono ?_); rintro e w3 ⟨rfl, rfl⟩)) | fail
                  all_goals
                    go_wp2_with fail
                    go_roundw
                    case rel => exact ⟨d + 1, by omega, by go_num, HN2, HB2⟩
                    case measure => first | (simp [intOf]; omega) | simp [intOf]
              · obtain rfl : d = a := by omega
                have HV := Lib.hid (show q = 0 from worldIs_one HQ.out (.inr (.inr (.inr (.inr ⟨HJ.out, fun ⟨x, hx, h⟩ => HT.out x (by rw [List.take_of_length_le (by rw [HL.out]; exact Nat.le_refl _)]; exact hx) h, rfl⟩)))))
                go_wp2_with fail
                go_ret
                exact ⟨ret_int (by rw [HV.out]; rfl), HB.out⟩
end Go.Proofs.YtkolpbjpgobkcaaGreatDoor
