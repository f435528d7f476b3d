/- The reference's joinedFault. -/
import Derived.Test.YtdpkjmdmmhnfnaaGreatDoorWoA
import Derived.Test.YtdpkjmdmmhnfnaaGreatDoorClF
namespace Go.Proofs.YtdpkjmdmmhnfnaaGreatDoor
open Go.ChangeShapes Go.WideShapes Go.ChangeAt Go.RowKit
set_option linter.unusedVariables false

/-- A new block of one text, as a row of the call's own. -/
theorem own_lit (w : World) (base : Nat) (x : List UInt8) (hb : base ≤ w.heap.size) : Own (w.alloc (.cells #[.string (bs x)] 9)) base (.slice (some ⟨w.heap.size, 0, none⟩) 1 1) [x] :=
  ⟨rfl, .inr ⟨w.heap.size, 1, #[.string (bs x)], rfl, hb, heap_alloc_new w _, Nat.le_refl _, by unfold maxLen; omega, rfl, rfl⟩⟩
theorem own_lit2 (w : World) (o : Obj) (base : Nat) (x : List UInt8) (hb : base ≤ w.heap.size) : Own ((w.alloc o).alloc (.cells #[.string (bs x)] 9)) base (.slice (some ⟨w.heap.size + 1, 0, none⟩) 1 1) [x] := by
  have := own_lit (w.alloc o) base x (by simp; omega)
  rwa [show (w.alloc o).heap.size = w.heap.size + 1 by simp] at this
section
variable {l : List ClassD} {c : ClassD}
theorem linkF_bare (h : c.su = []) : linkF l c = 1 := by unfold linkF; rw [if_pos h]
theorem linkF_none (h : c.su ≠ []) {k : Nat} (hk : k < (c.su :: c.faces).length) (h1 : knownB l (c.su :: c.faces)[k] = false) : linkF l c = 3 := by
  unfold linkF
  rw [if_neg h, if_pos]
  rw [List.all_eq_false]
  exact ⟨_, List.getElem_mem hk, by rw [h1]; simp⟩
theorem linkF_type (h : c.su ≠ []) (h0 : ∀ x ∈ c.su :: c.faces, knownB l x = true) {k : Nat} (hk : k < (c.su :: c.faces).length) (h1 : faceB l (c.su :: c.faces)[k] ≠ decide (0 < k)) : linkF l c = 7 := by
  unfold linkF
  rw [if_neg h, if_neg (by rw [List.all_eq_true.2 h0]; simp), if_pos]
  cases k with
  | zero =>
    have : faceB l c.su = true := by simpa using h1
    rw [this, Bool.true_or]
  | succ k =>
    have h2 : faceB l (c.faces[k]'(by simpa using hk)) = false := by simpa using h1
    rw [Bool.or_eq_true]
    exact .inr (List.any_eq_true.2 ⟨_, List.getElem_mem _, by rw [h2]; rfl⟩)
theorem linkF_end (h : c.su ≠ []) (h0 : ∀ x ∈ c.su :: c.faces, knownB l x = true) (h1 : ∀ (k : Nat) (hk : k < (c.su :: c.faces).length), faceB l (c.su :: c.faces)[k] = decide (0 < k)) : linkF l c = if (c.face && c.su != objB) = true then 7 else 0 := by
  unfold linkF
  rw [if_neg h, if_neg (by rw [List.all_eq_true.2 h0]; simp), if_neg]
  have h2 : faceB l c.su = false := by have := h1 0 (by simp); simpa using this
  rw [h2, Bool.false_or, Bool.not_eq_true, List.any_eq_false]
  intro x hx
  obtain ⟨k, hk, rfl⟩ := List.getElem_of_mem hx
  have := h1 (k + 1) (by simpa using hk)
  simp only [List.getElem_cons_succ] at this
  rw [this]
  simp
end

set_option maxRecDepth 20000 in
set_option maxHeartbeats 8000000 in
theorem rjoined_any (l : List ClassD) (x : ClassD) (A : Option Addr) (n c : Nat) (A1 : Option Addr) (i1 j1 : Nat) (A2 : Option Addr) (i2 j2 : Nat) (A3 : Option Addr) (i3 j3 : Nat) (w : World) (R : ClassRow w A n c l) (hn : n ≤ 140737488351232) (RF : StrRow w A1 i1 j1 x.faces) (NF : A1 = none → i1 = 0 ∧ j1 = 0) (hf : x.faces.length ≤ 1000) :
    Calls Tryz.prog 39 #[.slice A n c, .agg #[.string (bs x.nm), .string (bs x.su), .slice A1 i1 j1, .bool x.face, .slice A2 i2 j2, .slice A3 i3 j3]] w fun e w' => e = .returned (.int .i64 (linkF l x : Int)) ∧ Below w.heap.size w w' := by
  have HCo := Lib.hid (fun z W R => rclassOf_any l z A n c W R hn)
  have hl1 : x.faces.length = i1 := RF.1
  have HB0 := Lib.hid (al1 w (.cells #[.string (bs x.nm), .string (bs x.su), .slice A1 i1 j1, .bool x.face, .slice A2 i2 j2, .slice A3 i3 j3] 48))
  have HR := Lib.hid R
  have HRF := Lib.hid (RF.below HB0.out)
  have HX2 := Lib.hid (World.cell?_alloc_mark w #[.string (bs x.nm), .string (bs x.su), .slice A1 i1 j1, .bool x.face, .slice A2 i2 j2, .slice A3 i3 j3] 48 (0, 0))
  replace NF := Lib.hid NF
  clear R RF
  by_cases hs : x.su = []
  · have he := emptyB_yes hs
    have HV := Lib.hid (linkF_bare (l := l) hs)
    clear hs
    go_enter Tryz.func39, Tryz.ntmps39
    go_wp2_with fail
    go_ret
    exact ⟨ret_int (by rw [HV.out]; rfl), HB0.out⟩
  · have he := emptyB_no hs
    have HS := Lib.hid hs
    clear hs
    go_enter Tryz.func39, Tryz.ntmps39
    go_wp2_with (first
      | (at_builtin; refine wpList_strs rfl _ _ rfl w.heap.size (.slice (some ⟨w.heap.size + 1, 0, none⟩) 1 1) [x.su] rfl (own_lit2 w _ w.heap.size x.su (Nat.le_refl _)) A1 i1 j1 x.faces rfl (HRF.out.below (al1 _ _)) NF.out (by simp; omega) (by simp; omega) ?_
         intro v1 w1 hv1 hb1 hg1 _
         obtain ⟨B, d, rfl⟩ := hv1.form
         have ho1 : StrRow w1 B ([x.su] ++ x.faces).length d (x.su :: x.faces) := hv1.row
         have HE1 := Lib.hid (hg1.cell (((al1 (w.alloc (.cells #[.string (bs x.nm), .string (bs x.su), .slice A1 i1 j1, .bool x.face, .slice A2 i2 j2, .slice A3 i3 j3] 48)) (.cells #[.string (bs x.su)] 9)).cell (p := ⟨w.heap.size, 1, none⟩) (by simp)).trans (HX2.out 1)) (by simp [Value.ownBlock]))
         have HE3 := Lib.hid (hg1.cell (((al1 (w.alloc (.cells #[.string (bs x.nm), .string (bs x.su), .slice A1 i1 j1, .bool x.face, .slice A2 i2 j2, .slice A3 i3 j3] 48)) (.cells #[.string (bs x.su)] 9)).cell (p := ⟨w.heap.size, 3, none⟩) (by simp)).trans (HX2.out 3)) (by simp [Value.ownBlock]))
         have hz1 : w.heap.size < w1.heap.size := by have := hg1.size; simp at this; omega
         have HB1 := Lib.hid ((HB0.out.alloc (by simp) (.cells #[.string (bs x.su)] 9)).trans hb1)
         generalize hN : ([x.su] ++ x.faces).length = N at *
         have HO1 := Lib.hid ho1
         have hN2 : (x.su :: x.faces).length = N := hN
         clear hv1 hb1 hg1 ho1 hN))
    have HN := Lib.hid hN2
    have hN3 : N ≤ 1001 := by simp at hN2; omega
    have HR1 := Lib.hid (ClassRow.below HR.out HB1.out)
    clear hN2
    go_loopw [6, 7, 8] (fun i _ _ wr => ∃ k : Nat, k ≤ N ∧ i = .int .i64 k ∧ Hid (∀ (t : Nat) (ht : t < (x.su :: x.faces).length), t < k → knownB l (x.su :: x.faces)[t] = true) ∧ Hid (Below w1.heap.size w1 wr)) (fun i _ _ _ => N - (intOf i).toNat)
    case atStart => exact ⟨0, Nat.zero_le _, rfl, Lib.hid (fun t ht h => by omega), Lib.hid (Below.refl _ _)⟩
    case round =>
      obtain ⟨k, hk, rfl, HT, HB⟩ := hrel
      by_cases hlt : k < N
      · obtain ⟨b1, o1, rfl, hb1, hx1⟩ := SRow.at_ (HO1.out.below HB.out) hlt
        rw [Nat.mul_one] at hx1
        unfold StrAt at hx1
        have hk1 : k < (x.su :: x.faces).length := by rw [HN.out]; exact hlt
        have HC := Lib.hid (HCo.out (x.su :: x.faces)[k] wr (ClassRow.below HR1.out HB.out))
        have HF := Lib.hid (fun h => linkF_none (l := l) HS.out hk1 h)
        have HNx := Lib.hid (show knownB l (x.su :: x.faces)[k] = true → ∀ (t : Nat) (ht : t < (x.su :: x.faces).length), t < k + 1 → knownB l (x.su :: x.faces)[t] = true from fun h t ht htk => by
          by_cases e : t = k
          · subst e; exact h
          · exact HT.out t ht (by omega))
        generalize (x.su :: x.faces)[k] = z at *
        cases hkn : knownB l z with
        | false =>
          have HV := Lib.hid (HF.out hkn)
          clear HF HNx
          go_wp2_with (first
            | (go_at_call 28; (with_reducible refine HC.out.mono ?_); rintro e w2 ⟨v2, rfl, hh, hb⟩
               obtain ⟨A4, i4, j4, A5, i5, j5, A6, i6, j6, rfl, _⟩ := hh
               have HB2 := Lib.hid (bnext HB.out hb)
               clear hb))
          go_ret
          exact ⟨ret_int (by rw [HV.out]; rfl), HB1.out.trans (HB2.out.mono (Nat.le_of_lt hz1) |>.alloc (Nat.le_trans (Nat.le_of_lt hz1) HB2.out.size) _)⟩
        | true =>
          have HT2 := Lib.hid (HNx.out hkn)
          clear HF HNx
          go_wp2_with (first
            | (go_at_call 28; (with_reducible refine HC.out.mono ?_); rintro e w2 ⟨v2, rfl, hh, hb⟩
               obtain ⟨A4, i4, j4, A5, i5, j5, A6, i6, j6, rfl, _⟩ := hh
               have HB2 := Lib.hid ((bnext HB.out hb).alloc (Nat.le_trans HB.out.size hb.size) (.cells #[.string (bs (classD l z).nm), .string (bs (classD l z).su), .slice A4 i4 j4, .bool (classD l z).face, .slice A5 i5 j5, .slice A6 i6 j6] 48))
               clear hb))
          go_roundw
          case rel => exact ⟨k + 1, by omega, by go_num, HT2, HB2⟩
          case measure => first | (simp [intOf]; omega) | simp [intOf]
      · obtain rfl : k = N := by omega
        have HK := Lib.hid (show ∀ z ∈ x.su :: x.faces, knownB l z = true from fun z hz => by
          obtain ⟨t, ht, rfl⟩ := List.getElem_of_mem hz
          exact HT.out t ht (by rw [← HN.out]; exact ht))
        clear HT
        go_wp2_with fail
        go_loopw [9, 10, 11] (fun i _ _ wq => ∃ a : Nat, a ≤ k ∧ i = .int .i64 a ∧ Hid (∀ (t : Nat) (ht : t < (x.su :: x.faces).length), t < a → faceB l (x.su :: x.faces)[t] = decide (0 < t)) ∧ Hid (Below w1.heap.size w1 wq)) (fun i _ _ _ => k - (intOf i).toNat)
        case atStart => exact ⟨0, Nat.zero_le _, rfl, Lib.hid (fun t ht h => by omega), HB⟩
        case round =>
          obtain ⟨a, ha, rfl, HT, HB⟩ := hrel
          by_cases hlt : a < k
          · obtain ⟨b1, o1, rfl, hb1, hx1⟩ := SRow.at_ (HO1.out.below HB.out) hlt
            rw [Nat.mul_one] at hx1
            unfold StrAt at hx1
            have hk1 : a < (x.su :: x.faces).length := by rw [HN.out]; exact hlt
            have HC := Lib.hid (HCo.out (x.su :: x.faces)[a] _ (ClassRow.below HR1.out HB.out))
            have HF := Lib.hid (fun h => linkF_type (l := l) HS.out HK.out hk1 h)
            have HNx := Lib.hid (show faceB l (x.su :: x.faces)[a] = decide (0 < a) → ∀ (t : Nat) (ht : t < (x.su :: x.faces).length), t < a + 1 → faceB l (x.su :: x.faces)[t] = decide (0 < t) from fun h t ht htk => by
              by_cases e : t = a
              · subst e; exact h
              · exact HT.out t ht (by omega))
            generalize (x.su :: x.faces)[a] = z at *
            rw [faceB_D] at HF HNx
            by_cases hgo : (classD l z).face = decide (0 < a)
            · have HT2 := Lib.hid (HNx.out hgo)
              clear HF HNx HT
              have ha0 : (¬ 0 < a ∧ decide ((0 : Int) < (a : Int)) = false ∧ (classD l z).face = false) ∨ (0 < a ∧ decide ((0 : Int) < (a : Int)) = true ∧ (classD l z).face = true) := by
                rcases Nat.eq_zero_or_pos a with h | h
                · exact .inl ⟨by omega, by simp [h], by rw [hgo, h]; rfl⟩
                · exact .inr ⟨h, by simpa using h, by rw [hgo]; simpa using h⟩
              clear hgo
              rcases ha0 with ⟨hp0, ha0, hfc⟩ | ⟨hp0, ha0, hfc⟩
              all_goals
                go_wp2_with (first
                  | (go_at_call 28; (with_reducible refine HC.out.mono ?_); rintro e w2 ⟨v2, rfl, hh, hb⟩
                     obtain ⟨A4, i4, j4, A5, i5, j5, A6, i6, j6, rfl, _⟩ := hh
                     rw [hfc]
                     have HB2 := Lib.hid ((bnext HB.out hb).alloc (Nat.le_trans HB.out.size hb.size) (.cells #[.string (bs (classD l z).nm), .string (bs (classD l z).su), .slice A4 i4 j4, .bool (classD l z).face, .slice A5 i5 j5, .slice A6 i6 j6] 48))
                     rw [hfc] at HB2
                     clear hb))
                go_roundw
                case rel => exact ⟨a + 1, by omega, by go_num, HT2, HB2⟩
                case measure => first | (simp [intOf]; omega) | simp [intOf]
            · have HV := Lib.hid (HF.out hgo)
              clear HF HNx HT
              have ha0 : (¬ 0 < a ∧ decide ((0 : Int) < (a : Int)) = false ∧ (classD l z).face = true) ∨ (0 < a ∧ decide ((0 : Int) < (a : Int)) = true ∧ (classD l z).face = false) := by
                rcases Nat.eq_zero_or_pos a with h | h
                · subst h
                  exact .inl ⟨by omega, by simp, by simpa using hgo⟩
                · exact .inr ⟨h, by simpa using h, by simpa [h] using hgo⟩
              clear hgo
              rcases ha0 with ⟨hp0, ha0, hfc⟩ | ⟨hp0, ha0, hfc⟩
              all_goals
                go_wp2_with (first
                  | (go_at_call 28; (with_reducible refine HC.out.mono ?_); rintro e w2 ⟨v2, rfl, hh, hb⟩
                     obtain ⟨A4, i4, j4, A5, i5, j5, A6, i6, j6, rfl, _⟩ := hh
                     rw [hfc]
                     have HB2 := Lib.hid ((bnext HB.out hb).alloc (Nat.le_trans HB.out.size hb.size) (.cells #[.string (bs (classD l z).nm), .string (bs (classD l z).su), .slice A4 i4 j4, .bool (classD l z).face, .slice A5 i5 j5, .slice A6 i6 j6] 48))
                     rw [hfc] at HB2
                     clear hb))
                go_ret
                exact ⟨ret_int (by rw [HV.out]; rfl), HB1.out.trans (HB2.out.mono (Nat.le_of_lt hz1))⟩
          · obtain rfl : a = k := by omega
            have HV := Lib.hid (linkF_end HS.out HK.out (fun t ht => HT.out t ht (by rw [← HN.out]; exact ht)))
            have c1 := (HB.out.cell (p := ⟨w.heap.size, 1, none⟩) hz1).trans HE1.out
            have c3 := (HB.out.cell (p := ⟨w.heap.size, 3, none⟩) hz1).trans HE3.out
            have HW := Lib.hid (HB1.out.trans (HB.out.mono (Nat.le_of_lt hz1)))
            have hcase : (x.face = false ∧ Hid (linkF l x = 0)) ∨ (x.face = true ∧ ((bs x.su).toList == [79, 98, 106, 101, 99, 116]) = true ∧ Hid (linkF l x = 0)) ∨ (x.face = true ∧ ((bs x.su).toList == [79, 98, 106, 101, 99, 116]) = false ∧ Hid (linkF l x = 7)) := by
              have e := HV.out
              cases hfc : x.face with
              | false => rw [hfc] at e; exact .inl ⟨rfl, Lib.hid (by simpa using e)⟩
              | true =>
                rw [hfc] at e
                by_cases ho : x.su = objB
                · exact .inr (.inl ⟨rfl, lst_yes ho, Lib.hid (by simpa [ho] using e)⟩)
                · exact .inr (.inr ⟨rfl, lst_no ho, Lib.hid (by simpa [ho] using e)⟩)
            clear HV
            rcases hcase with ⟨hfc, HV⟩ | ⟨hfc, e1, HV⟩ | ⟨hfc, e1, HV⟩
            all_goals
              rw [hfc] at c3
              go_wp2_with fail
              go_ret
              exact ⟨ret_int (by rw [HV.out]; rfl), HW.out⟩
end Go.Proofs.YtdpkjmdmmhnfnaaGreatDoor
