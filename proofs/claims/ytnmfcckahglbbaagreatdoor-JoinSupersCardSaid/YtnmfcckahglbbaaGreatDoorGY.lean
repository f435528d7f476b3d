/- Which kinds fit which: on data. No program. The reference's ClassIn, KindFault, KindsFault. -/
import Derived.Test.YtnmfcckahglbbaaGreatDoorKiM
import Derived.Test.YtnmfcckahglbbaaGreatDoorWoN
import Derived.Test.YtnmfcckahglbbaaGreatDoorGW
import Derived.Test.YtnmfcckahglbbaaGreatDoorInR
namespace Go.Proofs.YtnmfcckahglbbaaGreatDoor
open Go.RowKit
set_option linter.unusedVariables false

/-- A value of the first kind can be used as the second. -/
def FitsD (w : List ClassD) : KindD → KindD → Prop
  | _, .top => True
  | .top, _ => False
  | .nul, .nul => True
  | .nul, k => k.isRef = true
  | _, .nul => False
  | .word d c, .word e b => d = e ∧ c = b
  | .word d c, .cls e n => n = objB ∧ e < d
  | .cls _ _, .word _ _ => False
  | .cls d m, .cls e n => (d = e ∧ (m = n ∨ n = objB ∨ Up w m n)) ∨ (e < d ∧ n = objB)
theorem FitsD.refl (w : List ClassD) (k : KindD) : FitsD w k k := by
  cases k with
  | nul => exact trivial
  | top => exact trivial
  | word d c => exact ⟨rfl, rfl⟩
  | cls d n => exact .inl ⟨rfl, .inl rfl⟩
theorem obj_up {w : List ClassD} {x : List UInt8} : ¬ Up w objB x := fun h => h.within (s := fun _ => False) (fun z hz => by rw [upsOf_some classOf_obj] at hz; cases hz) (fun _ h => h.elim)
theorem FitsD.trans {w : List ClassD} {a b c : KindD} (h : FitsD w a b) (k : FitsD w b c) : FitsD w a c := by
  cases c with
  | top => cases a <;> exact trivial
  | nul =>
    cases b with
    | top => exact k.elim
    | nul => exact h
    | word d c => exact k.elim
    | cls d n => exact k.elim
  | word e z =>
    cases b with
    | top => exact k.elim
    | nul =>
      cases a with
      | nul => exact k
      | top => exact h.elim
      | word d c => exact h.elim
      | cls d n => exact h.elim
    | word f y => obtain ⟨rfl, rfl⟩ := k; exact h
    | cls d n => exact k.elim
  | cls e z =>
    cases b with
    | top => exact k.elim
    | nul =>
      cases a with
      | nul => exact k
      | top => exact h.elim
      | word d c => exact h.elim
      | cls d n => exact h.elim
    | word f y =>
      cases a with
      | nul => exact rfl
      | top => exact h.elim
      | word d c => obtain ⟨rfl, rfl⟩ := h; exact k
      | cls d n => exact h.elim
    | cls f y =>
      cases a with
      | nul => exact rfl
      | top => exact h.elim
      | word d c =>
        obtain ⟨rfl, hf⟩ := h
        rcases k with ⟨rfl, rfl | rfl | hu⟩ | ⟨he, rfl⟩
        · exact ⟨rfl, hf⟩
        · exact ⟨rfl, hf⟩
        · exact absurd hu obj_up
        · exact ⟨rfl, by omega⟩
      | cls d m =>
        rcases h with ⟨rfl, hm⟩ | ⟨hf, rfl⟩
        · rcases k with ⟨rfl, hk⟩ | ⟨he, rfl⟩
          · refine .inl ⟨rfl, ?_⟩
            rcases hm with rfl | rfl | hm
            · exact hk
            · rcases hk with rfl | rfl | hu
              · exact .inr (.inl rfl)
              · exact .inr (.inl rfl)
              · exact absurd hu obj_up
            · rcases hk with rfl | rfl | hu
              · exact .inr (.inr hm)
              · exact .inr (.inl rfl)
              · exact .inr (.inr (hm.trans hu))
          · exact .inr ⟨he, rfl⟩
        · rcases k with ⟨rfl, rfl | rfl | hu⟩ | ⟨he, rfl⟩
          · exact .inr ⟨hf, rfl⟩
          · exact .inr ⟨hf, rfl⟩
          · exact absurd hu obj_up
          · exact .inr ⟨by omega, rfl⟩
theorem FitsD.anti {w : List ClassD} (hV : Valid w) {a b : KindD} (h : FitsD w a b) (k : FitsD w b a) : a = b := by
  cases a with
  | nul =>
    cases b with
    | nul => rfl
    | top => exact k.elim
    | word d c => exact k.elim
    | cls d n => exact k.elim
  | top =>
    cases b with
    | nul => exact h.elim
    | top => rfl
    | word d c => exact h.elim
    | cls d n => exact h.elim
  | word d c =>
    cases b with
    | nul => exact h.elim
    | top => exact k.elim
    | word e z => obtain ⟨rfl, rfl⟩ := h; rfl
    | cls e n => exact k.elim
  | cls d m =>
    cases b with
    | nul => exact h.elim
    | top => exact k.elim
    | word e z => exact h.elim
    | cls e n =>
      rcases h with ⟨rfl, h⟩ | ⟨he, rfl⟩
      · rcases k with ⟨_, k⟩ | ⟨he, _⟩
        · rcases h with rfl | rfl | h
          · rfl
          · rcases k with rfl | rfl | k
            · rfl
            · rfl
            · exact absurd k obj_up
          · rcases k with rfl | rfl | k
            · rfl
            · exact absurd h obj_up
            · exact absurd (h.trans k) (hV.no_loop _)
        · omega
      · rcases k with ⟨rfl, _⟩ | ⟨he', _⟩ <;> omega
end Go.Proofs.YtnmfcckahglbbaaGreatDoor
namespace Go.Proofs.YtnmfcckahglbbaaGreatDoor
open Go.ChangeShapes Go.WideShapes Go.ChangeAt Go.RowKit
set_option linter.unusedVariables false

theorem brks_len (d : Nat) : (brksL d).length = d := by simp [brksL]
theorem text_brk {k : KindD} (hk : k.ok) (ht : k.isType = true) : ∃ d c r, k.text = brksL d ++ c :: r ∧ c ≠ 91 ∧ brk k.text = d := by
  cases k with
  | nul => cases ht
  | top => cases ht
  | word d c =>
    have hc : c ≠ 91 := by rcases hk.2 with rfl | rfl <;> decide
    exact ⟨d, c, [], rfl, hc, brk_word hc []⟩
  | cls d n => exact ⟨d, 76, n ++ [59], rfl, by decide, brk_word (by decide) _⟩
theorem byte_at {l : List UInt8} {j : Nat} {c : UInt8} (h : l[j]? = some c) : ∃ hj : j < (bs l).size, (bs l)[j] = c := by
  obtain ⟨h1, h2⟩ := List.getElem?_eq_some_iff.1 h
  refine ⟨by rw [bs_size]; exact h1, ?_⟩
  show (bs l).data[j] = c
  unfold bs
  simpa using h2
theorem at_yes {l : List UInt8} {j : Nat} {c : UInt8} {v : Int} (h : l[j]? = some c) (hv : (c.toNat : Int) = v) : ∃ hj : j < (bs l).size, (((bs l)[j].toNat : Int) == v) = true := by
  obtain ⟨h1, h2⟩ := byte_at h
  exact ⟨h1, by rw [h2, hv]; simp⟩
theorem at_no {l : List UInt8} {j : Nat} {c : UInt8} {v : Int} (h : l[j]? = some c) (hv : (c.toNat : Int) ≠ v) : ∃ hj : j < (bs l).size, (((bs l)[j].toNat : Int) == v) = false := by
  obtain ⟨h1, h2⟩ := byte_at h
  exact ⟨h1, by rw [h2, beq_eq_false_iff_ne]; exact hv⟩
theorem brks_at {d j : Nat} (h : j < d) (r : List UInt8) : (brksL d ++ r)[j]? = some 91 := by
  rw [List.getElem?_append_left (by rw [brks_len]; exact h)]
  simp [brksL, h]
theorem brks_end (d : Nat) (c : UInt8) (r : List UInt8) : (brksL d ++ c :: r)[d]? = some c := by
  rw [List.getElem?_append_right (by rw [brks_len]; exact Nat.le_refl _), brks_len]
  simp
theorem ext_bs (l : List UInt8) (i j : Nat) : (bs l).extract i j = bs ((l.take j).drop i) := by
  refine bs_eq ?_
  simp [bs, List.drop_take]
set_option maxRecDepth 20000 in
set_option maxHeartbeats 4000000 in
theorem rclassIn_any (k : KindD) (hk : k.ok) (ht : k.isType = true) (w : World) : Calls Tryz.prog 17 #[.string (bs k.text)] w fun e w' => e = .returned (.string (bs k.name)) ∧ w = w' := by
  cases k with
  | nul => cases ht
  | top => cases ht
  | word d c =>
    have hc : c = 73 ∨ c = 74 := hk.2
    have hd3 : d ≤ 3 := hk.1
    show Calls _ _ #[.string (bs (brksL d ++ [c]))] _ _
    have hsz : (bs (brksL d ++ [c])).size = d + 1 := by rw [bs_size]; simp [brks_len]
    have HL := Lib.hid (fun j (h : j < d) => at_yes (v := 91) (brks_at h [c]) rfl)
    obtain ⟨h1, e1⟩ := at_no (v := 91) (brks_end d c []) (by rcases hc with rfl | rfl <;> decide)
    obtain ⟨_, e2⟩ := at_no (v := 76) (brks_end d c []) (by rcases hc with rfl | rfl <;> decide)
    generalize bs (brksL d ++ [c]) = s at *
    clear hc hk ht hsz
    go_enter Tryz.func17, Tryz.ntmps17
    go_wp2
    go_loop [3] (fun i => ∃ k : Nat, k ≤ d ∧ i = .int .i64 k) (fun i => d - (intOf i).toNat)
    case atStart => exact ⟨0, Nat.zero_le _, rfl⟩
    case round =>
      obtain ⟨k, hk, rfl⟩ := hrel
      by_cases hlt : k < d
      · obtain ⟨h3, h4⟩ := HL.out k hlt
        go_wp2
        go_round
        case rel => exact ⟨k + 1, by omega, by go_num⟩
        case measure => first | (simp [intOf]; omega) | simp [intOf]
      · obtain rfl : k = d := by omega
        go_wp2
        go_ret
        exact ⟨rfl, rfl⟩
  | cls d n =>
    have hd3 : d ≤ 3 := hk.1
    have hn20 := name_len hk.2
    show Calls _ _ #[.string (bs (brksL d ++ 76 :: (n ++ [59])))] _ _
    have hsz : (bs (brksL d ++ 76 :: (n ++ [59]))).size = d + (n.length + 2) := by rw [bs_size]; simp [brks_len]
    have HX := Lib.hid (show (bs (brksL d ++ 76 :: (n ++ [59]))).extract (d + 1) ((bs (brksL d ++ 76 :: (n ++ [59]))).size - 1) = bs n from by
      rw [ext_bs, hsz, show d + (n.length + 2) - 1 = d + n.length + 1 by omega]
      congr 1
      rw [show d + n.length + 1 = (brksL d).length + (n.length + 1) by rw [brks_len]; omega, List.take_append, List.take_of_length_le (by omega), show (brksL d).length + (n.length + 1) - (brksL d).length = n.length + 1 by omega]
      rw [List.take_succ_cons, List.take_left, show d + 1 = (brksL d ++ [76]).length by simp [brks_len], show brksL d ++ 76 :: n = (brksL d ++ [76]) ++ n by simp, List.drop_left])
    have HL := Lib.hid (fun j (h : j < d) => at_yes (v := 91) (brks_at h (76 :: (n ++ [59]))) rfl)
    obtain ⟨h1, e1⟩ := at_no (v := 91) (brks_end d 76 (n ++ [59])) (by decide)
    obtain ⟨_, e2⟩ := at_yes (v := 76) (brks_end d 76 (n ++ [59])) rfl
    generalize bs (brksL d ++ 76 :: (n ++ [59])) = s at *
    have h5 : d + 1 ≤ s.size - 1 := by omega
    have h6 : s.size ≤ 30 := by omega
    have h7 : 1 ≤ s.size := by omega
    have hwr : IntKind.i64.wrap ((s.size : Int) - 1) = ((s.size - 1 : Nat) : Int) := by rw [IntKind.wrap_i64]; omega
    clear hk ht hsz
    go_enter Tryz.func17, Tryz.ntmps17
    go_wp2
    go_loop [3] (fun i => ∃ k : Nat, k ≤ d ∧ i = .int .i64 k) (fun i => d - (intOf i).toNat)
    case atStart => exact ⟨0, Nat.zero_le _, rfl⟩
    case round =>
      obtain ⟨k, hk, rfl⟩ := hrel
      by_cases hlt : k < d
      · obtain ⟨h3, h4⟩ := HL.out k hlt
        go_wp2
        go_round
        case rel => exact ⟨k + 1, by omega, by go_num⟩
        case measure => first | (simp [intOf]; omega) | simp [intOf]
      · obtain rfl : k = d := by omega
        go_wp2
        go_ret
        exact ⟨by show _ = Ending.returned (.string (bs n)); rw [← HX.out]; rfl, rfl⟩

set_option maxRecDepth 20000 in
set_option maxHeartbeats 4000000 in
theorem rkindFault_any (l : List ClassD) (y : List UInt8) (A : Option Addr) (n c : Nat) (w : World) (R : ClassRow w A n c l) (hn : n ≤ 140737488351232) (hy : y.length ≤ 140737488351232) :
    Calls Tryz.prog 21 #[.slice A n c, .string (bs y)] w fun e w' => e = .returned (.int .i64 (kindE l y : Int)) ∧ Below w.heap.size w w' := by
  by_cases h1 : y = [78]
  · have e1 : ((bs y).toList == [78]) = true := lst_yes h1
    have HV := Lib.hid (show kindE l y = 0 by unfold kindE; rw [if_pos (.inl h1)])
    clear h1 R
    go_enter Tryz.func21, Tryz.ntmps21
    go_wp2
    go_ret
    exact ⟨ret_int (by rw [HV.out]; rfl), Below.refl _ _⟩
  have e1 : ((bs y).toList == [78]) = false := lst_no h1
  by_cases h2 : y = [84]
  · have e2 : ((bs y).toList == [84]) = true := lst_yes h2
    have HV := Lib.hid (show kindE l y = 0 by unfold kindE; rw [if_pos (.inr h2)])
    clear h1 h2 R
    go_enter Tryz.func21, Tryz.ntmps21
    go_wp2
    go_ret
    exact ⟨ret_int (by rw [HV.out]; rfl), Below.refl _ _⟩
  have e2 : ((bs y).toList == [84]) = false := lst_no h2
  have HT := fun w => isType_any (bs y) w (by rw [bs_size]; unfold maxLen; omega)
  simp only [bs_list] at HT
  cases ht : isTypeB y with
  | false =>
    rw [ht] at HT
    have HV := Lib.hid (show kindE l y = 1 by unfold kindE; rw [if_neg (fun h => h.elim h1 h2), if_pos ht])
    replace HT := Lib.hid HT
    clear h1 h2 ht R
    go_enter Tryz.func21, Tryz.ntmps21
    go_wp2_with (first
      | (go_at_call 35; (with_reducible refine (HT.out _).mono ?_); rintro e w1 ⟨rfl, rfl⟩))
    go_ret
    exact ⟨ret_int (by rw [HV.out]; rfl), Below.refl _ _⟩
  | true =>
    rw [ht] at HT
    replace HT := Lib.hid HT
    obtain ⟨k, hk, hkt, hky⟩ := type_is ht
    have HI := fun w => rclassIn_any k hk hkt w
    rw [hky] at HI
    have HV0 := kindE_text (w := l) hk
    rw [hky] at HV0
    have HC := Lib.hid (rclassOf_any l k.name A n c w R hn)
    obtain ⟨m, hm⟩ : ∃ m, m = k.name := ⟨_, rfl⟩
    rw [← hm] at HI HV0 HC
    replace HI := Lib.hid HI
    have hcase : (m = [] ∧ kindE l y = 0) ∨ (m ≠ [] ∧ knownB l m = true ∧ kindE l y = 0) ∨ (m ≠ [] ∧ knownB l m = false ∧ kindE l y = 3) := by
      by_cases h0 : m = []
      · exact .inl ⟨h0, by rw [HV0, if_neg (fun h => h.1 h0)]⟩
      · cases hb : knownB l m with
        | true => exact .inr (.inl ⟨h0, rfl, by rw [HV0, hb, if_neg (by simp)]⟩)
        | false => exact .inr (.inr ⟨h0, rfl, by rw [HV0, if_pos ⟨h0, hb⟩]⟩)
    clear h1 h2 ht R hk hkt hky hm HV0
    rcases hcase with ⟨h0, hv⟩ | ⟨h0, hb, hv⟩ | ⟨h0, hb, hv⟩
    all_goals
      first
      | have e3 := emptyB_no h0
      | have e3 := emptyB_yes h0
      have HV := Lib.hid hv
      clear h0 hv
      go_enter Tryz.func21, Tryz.ntmps21
      go_wp2_with (first
        | (go_at_call 35; (with_reducible refine (HT.out _).mono ?_); rintro e w1 ⟨rfl, rfl⟩)
        | (go_at_call 17; (with_reducible refine (HI.out _).mono ?_); rintro e w1 ⟨rfl, rfl⟩)
        | (go_at_call 16; (with_reducible refine HC.out.mono ?_); rintro e w2 ⟨v2, rfl, hh, hb2⟩
           obtain ⟨A4, i4, j4, A5, i5, j5, A6, i6, j6, rfl, _⟩ := hh
           have HB2 := Lib.hid hb2
           have hz := hb2.size
           clear hb2))
      go_ret
      exact ⟨ret_int (by rw [HV.out]; rfl), HB2.out.alloc hz _⟩
end Go.Proofs.YtnmfcckahglbbaaGreatDoor
