/- Package join says what it must. -/
import Derived.Test.YtnmfcckahglbbaaGreatDoorJoR
import Derived.Test.YtnmfcckahglbbaaGreatDoorKiP
import Derived.Deep.RegionHeld
namespace Go.Proofs.YtnmfcckahglbbaaGreatDoor
open Go.ChangeShapes Go.WideShapes Go.ChangeAt Go.RowKit
set_option linter.unusedVariables false
attribute [local go_sem] eqGuard_errV_nil eqGuard_errV_iface eql_errV_nil neq_errV_nil eql_errV_form

theorem jisRef_any {k : KindD} (hk : k.ok) (w : World) : Calls Tryz.prog 36 #[.string (bs k.text)] w fun e w' => e = .returned (.bool k.isRef) ∧ w = w' := by
  have HW := fun w => word_any (bs k.text) w (by rw [bs_size]; have := ktext_len hk; unfold maxLen; omega)
  simp only [bs_list] at HW
  have hR := ref_iff hk
  generalize k.isRef = v at *
  generalize k.text = t at *
  cases ht : isTypeB t with
  | true =>
    rw [typeF_yes ht] at HW
    rw [ht] at hR
    cases hz : refWordB t with
    | true =>
      rw [hz] at HW hR
      obtain rfl : v = false := hR.symm
      replace HW := Lib.hid HW
      clear hR ht hz
      go_enter Tryz.func36, Tryz.ntmps36
      go_wp2_with (go_at_call 57; (with_reducible refine (HW.out _).mono ?_); rintro e w1 ⟨rfl, rfl⟩)
      go_ret
      exact ⟨rfl, rfl⟩
    | false =>
      rw [hz] at HW hR
      obtain rfl : v = true := hR.symm
      replace HW := Lib.hid HW
      clear hR ht hz
      go_enter Tryz.func36, Tryz.ntmps36
      go_wp2_with (go_at_call 57; (with_reducible refine (HW.out _).mono ?_); rintro e w1 ⟨rfl, rfl⟩)
      go_ret
      exact ⟨rfl, rfl⟩
  | false =>
    rw [typeF_no ht, refWord_no ht] at HW
    rw [ht] at hR
    obtain rfl : v = false := hR.symm
    replace HW := Lib.hid HW
    clear hR ht
    go_enter Tryz.func36, Tryz.ntmps36
    go_wp2_with (go_at_call 57; (with_reducible refine (HW.out _).mono ?_); rintro e w1 ⟨rfl, rfl⟩)
    go_ret
    exact ⟨rfl, rfl⟩
theorem jisArray_any (y : List UInt8) (w : World) : Calls Tryz.prog 38 #[.string (bs y)] w fun e w' => e = .returned (.bool (headB 91 y)) ∧ w = w' := by
  have H := Lib.hid (fun w => hasPrefix_any (bs y) 91 w)
  simp only [bs_list] at H
  go_enter Tryz.func38, Tryz.ntmps38
  go_wp2_with (go_at_call 59; (with_reducible refine (H.out _).mono ?_); rintro e w1 ⟨rfl, rfl⟩)
  go_ret
  exact ⟨rfl, rfl⟩
theorem jclassName_any (n : List UInt8) (hn : n.length ≤ 1000) (w : World) : Calls Tryz.prog 41 #[.string (bs (76 :: (n ++ [59])))] w fun e w' => e = .returned (.string (bs n)) ∧ w = w' := by
  have hsz : (bs (76 :: (n ++ [59]))).size = n.length + 2 := by rw [bs_size]; simp
  have HX := Lib.hid (show (bs (76 :: (n ++ [59]))).extract 1 ((bs (76 :: (n ++ [59]))).size - 1) = bs n from by
    rw [ext_bs, hsz]
    congr 1
    rw [show n.length + 2 - 1 = n.length + 1 by omega, List.take_succ_cons, List.take_left]
    rfl)
  generalize bs (76 :: (n ++ [59])) = s at *
  have h5 : 1 ≤ s.size - 1 := by omega
  have h6 : s.size ≤ 1100 := by omega
  have h7 : 1 ≤ s.size := by omega
  have hwr : IntKind.i64.wrap ((s.size : Int) - 1) = ((s.size - 1 : Nat) : Int) := by rw [IntKind.wrap_i64]; omega
  clear hsz hn
  go_enter Tryz.func41, Tryz.ntmps41
  go_wp2
  go_ret
  exact ⟨by show _ = Ending.returned (.string (bs n)); rw [← HX.out]; rfl, rfl⟩

set_option maxRecDepth 20000 in
set_option maxHeartbeats 8000000 in
theorem joinClasses_any (l : List ClassD) (hq : WorldIs l 0) (A : Option Addr) (n c : Nat) (hA : A = none → n = 0 ∧ c = 0) (hu : ∀ x ∈ l, x.upto 140737488351232) (hw : ∀ x ∈ l, x.wf) (hn : n ≤ 140737488351232) (m z : List UInt8) (hkm : knownB l m = true) (hkz : knownB l z = true) (w : World) (T : Tab w) (R : ClassRow w A n c l) :
    Calls Tryz.prog 40 #[.slice A n c, .string (bs m), .string (bs z)] w fun e w' => e = .returned (.tuple #[.string (bs (76 :: (joinC l m z ++ [59]))), .nilIface]) ∧ Below w.heap.size w w' := by
  have hV := worldIs_zero hq
  have hm20 := name_len (known_name hV.1 hkm)
  have hz20 := name_len (known_name hV.1 hkz)
  have hch1 := sup_chain hV hkm
  have hch2 := sup_chain hV hkz
  have HS1 := world_supers l 0 m A n c w hq T R hA hu hw hn (by omega)
  have HS2 := fun w' (hb' : Below w.heap.size w w') => world_supers l 0 z A n c w' hq (T.below hb') (ClassRow.below R hb') hA hu hw hn (by omega)
  rw [namedQ_zero.2 ⟨rfl, hkm⟩] at HS1
  rw [namedQ_zero.2 ⟨rfl, hkz⟩] at HS2
  have HJa := Lib.hid (fun (i : Nat) (hi : i < (supF l m).length) h h1 => joinC_at (l := l) (m := m) (z := z) hi h h1)
  have HSz := Lib.hid (show ∀ x ∈ supF l m, (bs x).size ≤ 1000 from fun x hx => by
    rw [bs_size]
    have := name_len (known_name hV.1 (sup_known hV hkm hx))
    omega)
  have HOb2 := Lib.hid (show ∃ (i : Nat) (hi : i < (supF l m).length), (supF l z).any (· == (supF l m)[i]) = true from by
    obtain ⟨i, hi, e⟩ := List.getElem_of_mem (sup_obj hV hkm)
    exact ⟨i, hi, by rw [e]; exact any_mem.2 (sup_obj hV hkz)⟩)
  have HE1 := Lib.hid (fun s (h : Chain l m s) => h.one hch1)
  have HE2 := Lib.hid (fun s (h : Chain l z s) => h.one hch2)
  rw [← bs_snoc2]
  clear hch1 hch2
  obtain ⟨s, hs⟩ : ∃ s, s = supF l m := ⟨_, rfl⟩
  rw [← hs] at HJa HOb2 HSz HE1
  obtain ⟨u, hu⟩ : ∃ u, u = supF l z := ⟨_, rfl⟩
  rw [← hu] at HJa HOb2 HE2
  obtain ⟨j, hjj⟩ : ∃ j, j = joinC l m z := ⟨_, rfl⟩
  rw [← hjj] at HJa ⊢
  replace HS1 := Lib.hid HS1
  replace HS2 := Lib.hid HS2
  clear hs hu hjj hV hkm hkz hq T R hA hw hn hm20 hz20
  go_enter Tryz.func40, Tryz.ntmps40
  go_wp2_with (first
    | (go_at_call 15; (with_reducible refine HS1.out.mono ?_); rintro e w3 ⟨v3, s3, rfl, ho, hs3, _, hl3, hb⟩
       obtain ⟨M, d3', rfl⟩ := ho.form
       obtain rfl : s3 = s := HE1.out s3 (hs3 rfl)
       have HO3 := Lib.hid ho
       have HB3 := Lib.hid hb
       clear hb ho hs3)
    | (go_at_call 15; (with_reducible refine (HS2.out _ HB3.out).mono ?_); rintro e w4 ⟨v4, s4, rfl, ho, hs4, _, hl4, hb⟩
       obtain ⟨M2, d4, rfl⟩ := ho.form
       obtain rfl : s4 = u := HE2.out s4 (hs4 rfl)
       have HO4 := Lib.hid ho.row
       have HO5 := Lib.hid (HO3.out.below hb).row
       have HB4 := Lib.hid (bnext HB3.out hb)
       clear hb ho hs4))
  go_loop [33] (fun i => ∃ t : Nat, t ≤ s3.length ∧ i = .int .i64 t ∧ Hid (∀ (x : Nat) (hx : x < s3.length), x < t → s4.any (· == s3[x]) = false)) (fun i => s3.length - (intOf i).toNat)
  case atStart => exact ⟨0, Nat.zero_le _, rfl, Lib.hid (fun x hx h => by omega)⟩
  case round =>
    obtain ⟨t, ht, rfl, HT⟩ := hrel
    by_cases hlt : t < s3.length
    · obtain ⟨b1, o1, rfl, hb1, hx1⟩ := SRow.at_ HO5.out hlt
      rw [Nat.mul_one] at hx1
      unfold StrAt at hx1
      have hin := contains_strs M2 s4.length d4 s4 s3[t] w4 HO4.out (by omega)
      have hja := fun h1 => HJa.out t hlt HT.out h1
      have hsz := HSz.out s3[t] (List.getElem_mem hlt)
      have hnx := fun (h : s4.any (· == s3[t]) = false) => show ∀ (x : Nat) (hx : x < s3.length), x < t + 1 → s4.any (· == s3[x]) = false from fun x hx hxt => by
        by_cases e : x = t
        · subst e; exact h
        · exact HT.out x hx (by omega)
      cases hany : s4.any (· == s3[t]) with
      | true =>
        rw [hany] at hin
        have hj2 := hja hany
        have HIn := Lib.hid hin
        have HJ2 := Lib.hid hj2
        clear hin hja hnx hany hj2
        generalize s3[t] = y at *
        go_wp2_with (first
          | (go_at_call 50; (with_reducible refine HIn.out.mono ?_); rintro e w9 ⟨rfl, rfl⟩))
        go_ret2
        exact ⟨by rw [HJ2.out]; rfl, HB4.out⟩
      | false =>
        rw [hany] at hin
        have HIn := Lib.hid hin
        have HT2 := Lib.hid (hnx hany)
        clear hin hja hnx hany
        generalize s3[t] = y at *
        go_wp2_with (first
          | (go_at_call 50; (with_reducible refine HIn.out.mono ?_); rintro e w9 ⟨rfl, rfl⟩))
        go_round
        case rel => exact ⟨t + 1, by omega, by go_num, HT2⟩
        case measure => first | (simp [intOf]; omega) | simp [intOf]
    · exfalso
      obtain ⟨x, hx, hxa⟩ := HOb2.out
      have := HT.out x hx (by omega)
      rw [hxa] at this
      cases this

def objT : List UInt8 := [76, 79, 98, 106, 101, 99, 116, 59]
set_option maxRecDepth 20000 in
set_option maxHeartbeats 8000000 in
theorem joinArrays_any {x y : KindD} (hx : x.ok) (hy : y.ok) (A : Option Addr) (n c : Nat) (k r : List UInt8) (hk : k.length ≤ 1000) (h1 : (x.isRef && y.isRef) = true → r = 91 :: k) (h2 : (x.isRef && y.isRef) = false → r = objT) (w : World)
    (rec_ : Calls Tryz.prog 22 #[.slice A n c, .string (bs x.text), .string (bs y.text)] w fun e w' => e = .returned (.tuple #[.string (bs k), .nilIface]) ∧ Below w.heap.size w w') :
    Calls Tryz.prog 39 #[.slice A n c, .string (bs x.text), .string (bs y.text)] w fun e w' => e = .returned (.tuple #[.string (bs r), .nilIface]) ∧ Below w.heap.size w w' := by
  have HIa := fun w => jisRef_any hx w
  have HIb := fun w => jisRef_any hy w
  have hsz : (bs k).size ≤ 1000 := by rw [bs_size]; exact hk
  cases hrx : x.isRef with
  | false =>
    obtain rfl := h2 (by rw [hrx]; rfl)
    rw [hrx] at HIa
    replace HIa := Lib.hid HIa
    clear h1 h2 hrx hx hy HIb rec_ hk hsz
    go_enter Tryz.func39, Tryz.ntmps39
    go_wp2_with (first
      | (go_at_call 36; (with_reducible refine (HIa.out _).mono ?_); rintro e w1 ⟨rfl, rfl⟩))
    go_ret2
    exact ⟨rfl, Below.refl _ _⟩
  | true =>
    rw [hrx] at HIa
    replace HIa := Lib.hid HIa
    cases hry : y.isRef with
    | false =>
      obtain rfl := h2 (by rw [hrx, hry]; rfl)
      rw [hry] at HIb
      replace HIb := Lib.hid HIb
      clear h1 h2 hrx hry hx hy rec_ hk hsz
      go_enter Tryz.func39, Tryz.ntmps39
      go_wp2_with (first
        | (go_at_call 36; (with_reducible refine (HIa.out _).mono ?_); rintro e w1 ⟨rfl, rfl⟩)
        | (go_at_call 36; (with_reducible refine (HIb.out _).mono ?_); rintro e w1 ⟨rfl, rfl⟩))
      go_ret2
      exact ⟨rfl, Below.refl _ _⟩
    | true =>
      obtain rfl := h1 (by rw [hrx, hry]; rfl)
      rw [← bs_cons]
      rw [hry] at HIb
      replace HIb := Lib.hid HIb
      have HR := Lib.hid rec_
      clear h1 h2 hrx hry hx hy rec_ hk
      go_enter Tryz.func39, Tryz.ntmps39
      go_wp2_with (first
        | (go_at_call 36; (with_reducible refine (HIa.out _).mono ?_); rintro e w1 ⟨rfl, rfl⟩)
        | (go_at_call 36; (with_reducible refine (HIb.out _).mono ?_); rintro e w1 ⟨rfl, rfl⟩)
        | (go_at_call 22; (with_reducible refine HR.out.mono ?_); rintro e w2 ⟨rfl, hb⟩
           have HB := Lib.hid hb
           clear hb))
      go_ret2
      exact ⟨rfl, HB.out⟩

set_option maxRecDepth 20000 in
set_option maxHeartbeats 16000000 in
theorem jjoin_any (l : List ClassD) (hq : WorldIs l 0) (A : Option Addr) (n c : Nat) (hA : A = none → n = 0 ∧ c = 0) (hu : ∀ x ∈ l, x.upto 140737488351232) (hw : ∀ x ∈ l, x.wf) (hn : n ≤ 140737488351232) : ∀ (d : Nat) (a b : KindD), a.depth = d → a.ok → b.ok → kindE l a.text = 0 → kindE l b.text = 0 → ∀ (w : World) (T : Tab w) (R : ClassRow w A n c l),
    Calls Tryz.prog 22 #[.slice A n c, .string (bs a.text), .string (bs b.text)] w fun e w' => e = .returned (.tuple #[.string (bs (joinK l a b).text), .nilIface]) ∧ Below w.heap.size w w' := by
  have hV := worldIs_zero hq
  intro d
  induction d using Nat.strongRecOn with
  | _ d ih =>
  intro a b hd ha hb hka hkb w T R
  have HIa := fun w => jisRef_any ha w
  have HIb := fun w => jisRef_any hb w
  have HAa := fun w => jisArray_any a.text w
  have HAb := fun w => jisArray_any b.text w
  rw [head_arr ha] at HAa
  rw [head_arr hb] at HAb
  have HCa := Lib.hid (fun w => clone_any (bs a.text) w (by rw [bs_size]; have := ktext_len ha; omega))
  have HCb := Lib.hid (fun w => clone_any (bs b.text) w (by rw [bs_size]; have := ktext_len hb; omega))
  by_cases hab : a = b
  · have e2 : ((bs a.text).toList == (bs b.text).toList) = true := by rw [hab]; simp
    have hj : joinK l a b = a := by rw [← hab, joinK_self]
    rw [hj]
    clear R T ih hab hj HIa HIb HAa HAb HCb ha hb hka hkb hq hV hu hw hA
    generalize a.text = ta at *
    generalize b.text = tb at *
    go_enter Tryz.func22, Tryz.ntmps22
    go_wp2_with (first
      | (go_at_call 37; (with_reducible refine (HCa.out _).mono ?_); rintro e w1 ⟨rfl, hb⟩
         have HB1 := Lib.hid hb
         clear hb))
    go_ret2
    exact ⟨rfl, HB1.out⟩
  have e2 : ((bs a.text).toList == (bs b.text).toList) = false := str_ne_ (fun e => hab (text_inj ha hb e))
  by_cases hbn : b = .nul
  · have e4 : ((bs b.text).toList == [78]) = true := by rw [hbn]; exact lst_yes rfl
    have e3 : ((bs a.text).toList == [78]) = false := lst_no (fun e => hab ((text_inj ha (j := .nul) trivial e).trans hbn.symm))
    cases hra : a.isRef with
    | true =>
      have hj : joinK l a b = a := by rw [hbn]; exact (joinK_nul hra).2
      rw [hj]
      rw [hra] at HIa
      replace HIa := Lib.hid HIa
      clear R T ih hab hj hbn HIb HAa HAb HCb ha hb hka hkb hra hq hV hu hw hA
      generalize a.text = ta at *
      generalize b.text = tb at *
      go_enter Tryz.func22, Tryz.ntmps22
      go_wp2_with (first
        | (go_at_call 36; (with_reducible refine (HIa.out _).mono ?_); rintro e w1 ⟨rfl, rfl⟩)
        | (go_at_call 37; (with_reducible refine (HCa.out _).mono ?_); rintro e w1 ⟨rfl, hb⟩
           have HB1 := Lib.hid hb
           clear hb))
      go_ret2
      exact ⟨rfl, HB1.out⟩
    | false =>
      have hj : joinK l a b = .top := joinK_noref hab (fun h => absurd (h.trans hbn.symm) hab) (fun _ => hra) (.inl hra)
      rw [hj]
      rw [hra] at HIa
      replace HIa := Lib.hid HIa
      clear R T ih hab hj hbn HIb HAa HAb HCb HCa ha hb hka hkb hra hq hV hu hw hA
      generalize a.text = ta at *
      generalize b.text = tb at *
      go_enter Tryz.func22, Tryz.ntmps22
      go_wp2_with (first
        | (go_at_call 36; (with_reducible refine (HIa.out _).mono ?_); rintro e w1 ⟨rfl, rfl⟩))
      go_ret2
      exact ⟨rfl, Below.refl _ _⟩
  have e4 : ((bs b.text).toList == [78]) = false := lst_no (fun e => hbn (text_inj hb (j := .nul) trivial e))
  by_cases han : a = .nul
  · have e3 : ((bs a.text).toList == [78]) = true := by rw [han]; exact lst_yes rfl
    cases hrb : b.isRef with
    | true =>
      have hj : joinK l a b = b := by rw [han]; exact (joinK_nul hrb).1
      rw [hj]
      rw [hrb] at HIb
      replace HIb := Lib.hid HIb
      clear R T ih hab hj hbn han HIa HAa HAb HCa ha hb hka hkb hrb hq hV hu hw hA
      generalize a.text = ta at *
      generalize b.text = tb at *
      go_enter Tryz.func22, Tryz.ntmps22
      go_wp2_with (first
        | (go_at_call 36; (with_reducible refine (HIb.out _).mono ?_); rintro e w1 ⟨rfl, rfl⟩)
        | (go_at_call 37; (with_reducible refine (HCb.out _).mono ?_); rintro e w1 ⟨rfl, hb⟩
           have HB1 := Lib.hid hb
           clear hb))
      go_ret2
      exact ⟨rfl, HB1.out⟩
    | false =>
      have hj : joinK l a b = .top := joinK_noref hab (fun _ => hrb) (fun h => absurd h hbn) (.inr hrb)
      rw [hj]
      rw [hrb] at HIb
      rw [show a.isRef = false by rw [han]; rfl] at HIa
      replace HIa := Lib.hid HIa
      replace HIb := Lib.hid HIb
      clear R T ih hab hj hbn han HAa HAb HCa HCb ha hb hka hkb hrb hq hV hu hw hA
      generalize a.text = ta at *
      generalize b.text = tb at *
      go_enter Tryz.func22, Tryz.ntmps22
      go_wp2_with (first
        | (go_at_call 36; (with_reducible refine (HIa.out _).mono ?_); rintro e w1 ⟨rfl, rfl⟩)
        | (go_at_call 36; (with_reducible refine (HIb.out _).mono ?_); rintro e w1 ⟨rfl, rfl⟩))
      go_ret2
      exact ⟨rfl, Below.refl _ _⟩
  have e3 : ((bs a.text).toList == [78]) = false := lst_no (fun e => han (text_inj ha (j := .nul) trivial e))
  by_cases hrr : a.isRef = false ∨ b.isRef = false
  · have hj : joinK l a b = .top := joinK_noref hab (fun h => absurd h han) (fun h => absurd h hbn) hrr
    rw [hj]
    rcases (show a.isRef = false ∨ (a.isRef = true ∧ b.isRef = false) by cases h : a.isRef <;> simp_all) with hra | ⟨hra, hrb⟩
    · rw [hra] at HIa
      replace HIa := Lib.hid HIa
      clear R T ih hab hj hbn han HAa HAb HCa HCb HIb ha hb hka hkb hra hrr hq hV hu hw hA
      generalize a.text = ta at *
      generalize b.text = tb at *
      go_enter Tryz.func22, Tryz.ntmps22
      go_wp2_with (first
        | (go_at_call 36; (with_reducible refine (HIa.out _).mono ?_); rintro e w1 ⟨rfl, rfl⟩))
      go_ret2
      exact ⟨rfl, Below.refl _ _⟩
    · rw [hra] at HIa
      rw [hrb] at HIb
      replace HIa := Lib.hid HIa
      replace HIb := Lib.hid HIb
      clear R T ih hab hj hbn han HAa HAb HCa HCb ha hb hka hkb hra hrb hrr hq hV hu hw hA
      generalize a.text = ta at *
      generalize b.text = tb at *
      go_enter Tryz.func22, Tryz.ntmps22
      go_wp2_with (first
        | (go_at_call 36; (with_reducible refine (HIa.out _).mono ?_); rintro e w1 ⟨rfl, rfl⟩)
        | (go_at_call 36; (with_reducible refine (HIb.out _).mono ?_); rintro e w1 ⟨rfl, rfl⟩))
      go_ret2
      exact ⟨rfl, Below.refl _ _⟩
  have hra : a.isRef = true := by cases h : a.isRef <;> simp_all
  have hrb : b.isRef = true := by cases h : b.isRef <;> simp_all
  rw [hra] at HIa
  rw [hrb] at HIb
  replace HIa := Lib.hid HIa
  replace HIb := Lib.hid HIb
  by_cases hda : 0 < a.depth
  · rw [decide_eq_true hda] at HAa
    replace HAa := Lib.hid HAa
    by_cases hdb : 0 < b.depth
    · rw [decide_eq_true hdb] at HAb
      replace HAb := Lib.hid HAb
      obtain ⟨xa, ya⟩ := text_tail hda
      obtain ⟨xb, yb⟩ := text_tail hdb
      obtain ⟨hj1, hj2⟩ := joinK_elem (l := l) hda hdb hab
      have hca : kindE l a.elem.text = 0 := by rw [kindE_text (elem_ok ha), elem_name, ← kindE_text ha]; exact hka
      have hcb : kindE l b.elem.text = 0 := by rw [kindE_text (elem_ok hb), elem_name, ← kindE_text hb]; exact hkb
      have hok := joinK_ok hV ((there_iff (elem_ok ha)).1 hca) ((there_iff (elem_ok hb)).1 hcb) (elem_ok ha) (elem_ok hb)
      have HR := Lib.hid R
      have HT := Lib.hid T
      have HRec := Lib.hid (fun W T R => joinArrays_any (elem_ok ha) (elem_ok hb) A n c (joinK l a.elem b.elem).text (joinK l a b).text (by have := ktext_len hok; omega)
        (fun h => by
          rw [Bool.and_eq_true] at h
          obtain ⟨e, nn, k1, k2⟩ := hj1 h.1 h.2
          rw [k1, k2]; rfl)
        (fun h => by rw [hj2 h]; rfl) W (ih (d - 1) (by omega) a.elem b.elem (by rw [elem_depth, hd]) (elem_ok ha) (elem_ok hb) hca hcb W T R))
      clear R T ih hab hbn han HCa HCb ha hb hka hkb hra hrb hrr hq hV hu hw hA hda hdb hj1 hj2 hca hcb hok
      generalize (joinK l a b).text = r at *
      generalize bs a.text = ta at *
      generalize bs b.text = tb at *
      generalize bs a.elem.text = ea at *
      generalize bs b.elem.text = eb at *
      have ua := fun W => cut_text xa ya W
      have ub := fun W => cut_text xb yb W
      go_enter Tryz.func22, Tryz.ntmps22
      go_wp2_with (first
        | (go_at_call 36; (with_reducible refine (HIa.out _).mono ?_); rintro e w1 ⟨rfl, rfl⟩)
        | (go_at_call 36; (with_reducible refine (HIb.out _).mono ?_); rintro e w1 ⟨rfl, rfl⟩)
        | (go_at_call 38; (with_reducible refine (HAa.out _).mono ?_); rintro e w1 ⟨rfl, rfl⟩)
        | (go_at_call 38; (with_reducible refine (HAb.out _).mono ?_); rintro e w1 ⟨rfl, rfl⟩))
      first | go_region_held (fun _ => True) (first | exact trivial | exact True.intro)
        (first
          | (go_at_call 39; (with_reducible refine (HRec.out _ (HT.out.below (Below.refl _ _).drew) (ClassRow.below HR.out (Below.refl _ _).drew)).mono ?_); rintro e w2 ⟨rfl, hb⟩
             have HB2 := Lib.hid (behind_drew1 hb)
             clear hb)) | fail
      all_goals
        go_wp2_with fail
        go_ret2
        exact ⟨rfl, HB2.out⟩
    · rw [decide_eq_false hdb] at HAb
      replace HAb := Lib.hid HAb
      rw [joinK_mixed hra hrb (.inl ⟨hda, by omega⟩)]
      clear R T ih hab hbn han HCa HCb ha hb hka hkb hra hrb hrr hq hV hu hw hA hda hdb
      generalize a.text = ta at *
      generalize b.text = tb at *
      go_enter Tryz.func22, Tryz.ntmps22
      go_wp2_with (first
        | (go_at_call 36; (with_reducible refine (HIa.out _).mono ?_); rintro e w1 ⟨rfl, rfl⟩)
        | (go_at_call 36; (with_reducible refine (HIb.out _).mono ?_); rintro e w1 ⟨rfl, rfl⟩)
        | (go_at_call 38; (with_reducible refine (HAa.out _).mono ?_); rintro e w1 ⟨rfl, rfl⟩)
        | (go_at_call 38; (with_reducible refine (HAb.out _).mono ?_); rintro e w1 ⟨rfl, rfl⟩))
      go_ret2
      exact ⟨rfl, Below.refl _ _⟩
  · rw [decide_eq_false hda] at HAa
    replace HAa := Lib.hid HAa
    by_cases hdb : 0 < b.depth
    · rw [decide_eq_true hdb] at HAb
      replace HAb := Lib.hid HAb
      rw [joinK_mixed hra hrb (.inr ⟨by omega, hdb⟩)]
      clear R T ih hab hbn han HCa HCb ha hb hka hkb hra hrb hrr hq hV hu hw hA hda hdb
      generalize a.text = ta at *
      generalize b.text = tb at *
      go_enter Tryz.func22, Tryz.ntmps22
      go_wp2_with (first
        | (go_at_call 36; (with_reducible refine (HIa.out _).mono ?_); rintro e w1 ⟨rfl, rfl⟩)
        | (go_at_call 36; (with_reducible refine (HIb.out _).mono ?_); rintro e w1 ⟨rfl, rfl⟩)
        | (go_at_call 38; (with_reducible refine (HAa.out _).mono ?_); rintro e w1 ⟨rfl, rfl⟩)
        | (go_at_call 38; (with_reducible refine (HAb.out _).mono ?_); rintro e w1 ⟨rfl, rfl⟩))
      go_ret2
      exact ⟨rfl, Below.refl _ _⟩
    · rw [decide_eq_false hdb] at HAb
      replace HAb := Lib.hid HAb
      have h0a : ∃ m, a = .cls 0 m := by
        rcases text_head ha hra with ⟨h, _⟩ | ⟨_, _, h⟩
        · exact absurd h hda
        · exact h
      have h0b : ∃ m, b = .cls 0 m := by
        rcases text_head hb hrb with ⟨h, _⟩ | ⟨_, _, h⟩
        · exact absurd h hdb
        · exact h
      obtain ⟨m, rfl⟩ := h0a
      obtain ⟨z, rfl⟩ := h0b
      have hkm := kind_known ha hka
      have hkz := kind_known hb hkb
      have hm20 := name_len ha.2
      have hz20 := name_len hb.2
      have hj : joinK l (.cls 0 m) (.cls 0 z) = .cls 0 (joinC l m z) := by unfold joinK; rw [if_neg hab]; exact if_pos rfl
      rw [hj, show (KindD.cls 0 (joinC l m z)).text = 76 :: (joinC l m z ++ [59]) from rfl]
      have HNa := Lib.hid (fun w => jclassName_any m (by omega) w)
      have HNb := Lib.hid (fun w => jclassName_any z (by omega) w)
      rw [← cls_text0] at HNa HNb
      have HR := Lib.hid R
      have HT := Lib.hid T
      have HJ := Lib.hid (fun W T R => joinClasses_any l hq A n c hA hu hw hn m z hkm hkz W T R)
      clear R T ih hab HCa HCb ha hb hka hkb hra hrb hrr hq hV hu hw hA hda hdb hbn han hkm hkz hm20 hz20 hj hd
      generalize bs (KindD.cls 0 m).text = ta at *
      generalize bs (KindD.cls 0 z).text = tb at *
      generalize 76 :: (joinC l m z ++ [59]) = r at *
      go_enter Tryz.func22, Tryz.ntmps22
      go_wp2_with (first
        | (go_at_call 36; (with_reducible refine (HIa.out _).mono ?_); rintro e w1 ⟨rfl, rfl⟩)
        | (go_at_call 36; (with_reducible refine (HIb.out _).mono ?_); rintro e w1 ⟨rfl, rfl⟩)
        | (go_at_call 38; (with_reducible refine (HAa.out _).mono ?_); rintro e w1 ⟨rfl, rfl⟩)
        | (go_at_call 38; (with_reducible refine (HAb.out _).mono ?_); rintro e w1 ⟨rfl, rfl⟩)
        | (go_at_call 41; (with_reducible refine (HNa.out _).mono ?_); rintro e w1 ⟨rfl, rfl⟩)
        | (go_at_call 41; (with_reducible refine (HNb.out _).mono ?_); rintro e w1 ⟨rfl, rfl⟩)
        | (go_at_call 40; (with_reducible refine (HJ.out _ HT.out HR.out).mono ?_); rintro e w2 ⟨rfl, hb⟩
           have HB2 := Lib.hid hb
           clear hb))
      go_ret2
      exact ⟨rfl, HB2.out⟩

set_option maxRecDepth 20000 in
set_option maxHeartbeats 8000000 in
theorem join_joins : JoinJoins := by
  intro l q a b k A n c w hq hk hk0 T R hA hu hw hn ha hb
  obtain ⟨β, hβ⟩ : ∃ β : Bool, (β = true ↔ kindsQ l q a b = 0 ∧ FitsT l a b) := by
    by_cases h : kindsQ l q a b = 0 ∧ FitsT l a b
    · exact ⟨true, fun _ => h, fun _ => rfl⟩
    · exact ⟨false, fun h' => (by cases h'), fun h' => absurd h' h⟩
  have HF := Lib.hid (sub_fits l q a b β A n c w hq hβ T R hA hu hw hn ha hb)
  by_cases h0 : kindsQ l q a b = 0
  · obtain ⟨rfl, hka, hkb⟩ := kindsQ_zero.1 h0
    obtain ⟨x, hx, rfl⟩ := kind_is (w := l) (l := a) (by omega)
    obtain ⟨y, hy, rfl⟩ := kind_is (w := l) (l := b) (by omega)
    obtain rfl := (joinT_iff hx hy).1 (hk h0)
    have HJ := Lib.hid (fun w' (hb' : Below w.heap.size w w') => jjoin_any l hq A n c hA hu hw hn x.depth x y rfl hx hy hka hkb w' (T.below hb') (ClassRow.below R hb'))
    rw [h0] at HF ⊢
    clear hβ hq h0 T R hA hu hw hn ha hb hk hk0 hka hkb hx hy
    generalize (joinK l x y).text = k at *
    generalize x.text = tx at *
    generalize y.text = ty at *
    go_enter Tryz.func9, Tryz.ntmps9
    go_wp2_with (first
      | (go_at_call 13; (with_reducible refine HF.out.mono ?_); rintro e w1 ⟨rfl, hb⟩
         have HB1 := Lib.hid hb
         clear hb)
      | (go_at_call 22; (with_reducible refine (HJ.out _ HB1.out).mono ?_); rintro e w2 ⟨rfl, hb⟩
         have HB2 := Lib.hid (bnext HB1.out hb)
         clear hb))
    go_ret2
    exact ⟨rfl, HB2.out⟩
  · obtain rfl := hk0 h0
    have hne : (kindsQ l q a b != 0) = true := by rw [bne_iff_ne]; exact h0
    clear hβ hq h0 T R hA hu hw hn ha hb hk hk0
    generalize kindsQ l q a b = q at *
    go_enter Tryz.func9, Tryz.ntmps9
    go_wp2_with (first
      | (go_at_call 13; (with_reducible refine HF.out.mono ?_); rintro e w1 ⟨rfl, hb⟩
         have HB1 := Lib.hid hb
         clear hb))
    go_ret2
    exact ⟨rfl, HB1.out⟩

set_option maxRecDepth 20000 in
set_option maxHeartbeats 8000000 in
theorem join_belows : JoinBelows := by
  intro l q a b β A n c w hq hβ T R hA hu hw hn ha hb
  obtain ⟨k, hk, hk0⟩ := join_ex l q a b
  have HJ := Lib.hid (join_joins l q a b k A n c w hq hk hk0 T R hA hu hw hn ha hb)
  by_cases h0 : kindsQ l q a b = 0
  · have hv : β = ((bs k).toList == (bs b).toList) := by
      rw [Bool.eq_iff_iff, hβ, ByteArray.toList_eq, ByteArray.toList_eq, beq_iff_eq]
      obtain ⟨hq0, hka, hkb⟩ := kindsQ_zero.1 h0
      obtain ⟨x, hx, rfl⟩ := kind_is (w := l) (l := a) (by omega)
      obtain ⟨y, hy, rfl⟩ := kind_is (w := l) (l := b) (by omega)
      rw [joinT_iff hx hy, (joinT_iff hx hy).1 (hk h0)]
      exact ⟨fun h => h.2.symm, fun h => ⟨h0, h.symm⟩⟩
    subst hv
    rw [h0] at HJ ⊢
    clear hβ hq h0 T R hA hu hw hn ha hb hk hk0
    go_enter Tryz.func11, Tryz.ntmps11
    go_wp2_with (first
      | (go_at_call 9; (with_reducible refine HJ.out.mono ?_); rintro e w1 ⟨rfl, hb⟩
         have HB1 := Lib.hid hb
         clear hb))
    go_ret2
    exact ⟨rfl, HB1.out⟩
  · obtain rfl : β = false := by
      cases hb : β with
      | false => rfl
      | true => exact absurd (hβ.1 hb).1 h0
    have hne : (kindsQ l q a b == 0) = false := by rw [beq_eq_false_iff_ne]; exact h0
    clear hβ hq h0 T R hA hu hw hn ha hb hk hk0
    generalize kindsQ l q a b = q at *
    go_enter Tryz.func11, Tryz.ntmps11
    go_wp2_with (first
      | (go_at_call 9; (with_reducible refine HJ.out.mono ?_); rintro e w1 ⟨rfl, hb⟩
         have HB1 := Lib.hid hb
         clear hb))
    go_ret2
    exact ⟨rfl, HB1.out⟩
end Go.Proofs.YtnmfcckahglbbaaGreatDoor
