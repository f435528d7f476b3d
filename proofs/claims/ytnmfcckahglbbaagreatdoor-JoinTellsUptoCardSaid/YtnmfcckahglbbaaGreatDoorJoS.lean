/- The reference's Join: its walk. -/
import Derived.Test.YtnmfcckahglbbaaGreatDoorJoR
import Derived.Test.YtnmfcckahglbbaaGreatDoorJoW
import Derived.Deep.RegionHeld
namespace Go.Proofs.YtnmfcckahglbbaaGreatDoor
open Go.ChangeShapes Go.WideShapes Go.ChangeAt Go.RowKit
set_option linter.unusedVariables false

set_option maxRecDepth 20000 in
set_option maxHeartbeats 16000000 in
theorem rjoin_any (l : List ClassD) (hV : Valid l) (A : Option Addr) (n c : Nat) (hn : n ≤ 140737488351232) : ∀ (d : Nat) (a b : KindD), a.depth = d → a.ok → b.ok → kindE l a.text = 0 → kindE l b.text = 0 → ∀ (w : World) (R : ClassRow w A n c l),
    Calls Tryz.prog 12 #[.slice A n c, .string (bs a.text), .string (bs b.text)] w fun e w' => e = .returned (.string (bs (joinK l a b).text)) ∧ Below w.heap.size w w' := by
  intro d
  induction d using Nat.strongRecOn with
  | _ d ih =>
  intro a b hd ha hb hka hkb w R
  have HR := Lib.hid R
  have HIa := Lib.hid (fun w => isRef_text ha w)
  have HIb := Lib.hid (fun w => isRef_text hb w)
  by_cases hab : a = b
  · have e2 : ((bs a.text).toList == (bs b.text).toList) = true := by rw [hab]; simp
    have hj : joinK l a b = a := by rw [← hab, joinK_self]
    rw [hj]
    clear R ih hab hj
    go_enter Tryz.func12, Tryz.ntmps12
    go_wp2
    go_ret
    exact ⟨rfl, Below.refl _ _⟩
  have e2 : ((bs a.text).toList == (bs b.text).toList) = false := str_ne_ (fun e => hab (text_inj ha hb e))
  by_cases han : a = .nul
  · have e3 : ((bs a.text).toList == [78]) = true := by rw [han]; exact lst_yes rfl
    have e4 : ((bs b.text).toList == [78]) = false := lst_no (fun e => hab (han.trans (text_inj hb (j := .nul) trivial e).symm))
    cases hrb : b.isRef with
    | true =>
      have hj : joinK l a b = b := by rw [han]; exact (joinK_nul hrb).1
      rw [hj]
      rw [hrb] at HIb
      clear R ih hab hj han hrb
      go_enter Tryz.func12, Tryz.ntmps12
      go_wp2_with (first
        | (go_at_call 23; (with_reducible refine (HIb.out _).mono ?_); rintro e w1 ⟨rfl, rfl⟩))
      go_ret
      exact ⟨rfl, Below.refl _ _⟩
    | false =>
      have hj : joinK l a b = .top := joinK_noref hab (fun _ => hrb) (fun h => absurd (han.trans h.symm) hab) (.inr hrb)
      rw [hj]
      rw [hrb] at HIb
      rw [show a.isRef = false by rw [han]; rfl] at HIa
      clear R ih hab hj han hrb
      go_enter Tryz.func12, Tryz.ntmps12
      go_wp2_with (first
        | (go_at_call 23; (with_reducible refine (HIa.out _).mono ?_); rintro e w1 ⟨rfl, rfl⟩)
        | (go_at_call 23; (with_reducible refine (HIb.out _).mono ?_); rintro e w1 ⟨rfl, rfl⟩))
      go_ret
      exact ⟨rfl, Below.refl _ _⟩
  have e3 : ((bs a.text).toList == [78]) = false := lst_no (fun e => han (text_inj ha (j := .nul) trivial e))
  by_cases hbn : b = .nul
  · have e4 : ((bs b.text).toList == [78]) = true := by rw [hbn]; exact lst_yes rfl
    cases hra : a.isRef with
    | true =>
      have hj : joinK l a b = a := by rw [hbn]; exact (joinK_nul hra).2
      rw [hj]
      rw [hra] at HIa
      clear R ih hab hj han hbn hra
      go_enter Tryz.func12, Tryz.ntmps12
      go_wp2_with (first
        | (go_at_call 23; (with_reducible refine (HIa.out _).mono ?_); rintro e w1 ⟨rfl, rfl⟩))
      go_ret
      exact ⟨rfl, Below.refl _ _⟩
    | false =>
      have hj : joinK l a b = .top := joinK_noref hab (fun h => absurd h han) (fun _ => hra) (.inl hra)
      rw [hj]
      rw [hra] at HIa
      clear R ih hab hj han hbn hra
      go_enter Tryz.func12, Tryz.ntmps12
      go_wp2_with (first
        | (go_at_call 23; (with_reducible refine (HIa.out _).mono ?_); rintro e w1 ⟨rfl, rfl⟩))
      go_ret
      exact ⟨rfl, Below.refl _ _⟩
  have e4 : ((bs b.text).toList == [78]) = false := lst_no (fun e => hbn (text_inj hb (j := .nul) trivial e))
  by_cases hrr : a.isRef = false ∨ b.isRef = false
  · have hj : joinK l a b = .top := joinK_noref hab (fun h => absurd h han) (fun h => absurd h hbn) hrr
    rw [hj]
    rcases (show a.isRef = false ∨ (a.isRef = true ∧ b.isRef = false) by cases h : a.isRef <;> simp_all) with hra | ⟨hra, hrb⟩
    · rw [hra] at HIa
      clear R ih hab hj han hbn hra hrr
      go_enter Tryz.func12, Tryz.ntmps12
      go_wp2_with (first
        | (go_at_call 23; (with_reducible refine (HIa.out _).mono ?_); rintro e w1 ⟨rfl, rfl⟩))
      go_ret
      exact ⟨rfl, Below.refl _ _⟩
    · rw [hra] at HIa
      rw [hrb] at HIb
      clear R ih hab hj han hbn hra hrb hrr
      go_enter Tryz.func12, Tryz.ntmps12
      go_wp2_with (first
        | (go_at_call 23; (with_reducible refine (HIa.out _).mono ?_); rintro e w1 ⟨rfl, rfl⟩)
        | (go_at_call 23; (with_reducible refine (HIb.out _).mono ?_); rintro e w1 ⟨rfl, rfl⟩))
      go_ret
      exact ⟨rfl, Below.refl _ _⟩
  have hra : a.isRef = true := by cases h : a.isRef <;> simp_all
  have hrb : b.isRef = true := by cases h : b.isRef <;> simp_all
  rw [hra] at HIa
  rw [hrb] at HIb
  rcases text_head ha hra with ⟨da, ta⟩ | ⟨da, ta, m, hm⟩
  · obtain ⟨ga, fa⟩ := at_yes (v := 91) ta rfl
    rcases text_head hb hrb with ⟨db, tb⟩ | ⟨db, tb, z, hz⟩
    · obtain ⟨gb, fb⟩ := at_yes (v := 91) tb rfl
      obtain ⟨xa, ya⟩ := text_tail da
      obtain ⟨xb, yb⟩ := text_tail db
      obtain ⟨hj1, hj2⟩ := joinK_elem (l := l) da db hab
      have HIa2 := Lib.hid (fun w => isRef_text (elem_ok ha) w)
      have HIb2 := Lib.hid (fun w => isRef_text (elem_ok hb) w)
      have hca : kindE l a.elem.text = 0 := by rw [kindE_text (elem_ok ha), elem_name, ← kindE_text ha]; exact hka
      have hcb : kindE l b.elem.text = 0 := by rw [kindE_text (elem_ok hb), elem_name, ← kindE_text hb]; exact hkb
      have hrec := fun W R => ih (d - 1) (by omega) a.elem b.elem (by rw [elem_depth, hd]) (elem_ok ha) (elem_ok hb) hca hcb W R
      have hga : 0 < (bs a.text).size := by omega
      have hgb : 0 < (bs b.text).size := by omega
      rcases (show a.elem.isRef = false ∨ (a.elem.isRef = true ∧ b.elem.isRef = false) ∨ (a.elem.isRef = true ∧ b.elem.isRef = true) by cases h : a.elem.isRef <;> cases h2 : b.elem.isRef <;> simp_all) with h1 | ⟨h1, h2⟩ | ⟨h1, h2⟩
      · rw [hj2 (by rw [h1]; rfl)]
        rw [h1] at HIa2
        clear R ih hab han hbn hra hrb hrr hca hcb hka hkb da db ta tb hj1 hj2 hrec h1
        generalize bs a.text = sa at *
        generalize bs b.text = sb at *
        generalize bs a.elem.text = ea at *
        have ua := fun W => cut_text xa ya W
        go_enter Tryz.func12, Tryz.ntmps12
        go_wp2_with (first
          | (go_at_call 23; (with_reducible refine (HIa.out _).mono ?_); rintro e w1 ⟨rfl, rfl⟩)
          | (go_at_call 23; (with_reducible refine (HIb.out _).mono ?_); rintro e w1 ⟨rfl, rfl⟩)
          | (go_at_call 23; (with_reducible refine (HIa2.out _).mono ?_); rintro e w1 ⟨rfl, rfl⟩))
        go_ret
        exact ⟨rfl, Below.refl _ _⟩
      · rw [hj2 (by rw [h1, h2]; rfl)]
        rw [h1] at HIa2
        rw [h2] at HIb2
        clear R ih hab han hbn hra hrb hrr hca hcb hka hkb da db ta tb hj1 hj2 hrec h1 h2
        generalize bs a.text = sa at *
        generalize bs b.text = sb at *
        generalize bs a.elem.text = ea at *
        generalize bs b.elem.text = eb at *
        have ua := fun W => cut_text xa ya W
        have ub := fun W => cut_text xb yb W
        go_enter Tryz.func12, Tryz.ntmps12
        go_wp2_with (first
          | (go_at_call 23; (with_reducible refine (HIa.out _).mono ?_); rintro e w1 ⟨rfl, rfl⟩)
          | (go_at_call 23; (with_reducible refine (HIb.out _).mono ?_); rintro e w1 ⟨rfl, rfl⟩)
          | (go_at_call 23; (with_reducible refine (HIa2.out _).mono ?_); rintro e w1 ⟨rfl, rfl⟩)
          | (go_at_call 23; (with_reducible refine (HIb2.out _).mono ?_); rintro e w1 ⟨rfl, rfl⟩))
        go_ret
        exact ⟨rfl, Below.refl _ _⟩
      · obtain ⟨f, nn, hk1, hk2⟩ := hj1 h1 h2
        rw [hk1] at hrec
        rw [hk2, show (KindD.cls (f + 1) nn).text = 91 :: (KindD.cls f nn).text from rfl, ← bs_cons]
        rw [h1] at HIa2
        rw [h2] at HIb2
        have HRec := Lib.hid hrec
        have hok := joinK_ok hV ((there_iff (elem_ok ha)).1 hca) ((there_iff (elem_ok hb)).1 hcb) (elem_ok ha) (elem_ok hb)
        rw [hk1] at hok
        have hsz : (bs (KindD.cls f nn).text).size ≤ 1000 := by rw [bs_size]; have := ktext_len hok; omega
        clear hok
        generalize (KindD.cls f nn).text = tx at *
        clear R ih hab han hbn hra hrb hrr hca hcb hka hkb da db ta tb hj1 hj2 hrec h1 h2 hk1 hk2
        generalize bs a.text = sa at *
        generalize bs b.text = sb at *
        generalize bs a.elem.text = ea at *
        generalize bs b.elem.text = eb at *
        have ua := fun W => cut_text xa ya W
        have ub := fun W => cut_text xb yb W
        go_enter Tryz.func12, Tryz.ntmps12
        go_wp2_with (first
          | (go_at_call 23; (with_reducible refine (HIa.out _).mono ?_); rintro e w1 ⟨rfl, rfl⟩)
          | (go_at_call 23; (with_reducible refine (HIb.out _).mono ?_); rintro e w1 ⟨rfl, rfl⟩)
          | (go_at_call 23; (with_reducible refine (HIa2.out _).mono ?_); rintro e w1 ⟨rfl, rfl⟩)
          | (go_at_call 23; (with_reducible refine (HIb2.out _).mono ?_); rintro e w1 ⟨rfl, rfl⟩))
        first | go_region_held (fun _ => True) (first | exact trivial | exact True.intro)
          (first
            | (go_at_call 12; (with_reducible refine (HRec.out _ (ClassRow.below HR.out (Below.refl _ _).drew)).mono ?_); rintro e w2 ⟨rfl, hb⟩
               have HB2 := Lib.hid (behind_drew1 hb)
               clear hb)) | fail
        all_goals
          go_wp2_with fail
          go_ret
          exact ⟨rfl, HB2.out⟩
    · obtain ⟨gb, fb⟩ := at_no (v := 91) tb (by decide)
      rw [joinK_mixed hra hrb (.inl ⟨da, db⟩)]
      have hga : 0 < (bs a.text).size := by omega
      have hgb : 0 < (bs b.text).size := by omega
      clear R ih hab han hbn hra hrb hrr hka hkb da db ta tb hz
      generalize bs a.text = sa at *
      generalize bs b.text = sb at *
      go_enter Tryz.func12, Tryz.ntmps12
      go_wp2_with (first
        | (go_at_call 23; (with_reducible refine (HIa.out _).mono ?_); rintro e w1 ⟨rfl, rfl⟩)
        | (go_at_call 23; (with_reducible refine (HIb.out _).mono ?_); rintro e w1 ⟨rfl, rfl⟩))
      go_ret
      exact ⟨rfl, Below.refl _ _⟩
  · obtain ⟨ga, fa⟩ := at_no (v := 91) ta (by decide)
    rcases text_head hb hrb with ⟨db, tb⟩ | ⟨db, tb, z, hz⟩
    · obtain ⟨gb, fb⟩ := at_yes (v := 91) tb rfl
      rw [joinK_mixed hra hrb (.inr ⟨da, db⟩)]
      have hga : 0 < (bs a.text).size := by omega
      have hgb : 0 < (bs b.text).size := by omega
      clear R ih hab han hbn hra hrb hrr hka hkb da db ta tb hm
      generalize bs a.text = sa at *
      generalize bs b.text = sb at *
      go_enter Tryz.func12, Tryz.ntmps12
      go_wp2_with (first
        | (go_at_call 23; (with_reducible refine (HIa.out _).mono ?_); rintro e w1 ⟨rfl, rfl⟩)
        | (go_at_call 23; (with_reducible refine (HIb.out _).mono ?_); rintro e w1 ⟨rfl, rfl⟩))
      go_ret
      exact ⟨rfl, Below.refl _ _⟩
    · obtain ⟨gb, fb⟩ := at_no (v := 91) tb (by decide)
      subst hm hz
      have hkm := kind_known ha hka
      have hkz := kind_known hb hkb
      have hmz : m ≠ z := fun e => hab (by rw [e])
      have hj : joinK l (.cls 0 m) (.cls 0 z) = .cls 0 (joinC l m z) := by unfold joinK; rw [if_neg hab]; exact if_pos rfl
      rw [hj]
      have HCa := Lib.hid (fun w => rclassIn_any (.cls 0 m) ha rfl w)
      have HCb := Lib.hid (fun w => rclassIn_any (.cls 0 z) hb rfl w)
      rw [show (KindD.cls 0 m).name = m from rfl] at HCa
      rw [show (KindD.cls 0 z).name = z from rfl] at HCb
      have HOa := Lib.hid (fun W R => rclassOf_any l m A n c W R hn)
      have HOb := Lib.hid (fun W R => rclassOf_any l z A n c W R hn)
      have hga : 0 < (bs (KindD.cls 0 m).text).size := by omega
      have hgb : 0 < (bs (KindD.cls 0 z).text).size := by omega
      have hfj := fun h => joinC_face hV hkm hkz hmz h
      have hnm : (classD l m).nm = m := by
        obtain ⟨cc, hc⟩ := known_some hkm
        rw [classD_some hc]; exact classOf_nm hc
      have hnz : (classD l z).nm = z := by
        obtain ⟨cc, hc⟩ := known_some hkz
        rw [classD_some hc]; exact classOf_nm hc
      have hfm0 := faceB_D l m
      have hfz0 := faceB_D l z
      have hch1 := sup_chain hV hkm
      have hch2 := sup_chain hV hkz
      have hl1 : (supF l m).length ≤ 12 := by
        obtain ⟨s, h, hs⟩ := chain_is hV hkm
        rw [hch1.one h]; exact hs
      have hl2 : (supF l z).length ≤ 12 := by
        obtain ⟨s, h, hs⟩ := chain_is hV hkz
        rw [hch2.one h]; exact hs
      have ho1 := sup_obj hV hkm
      have ho2 := sup_obj hV hkz
      clear R ih hab han hbn hra hrb hrr hka hkb da db ta tb hj hd ha hb hmz
      generalize bs (KindD.cls 0 m).text = sa at *
      generalize bs (KindD.cls 0 z).text = sb at *
      cases hf1 : faceB l m with
      | true =>
        have hfm : (classD l m).face = true := hfm0.symm.trans hf1
        have hfz : (classD l z).face = faceB l z := hfz0.symm
        rw [hfj (.inl hf1)]
        clear hfj hfm0 hfz0 hf1 hch1 hch2 ho1 ho2
        generalize faceB l z = fz at *
        go_enter Tryz.func12, Tryz.ntmps12
        go_wp2_with (first
        | (go_at_call 23; (with_reducible refine (HIa.out _).mono ?_); rintro e w9 ⟨rfl, rfl⟩)
        | (go_at_call 23; (with_reducible refine (HIb.out _).mono ?_); rintro e w9 ⟨rfl, rfl⟩)
        | (go_at_call 17; (with_reducible refine (HCa.out _).mono ?_); rintro e w9 ⟨rfl, rfl⟩)
        | (go_at_call 17; (with_reducible refine (HCb.out _).mono ?_); rintro e w9 ⟨rfl, rfl⟩)
        | (go_at_call 16; (with_reducible refine (HOa.out _ HR.out).mono ?_); rintro e w1 ⟨v1, rfl, hh, hb⟩
           obtain ⟨pA, pi, pj, pB, pk, pl, pC, pm, pn, hv, _⟩ := hh
           rw [hnm, hfm] at hv
           subst hv
           have HB1 := Lib.hid (hb.alloc hb.size (.cells #[.string (bs m), .string (bs (classD l m).su), .slice pA pi pj, .bool true, .slice pB pk pl, .slice pC pm pn] 42))
           have k0 := World.cell?_alloc_mark w1 #[.string (bs m), .string (bs (classD l m).su), .slice pA pi pj, .bool true, .slice pB pk pl, .slice pC pm pn] 42 (0, 0) 0
           have k3 := World.cell?_alloc_mark w1 #[.string (bs m), .string (bs (classD l m).su), .slice pA pi pj, .bool true, .slice pB pk pl, .slice pC pm pn] 42 (0, 0) 3
           have K0 := Lib.hid k0
           have K3 := Lib.hid k3
           have hw1 := hb.size
           clear hb k0 k3)
        | (go_at_call 16; (with_reducible refine (HOb.out _ (ClassRow.below HR.out HB1.out)).mono ?_); rintro e w2 ⟨v2, rfl, hh, hb⟩
           obtain ⟨rA, ri, rj, rB, rk, rl, rC, rm, rn, hv, _⟩ := hh
           rw [hnz, hfz] at hv
           subst hv
           have hz2 : w1.heap.size < w2.heap.size := by have := hb.size; simp at this; omega
           have d0 := (hb.cell (p := ⟨w1.heap.size, 0, none⟩) (by simp)).trans K0.out
           have d3 := (hb.cell (p := ⟨w1.heap.size, 3, none⟩) (by simp)).trans K3.out
           have hne2 : w1.heap.size ≠ w2.heap.size := by omega
           have HB2 := Lib.hid ((bnext HB1.out hb).alloc (bnext HB1.out hb).size (.cells #[.string (bs z), .string (bs (classD l z).su), .slice rA ri rj, .bool fz, .slice rB rk rl, .slice rC rm rn] 42))
           have D0 := Lib.hid ((al1 w2 (.cells #[.string (bs z), .string (bs (classD l z).su), .slice rA ri rj, .bool fz, .slice rB rk rl, .slice rC rm rn] 42)).cell (p := ⟨w1.heap.size, 0, none⟩) (by simpa using hz2) |>.trans d0)
           have Z0 := Lib.hid (World.cell?_alloc_mark w2 #[.string (bs z), .string (bs (classD l z).su), .slice rA ri rj, .bool fz, .slice rB rk rl, .slice rC rm rn] 42 (0, 0) 0)
           clear hb))
        go_ret
        exact ⟨rfl, HB2.out⟩
      | false =>
        have hfm : (classD l m).face = false := hfm0.symm.trans hf1
        cases hf2 : faceB l z with
        | true =>
          have hfz : (classD l z).face = true := hfz0.symm.trans hf2
          rw [hfj (.inr hf2)]
          clear hfj hfm0 hfz0 hf1 hf2 hch1 hch2 ho1 ho2
          go_enter Tryz.func12, Tryz.ntmps12
          go_wp2_with (first
        | (go_at_call 23; (with_reducible refine (HIa.out _).mono ?_); rintro e w9 ⟨rfl, rfl⟩)
        | (go_at_call 23; (with_reducible refine (HIb.out _).mono ?_); rintro e w9 ⟨rfl, rfl⟩)
        | (go_at_call 17; (with_reducible refine (HCa.out _).mono ?_); rintro e w9 ⟨rfl, rfl⟩)
        | (go_at_call 17; (with_reducible refine (HCb.out _).mono ?_); rintro e w9 ⟨rfl, rfl⟩)
        | (go_at_call 16; (with_reducible refine (HOa.out _ HR.out).mono ?_); rintro e w1 ⟨v1, rfl, hh, hb⟩
           obtain ⟨pA, pi, pj, pB, pk, pl, pC, pm, pn, hv, _⟩ := hh
           rw [hnm, hfm] at hv
           subst hv
           have HB1 := Lib.hid (hb.alloc hb.size (.cells #[.string (bs m), .string (bs (classD l m).su), .slice pA pi pj, .bool false, .slice pB pk pl, .slice pC pm pn] 42))
           have k0 := World.cell?_alloc_mark w1 #[.string (bs m), .string (bs (classD l m).su), .slice pA pi pj, .bool false, .slice pB pk pl, .slice pC pm pn] 42 (0, 0) 0
           have k3 := World.cell?_alloc_mark w1 #[.string (bs m), .string (bs (classD l m).su), .slice pA pi pj, .bool false, .slice pB pk pl, .slice pC pm pn] 42 (0, 0) 3
           have K0 := Lib.hid k0
           have K3 := Lib.hid k3
           have hw1 := hb.size
           clear hb k0 k3)
        | (go_at_call 16; (with_reducible refine (HOb.out _ (ClassRow.below HR.out HB1.out)).mono ?_); rintro e w2 ⟨v2, rfl, hh, hb⟩
           obtain ⟨rA, ri, rj, rB, rk, rl, rC, rm, rn, hv, _⟩ := hh
           rw [hnz, hfz] at hv
           subst hv
           have hz2 : w1.heap.size < w2.heap.size := by have := hb.size; simp at this; omega
           have d0 := (hb.cell (p := ⟨w1.heap.size, 0, none⟩) (by simp)).trans K0.out
           have d3 := (hb.cell (p := ⟨w1.heap.size, 3, none⟩) (by simp)).trans K3.out
           have hne2 : w1.heap.size ≠ w2.heap.size := by omega
           have HB2 := Lib.hid ((bnext HB1.out hb).alloc (bnext HB1.out hb).size (.cells #[.string (bs z), .string (bs (classD l z).su), .slice rA ri rj, .bool true, .slice rB rk rl, .slice rC rm rn] 42))
           have D0 := Lib.hid ((al1 w2 (.cells #[.string (bs z), .string (bs (classD l z).su), .slice rA ri rj, .bool true, .slice rB rk rl, .slice rC rm rn] 42)).cell (p := ⟨w1.heap.size, 0, none⟩) (by simpa using hz2) |>.trans d0)
           have Z0 := Lib.hid (World.cell?_alloc_mark w2 #[.string (bs z), .string (bs (classD l z).su), .slice rA ri rj, .bool true, .slice rB rk rl, .slice rC rm rn] 42 (0, 0) 0)
           clear hb))
          go_ret
          exact ⟨rfl, HB2.out⟩
        | false =>
          have hfz : (classD l z).face = false := hfz0.symm.trans hf2
          have HJa := Lib.hid (fun (i : Nat) (hi : i < (supF l m).length) h h1 => joinC_at (l := l) (m := m) (z := z) hi h h1)
          have HS1 := Lib.hid (fun W R => rsupers_any l m (supF l m) hch1 A n c W R hn (by omega))
          have HS2 := Lib.hid (fun W R => rsupers_any l z (supF l z) hch2 A n c W R hn (by omega))
          have HSz := Lib.hid (show ∀ x ∈ supF l m, (bs x).size ≤ 1000 from fun x hx => by
            rw [bs_size]
            have := name_len (known_name hV.1 (sup_known hV hkm hx))
            omega)
          have HOb2 := Lib.hid (show ∃ (i : Nat) (hi : i < (supF l m).length), (supF l z).any (· == (supF l m)[i]) = true from by
            obtain ⟨i, hi, e⟩ := List.getElem_of_mem ho1
            exact ⟨i, hi, by rw [e]; exact any_mem.2 ho2⟩)
          rw [cls_text0, ← bs_snoc2]
          clear hfj hfm0 hfz0 hf1 hf2 hch1 hch2 ho1 ho2
          obtain ⟨s, hs⟩ : ∃ s, s = supF l m := ⟨_, rfl⟩
          rw [← hs] at HJa HS1 HOb2 hl1 HSz
          obtain ⟨u, hu⟩ : ∃ u, u = supF l z := ⟨_, rfl⟩
          rw [← hu] at HJa HS2 HOb2 hl2
          obtain ⟨j, hjj⟩ : ∃ j, j = joinC l m z := ⟨_, rfl⟩
          rw [← hjj] at HJa ⊢
          clear hs hu hjj
          go_enter Tryz.func12, Tryz.ntmps12
          go_wp2_with (first
        | (go_at_call 23; (with_reducible refine (HIa.out _).mono ?_); rintro e w9 ⟨rfl, rfl⟩)
        | (go_at_call 23; (with_reducible refine (HIb.out _).mono ?_); rintro e w9 ⟨rfl, rfl⟩)
        | (go_at_call 17; (with_reducible refine (HCa.out _).mono ?_); rintro e w9 ⟨rfl, rfl⟩)
        | (go_at_call 17; (with_reducible refine (HCb.out _).mono ?_); rintro e w9 ⟨rfl, rfl⟩)
        | (go_at_call 16; (with_reducible refine (HOa.out _ HR.out).mono ?_); rintro e w1 ⟨v1, rfl, hh, hb⟩
           obtain ⟨pA, pi, pj, pB, pk, pl, pC, pm, pn, hv, _⟩ := hh
           rw [hnm, hfm] at hv
           subst hv
           have HB1 := Lib.hid (hb.alloc hb.size (.cells #[.string (bs m), .string (bs (classD l m).su), .slice pA pi pj, .bool false, .slice pB pk pl, .slice pC pm pn] 42))
           have k0 := World.cell?_alloc_mark w1 #[.string (bs m), .string (bs (classD l m).su), .slice pA pi pj, .bool false, .slice pB pk pl, .slice pC pm pn] 42 (0, 0) 0
           have k3 := World.cell?_alloc_mark w1 #[.string (bs m), .string (bs (classD l m).su), .slice pA pi pj, .bool false, .slice pB pk pl, .slice pC pm pn] 42 (0, 0) 3
           have K0 := Lib.hid k0
           have K3 := Lib.hid k3
           have hw1 := hb.size
           clear hb k0 k3)
        | (go_at_call 16; (with_reducible refine (HOb.out _ (ClassRow.below HR.out HB1.out)).mono ?_); rintro e w2 ⟨v2, rfl, hh, hb⟩
           obtain ⟨rA, ri, rj, rB, rk, rl, rC, rm, rn, hv, _⟩ := hh
           rw [hnz, hfz] at hv
           subst hv
           have hz2 : w1.heap.size < w2.heap.size := by have := hb.size; simp at this; omega
           have d0 := (hb.cell (p := ⟨w1.heap.size, 0, none⟩) (by simp)).trans K0.out
           have d3 := (hb.cell (p := ⟨w1.heap.size, 3, none⟩) (by simp)).trans K3.out
           have hne2 : w1.heap.size ≠ w2.heap.size := by omega
           have HB2 := Lib.hid ((bnext HB1.out hb).alloc (bnext HB1.out hb).size (.cells #[.string (bs z), .string (bs (classD l z).su), .slice rA ri rj, .bool false, .slice rB rk rl, .slice rC rm rn] 42))
           have D0 := Lib.hid ((al1 w2 (.cells #[.string (bs z), .string (bs (classD l z).su), .slice rA ri rj, .bool false, .slice rB rk rl, .slice rC rm rn] 42)).cell (p := ⟨w1.heap.size, 0, none⟩) (by simpa using hz2) |>.trans d0)
           have Z0 := Lib.hid (World.cell?_alloc_mark w2 #[.string (bs z), .string (bs (classD l z).su), .slice rA ri rj, .bool false, .slice rB rk rl, .slice rC rm rn] 42 (0, 0) 0)
           clear hb)
            | (go_at_call 24; (with_reducible refine (HS1.out _ (ClassRow.below HR.out HB2.out)).mono ?_); rintro e w3 ⟨v3, rfl, hv, hb⟩
               obtain ⟨M, d3', rfl⟩ := hv.form
               have HO3 := Lib.hid hv
               have z0 := (hb.cell (p := ⟨w2.heap.size, 0, none⟩) (by simp)).trans Z0.out
               have HB3 := Lib.hid (bnext HB2.out hb)
               clear hb hv)
            | (go_at_call 24; (with_reducible refine (HS2.out _ (ClassRow.below HR.out HB3.out)).mono ?_); rintro e w4 ⟨v4, rfl, hv, hb⟩
               obtain ⟨M2, d4, rfl⟩ := hv.form
               have HO4 := Lib.hid hv.row
               have HO5 := Lib.hid (HO3.out.below hb).row
               have HB4 := Lib.hid (bnext HB3.out hb)
               clear hb hv))
          go_loop [14] (fun i => ∃ t : Nat, t ≤ s.length ∧ i = .int .i64 t ∧ Hid (∀ (x : Nat) (hx : x < s.length), x < t → u.any (· == s[x]) = false)) (fun i => s.length - (intOf i).toNat)
          case atStart => exact ⟨0, Nat.zero_le _, rfl, Lib.hid (fun x hx h => by omega)⟩
          case round =>
            obtain ⟨t, ht, rfl, HT⟩ := hrel
            by_cases hlt : t < s.length
            · obtain ⟨b1, o1, rfl, hb1, hx1⟩ := SRow.at_ HO5.out hlt
              rw [Nat.mul_one] at hx1
              unfold StrAt at hx1
              have hin := rin_any M2 u.length d4 u s[t] w4 HO4.out (by omega)
              have hja := fun h1 => HJa.out t hlt HT.out h1
              have hsz := HSz.out s[t] (List.getElem_mem hlt)
              have hnx := fun (h : u.any (· == s[t]) = false) => show ∀ (x : Nat) (hx : x < s.length), x < t + 1 → u.any (· == s[x]) = false from fun x hx hxt => by
                by_cases e : x = t
                · subst e; exact h
                · exact HT.out x hx (by omega)
              cases hany : u.any (· == s[t]) with
              | true =>
                rw [hany] at hin
                have hj2 := hja hany
                have HIn := Lib.hid hin
                have HJ2 := Lib.hid hj2
                clear hin hja hnx hany hj2
                generalize s[t] = y at *
                go_wp2_with (first
                  | (go_at_call 18; (with_reducible refine HIn.out.mono ?_); rintro e w9 ⟨rfl, rfl⟩))
                go_ret
                exact ⟨by rw [HJ2.out]; rfl, HB4.out⟩
              | false =>
                rw [hany] at hin
                have HIn := Lib.hid hin
                have HT2 := Lib.hid (hnx hany)
                clear hin hja hnx hany
                generalize s[t] = y at *
                go_wp2_with (first
                  | (go_at_call 18; (with_reducible refine HIn.out.mono ?_); rintro e w9 ⟨rfl, rfl⟩))
                go_round
                case rel => exact ⟨t + 1, by omega, by go_num, HT2⟩
                case measure => first | (simp [intOf]; omega) | simp [intOf]
            · exfalso
              obtain ⟨x, hx, hxa⟩ := HOb2.out
              have := HT.out x hx (by omega)
              rw [hxa] at this
              cases this
end Go.Proofs.YtnmfcckahglbbaaGreatDoor
