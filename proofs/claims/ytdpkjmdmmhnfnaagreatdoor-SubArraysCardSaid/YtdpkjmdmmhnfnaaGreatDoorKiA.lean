/- The walk of coffeehouselaw2.SubArrays, from what package sub says. -/
import Derived.Test.YtdpkjmdmmhnfnaaGreatDoorKiO
namespace Go.Proofs.YtdpkjmdmmhnfnaaGreatDoor
open Go.ChangeShapes Go.WideShapes Go.ChangeAt Go.RowKit
set_option linter.unusedVariables false
attribute [local go_sem] eqGuard_errV_nil eqGuard_errV_iface eql_errV_nil neq_errV_nil eql_errV_form

def objT : List UInt8 := [76, 79, 98, 106, 101, 99, 116, 59]
theorem kind_zero {l : List ClassD} {a : List UInt8} (h : kindE l (91 :: a) = 0) : ∃ k : KindD, k.ok ∧ 0 < k.depth ∧ k.text = 91 :: a ∧ k.elem.text = a := by
  unfold kindE at h
  have h1 : isTypeB (91 :: a) = true := by
    cases h1 : isTypeB (91 :: a) with
    | true => rfl
    | false =>
      rw [if_neg (by rintro (h | h) <;> cases h), if_pos h1] at h
      cases h
  obtain ⟨k, hk, ht, e⟩ := type_is h1
  have hd : 0 < k.depth := by
    cases k with
    | nul => cases ht
    | top => cases ht
    | word d c =>
      rcases Nat.eq_zero_or_pos d with rfl | h
      · have : c = 91 := (List.cons.inj (show [c] = 91 :: a from e)).1
        rcases hk.2 with h | h <;> rw [h] at this <;> cases this
      · exact h
    | cls d n =>
      rcases Nat.eq_zero_or_pos d with rfl | h
      · cases e
      · exact h
  exact ⟨k, hk, hd, e, by have := elem_text hd; rw [e] at this; exact (List.cons.inj this).2.symm⟩
theorem elem_ref {k : KindD} (hk : k.ok) (hd : 0 < k.depth) : refWordB k.elem.text = !k.elem.isRef := by
  have := ref_iff (elem_ok hk)
  rw [type_iff (elem_ok hk), elem_type hd, Bool.true_and] at this
  rw [← this, Bool.not_not]
/-- What arrays' facts are. -/
theorem array_facts {l : List ClassD} {q : Nat} {a b : List UInt8} {ab x o : Bool}
    (hab : ab = true ↔ kindsQ l q a b = 0 ∧ FitsT l a b) (hx : x = true ↔ kindsQ l q (91 :: a) (91 :: b) = 0 ∧ FitsT l (91 :: a) (91 :: b)) (ho : o = true ↔ kindsQ l q (91 :: a) objT = 0 ∧ FitsT l (91 :: a) objT)
    (h1 : kindsQ l q a b = 0) (h2 : kindsQ l q (91 :: a) (91 :: b) = 0) (h3 : kindsQ l q (91 :: a) objT = 0) :
    o = true ∧ (((refWordB a || refWordB b) = true ∧ x = decide (a = b)) ∨ ((refWordB a || refWordB b) = false ∧ x = ab)) := by
  obtain ⟨hq0, ha, hb⟩ := kindsQ_zero.1 h1
  obtain ⟨-, ha1, hb1⟩ := kindsQ_zero.1 h2
  obtain ⟨u, hu, hud, eu, rfl⟩ := kind_zero ha1
  obtain ⟨v, hv, hvd, ev, rfl⟩ := kind_zero hb1
  rw [fitsT_iff (elem_ok hu) (elem_ok hv)] at hab
  rw [← eu, ← ev, fitsT_iff hu hv] at hx
  rw [← eu, show objT = (KindD.cls 0 objB).text from rfl, fitsT_iff hu (show (KindD.cls 0 objB).ok from ⟨by decide, by decide⟩)] at ho
  rw [elem_ref hu hud, elem_ref hv hvd]
  have e1 : kindsQ l q u.text v.text = 0 := by rw [eu, ev]; exact h2
  have e3 : kindsQ l q u.text (KindD.cls 0 objB).text = 0 := by rw [eu]; exact h3
  refine ⟨ho.2 ⟨e3, ?_⟩, ?_⟩
  · cases u with
    | nul => cases hud
    | top => cases hud
    | word d c => exact ⟨rfl, hud⟩
    | cls d n => exact .inr ⟨hud, rfl⟩
  · by_cases huv : u = v
    · subst huv
      have hx1 : x = true := hx.2 ⟨e1, .refl l u⟩
      have hab1 : ab = true := hab.2 ⟨h1, .refl l u.elem⟩
      rw [hx1, hab1]
      cases u.elem.isRef <;> simp
    · have hne : u.elem.text ≠ v.elem.text := fun h => huv (text_inj hu hv (by rw [eu, ev, h]))
      have hf := fits_elem (w := l) hud hvd huv
      cases h4 : u.elem.isRef with
      | false =>
        refine .inl ⟨by simp, ?_⟩
        rw [decide_eq_false hne]
        cases x with
        | false => rfl
        | true => have := (hf.1 (hx.1 rfl).2).1; rw [h4] at this; cases this
      | true =>
        cases h5 : v.elem.isRef with
        | false =>
          refine .inl ⟨by simp, ?_⟩
          rw [decide_eq_false hne]
          cases x with
          | false => rfl
          | true => have := (hf.1 (hx.1 rfl).2).2.1; rw [h5] at this; cases this
        | true =>
          refine .inr ⟨by simp, ?_⟩
          cases x with
          | true => exact (hab.2 ⟨h1, (hf.1 (hx.1 rfl).2).2.2⟩).symm
          | false =>
            cases ab with
            | false => rfl
            | true => exact hx.2 ⟨e1, hf.2 ⟨h4, h5, (hab.1 rfl).2⟩⟩
theorem bs_brk (a : List UInt8) : bs (91 :: a) = ⟨#[91]⟩ ++ bs a := rfl
set_option maxRecDepth 20000 in
set_option maxHeartbeats 8000000 in
theorem subArrays_walk (KF : SubFits) (KI : SubIs) (l : List ClassD) (a b : List UInt8) (A : Option Addr) (n k : Nat) (w : World) (T : Tab w) (R : ClassRow w A n k l) (NA : A = none → n = 0 ∧ k = 0) (hu : ∀ x ∈ l, x.upto 140737488351232) (hw : ∀ x ∈ l, x.wf) (hn : n ≤ 140737488351232) (ha : a.length ≤ 140737488351232) (hb : b.length ≤ 140737488351232) :
    Calls Tryz.prog 5 #[.slice A n k, .string (bs a), .string (bs b)] w fun e w' => e = .returned (.bool true) ∧ Below w.heap.size w w' := by
  obtain ⟨q, hq⟩ := world_is l
  obtain ⟨ab, hab⟩ := bool_is (kindsQ l q a b = 0 ∧ FitsT l a b)
  obtain ⟨x, hx⟩ := bool_is (kindsQ l q (91 :: a) (91 :: b) = 0 ∧ FitsT l (91 :: a) (91 :: b))
  obtain ⟨o, ho⟩ := bool_is (kindsQ l q (91 :: a) objT = 0 ∧ FitsT l (91 :: a) objT)
  have ha1 : (91 :: a).length ≤ 140737488355328 := by rw [List.length_cons]; omega
  have hb1 : (91 :: b).length ≤ 140737488355328 := by rw [List.length_cons]; omega
  have HC := Lib.hid (fun W T => catIs_any KI W T)
  have H1 := Lib.hid (fun W T R => KF l q a b ab A n k W hq hab T R NA hu hw hn (by omega) (by omega))
  have H2 := Lib.hid (fun W T R => KF l q (91 :: a) (91 :: b) x A n k W hq hx T R NA hu hw hn ha1 hb1)
  have H3 := Lib.hid (fun W T R => KF l q (91 :: a) objT o A n k W hq ho T R NA hu hw hn ha1 (by decide))
  have HO := Lib.hid (array_facts hab hx ho)
  have HW1 := Lib.hid (fun W => refIsWord_any (bs a) W)
  have HW2 := Lib.hid (fun W => refIsWord_any (bs b) W)
  simp only [bs_list] at HW1 HW2
  have HT := Lib.hid T
  have HR := Lib.hid R
  generalize kindsQ l q a b = q1 at H1 HO
  generalize kindsQ l q (91 :: a) (91 :: b) = q2 at H2 HO
  generalize kindsQ l q (91 :: a) objT = q3 at H3 HO
  rw [show bs objT = ⟨#[76, 79, 98, 106, 101, 99, 116, 59]⟩ from rfl] at H3
  simp only [bs_brk] at H2 H3
  generalize refWordB a = wa at HW1 HO
  generalize refWordB b = wb at HW2 HO
  have hsa : ¬ 9223372036854775807 < 1 + (bs a).size := by rw [bs_size]; omega
  have hsb : ¬ 9223372036854775807 < 1 + (bs b).size := by rw [bs_size]; omega
  have hd : ((bs a).toList == (bs b).toList) = decide (a = b) := by
    rw [ByteArray.toList_eq, ByteArray.toList_eq, bs_list, bs_list]
    by_cases h : a = b <;> simp [h]
  generalize decide (a = b) = d at hd HO
  clear hab hx ho hq KF KI T R NA hu hw hn ha hb ha1 hb1
  go_enter Tryz.func5, Tryz.ntmps5
  go_wp2_with (first
    | (go_at_call 7; (with_reducible refine (HC.out _ HT.out).mono ?_); rintro e w1 ⟨rfl, hb⟩
       have HB1 := Lib.hid hb
       clear hb)
    | (go_at_call 9; (with_reducible refine (H1.out _ (HT.out.below HB1.out) (ClassRow.below HR.out HB1.out)).mono ?_); rintro e w2 ⟨rfl, hb⟩
       have HB2 := Lib.hid (bnext HB1.out hb)
       clear hb)
    | (go_at_call 9; (with_reducible refine (H2.out _ (HT.out.below HB2.out) (ClassRow.below HR.out HB2.out)).mono ?_); rintro e w3 ⟨rfl, hb⟩
       have HB3 := Lib.hid (bnext HB2.out hb)
       clear hb)
    | (go_at_call 9; (with_reducible refine (H3.out _ (HT.out.below HB3.out) (ClassRow.below HR.out HB3.out)).mono ?_); rintro e w4 ⟨rfl, hb⟩
       have HB4 := Lib.hid (bnext HB3.out hb)
       clear hb)
    | (go_at_call 16; (with_reducible refine (HW1.out _).mono ?_); rintro e w5 ⟨rfl, rfl⟩)
    | (go_at_call 16; (with_reducible refine (HW2.out _).mono ?_); rintro e w5 ⟨rfl, rfl⟩))
  all_goals (
    go_ret
    refine ⟨?_, HB4.out⟩
    clear HC H1 H2 H3 HW1 HW2 HT HR HB1 HB2 HB3 HB4
    first
    | rfl
    | (obtain ⟨f1, f2⟩ := HO.out (by assumption) (by assumption) (by simp_all)
       clear HO hsa hsb
       simp_all))
end Go.Proofs.YtdpkjmdmmhnfnaaGreatDoor
