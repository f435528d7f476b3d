/- The walk of coffeehouselaw6.SubAll, from what packages sub and world say. -/
import Derived.Test.YtdpkjmdmmhnfnaaGreatDoorKiT
import Derived.Test.YtdpkjmdmmhnfnaaGreatDoorNamed
namespace Go.Proofs.YtdpkjmdmmhnfnaaGreatDoor
open Go.ChangeShapes Go.WideShapes Go.ChangeAt Go.RowKit
set_option linter.unusedVariables false
attribute [local go_sem] eqGuard_errV_nil eqGuard_errV_iface eql_errV_nil neq_errV_nil eql_errV_form

def clsT (a : List UInt8) : List UInt8 := 76 :: (a ++ [59])
theorem bs_cls (a : List UInt8) : bs (clsT a) = ⟨#[76]⟩ ++ bs a ++ ⟨#[59]⟩ := by
  apply ByteArray.ext
  simp [bs, clsT]
theorem cls_zero {l : List ClassD} {a : List UInt8} (h : kindE l (clsT a) = 0) : (KindD.cls 0 a).ok := by
  unfold kindE at h
  have h1 : isTypeB (clsT a) = true := by
    cases h1 : isTypeB (clsT a) with
    | true => rfl
    | false =>
      rw [if_neg (by rintro (h | h) <;> cases h), if_pos h1] at h
      cases h
  obtain ⟨k, hk, ht, e⟩ := type_is h1
  cases k with
  | nul => cases ht
  | top => cases ht
  | word d c =>
    rcases Nat.eq_zero_or_pos d with rfl | h
    · have : c = 76 := (List.cons.inj (show [c] = 76 :: (a ++ [59]) from e)).1
      rcases hk.2 with h | h <;> rw [h] at this <;> cases this
    · obtain ⟨d, rfl⟩ : ∃ e, d = e + 1 := ⟨d - 1, by omega⟩
      cases (List.cons.inj (show 91 :: (brksL d ++ [c]) = 76 :: (a ++ [59]) from e)).1
  | cls d m =>
    rcases Nat.eq_zero_or_pos d with rfl | h
    · have : m = a := List.append_cancel_right (List.cons.inj (show 76 :: (m ++ [59]) = 76 :: (a ++ [59]) from e)).2
      rw [← this]
      exact hk
    · obtain ⟨d, rfl⟩ : ∃ e, d = e + 1 := ⟨d - 1, by omega⟩
      cases (List.cons.inj (show 91 :: (brksL d ++ 76 :: (m ++ [59])) = 76 :: (a ++ [59]) from e)).1
/-- What the facts on a class are. -/
theorem all_facts {l : List ClassD} {q : Nat} {a b : List UInt8} {γ φ : Bool} (hγ : γ = true ↔ isQ l q a b = 0 ∧ (b = a ∨ Up l a b)) (hφ : φ = true ↔ kindsQ l q (clsT a) (clsT b) = 0 ∧ FitsT l (clsT a) (clsT b)) (h : isQ l q a b = 0)
    (h1 : kindsQ l q (clsT a) (clsT b) = 0) : φ = (γ || decide (b = objB)) := by
  obtain ⟨-, ha, hb⟩ := kindsQ_zero.1 h1
  rw [show clsT a = (KindD.cls 0 a).text from rfl, show clsT b = (KindD.cls 0 b).text from rfl] at hφ h1
  rw [fitsT_iff (cls_zero ha) (cls_zero hb)] at hφ
  rw [Bool.eq_iff_iff, hφ, Bool.or_eq_true, hγ, decide_eq_true_eq]
  constructor
  · rintro ⟨-, ⟨-, h2 | h2 | h2⟩ | ⟨h2, -⟩⟩
    · exact .inl ⟨h, .inl h2.symm⟩
    · exact .inr h2
    · exact .inl ⟨h, .inr h2⟩
    · cases h2
  · rintro (⟨-, h2 | h2⟩ | h2)
    · exact ⟨h1, .inl ⟨rfl, .inl h2.symm⟩⟩
    · exact ⟨h1, .inl ⟨rfl, .inr (.inr h2)⟩⟩
    · exact ⟨h1, .inl ⟨rfl, .inr (.inl h2)⟩⟩
set_option maxRecDepth 20000 in
set_option maxHeartbeats 8000000 in
theorem subAll_walk (KF : SubFits) (KI : SubIs) (KA : WorldAlls) (l : List ClassD) (a b : List UInt8) (A : Option Addr) (n k : Nat) (w : World) (T : Tab w) (R : ClassRow w A n k l) (NA : A = none → n = 0 ∧ k = 0) (hu : ∀ x ∈ l, x.upto 140737488351232) (hw : ∀ x ∈ l, x.wf) (hn : n ≤ 140737488351232) (ha : a.length ≤ 140737488351232) (hb : b.length ≤ 140737488351232) :
    Calls Tryz.prog 6 #[.slice A n k, .string (bs a), .string (bs b)] w fun e w' => e = .returned (.bool true) ∧ Below w.heap.size w w' := by
  obtain ⟨q, hq⟩ := world_is l
  obtain ⟨γ, hγ⟩ := bool_is (isQ l q a b = 0 ∧ (b = a ∨ Up l a b))
  obtain ⟨φ, hφ⟩ := bool_is (kindsQ l q (clsT a) (clsT b) = 0 ∧ FitsT l (clsT a) (clsT b))
  have HC := Lib.hid (fun W => named_any W)
  have HA := Lib.hid (fun W T R => KA l q a A n k W hq T R NA hu hw hn (by omega))
  have HI := Lib.hid (fun W T R => KI l q a b γ A n k W hq hγ T R NA hu hw hn (by omega) (by omega))
  have HF := Lib.hid (fun W T R => KF l q (clsT a) (clsT b) φ A n k W hq hφ T R NA hu hw hn (by simp [clsT]; omega) (by simp [clsT]; omega))
  have HS := Lib.hid (fun s (hs : Sorted l a s) => sorted_in (q := q) (b := b) hs hγ)
  have HO := Lib.hid (all_facts hγ hφ)
  have HT := Lib.hid T
  have HR := Lib.hid R
  simp only [bs_cls] at HF
  generalize kindsQ l q (clsT a) (clsT b) = q2 at HF HO
  have hsa : ¬ 9223372036854775807 < 1 + (bs a).size := by rw [bs_size]; omega
  have hsb : ¬ 9223372036854775807 < 1 + (bs b).size := by rw [bs_size]; omega
  have hsa2 : ¬ 9223372036854775807 < 1 + (bs a).size + 1 := by rw [bs_size]; omega
  have hsb2 : ¬ 9223372036854775807 < 1 + (bs b).size + 1 := by rw [bs_size]; omega
  rcases Nat.eq_zero_or_pos (isQ l q a b) with h0 | h0
  · have hna : namedQ l q a = 0 := by have := isQ_zero.1 h0; exact namedQ_zero.2 ⟨this.1, this.2.1⟩
    replace HA := Lib.hid (fun W T R => (HA.out W T R).mono fun e w' h => lists_ok hna h)
    replace HS := Lib.hid (fun s hs => HS.out s hs h0)
    replace HO := Lib.hid (HO.out h0)
    rw [h0] at HI
    have hd : ((bs b).toList == [79, 98, 106, 101, 99, 116]) = decide (b = objB) := by
      rw [ByteArray.toList_eq, bs_list]
      by_cases h : b = objB
      · subst h; rfl
      · rw [decide_eq_false h, beq_eq_false_iff_ne]; exact h
    generalize decide (b = objB) = d at hd HO
    clear hγ hφ hq KF KI KA T R NA hu hw hn ha hb h0 hna
    go_enter Tryz.func6, Tryz.ntmps6
    go_wp2_with (first
      | (go_at_call 17; (with_reducible refine (HC.out _).mono ?_); rintro e w1 ⟨rfl, rfl⟩)
      | (go_at_call 18; (with_reducible refine (HA.out _ HT.out HR.out).mono ?_); rintro e w2 ⟨A2, s2, c2, rfl, hv, hrel, h13, hb⟩
         have HX := Lib.hid (HS.out s2 hrel)
         have HV2 := Lib.hid hv.row
         have HB2 := Lib.hid hb
         clear hv hb hrel)
      | (go_at_call 13; (with_reducible refine (HI.out _ (HT.out.below HB2.out) (ClassRow.below HR.out HB2.out)).mono ?_); rintro e w3 ⟨rfl, hb⟩
         have HV3 := Lib.hid (HV2.out.below hb)
         have HB3 := Lib.hid (bnext HB2.out hb)
         clear hb)
      | (go_at_call 9; (with_reducible refine (HF.out _ (HT.out.below HB3.out) (ClassRow.below HR.out HB3.out)).mono ?_); rintro e w4 ⟨rfl, hb⟩
         have HV4 := Lib.hid (HV3.out.below hb)
         have HB4 := Lib.hid (bnext HB3.out hb)
         clear hb)
      | (go_at_call 14; (with_reducible refine (rin_any _ _ _ _ b _ HV4.out (by omega)).mono ?_); rintro e w10 ⟨rfl, rfl⟩
         rw [HX.out]))
    all_goals (
      go_ret
      refine ⟨?_, HB4.out⟩
      clear HC HA HI HF HS HT HR HX HV2 HV3 HV4 HB2 HB3 HB4
      first
      | rfl
      | (have f1 := HO.out (by assumption)
         clear HO hsa hsb hsa2 hsb2 hd
         simp_all))
  · obtain rfl : γ = false := by cases h : γ with | false => rfl | true => exact absurd (hγ.1 h).1 (by omega)
    replace HA := Lib.hid (fun W T R => (HA.out W T R).mono fun e w' (h : Lists W (namedQ l q a) (Sorted l a) e w') => (let ⟨v, s, h1, h2, _, _, _, h6⟩ := h; (⟨v, h1, h6⟩ : ∃ v, e = Ending.returned (.tuple #[v, errV (namedQ l q a)]) ∧ Below W.heap.size W w')))
    have hne : (isQ l q a b != 0) = true := by rw [bne_iff_ne]; omega
    clear hγ hφ hq KF KI KA T R NA hu hw hn ha hb h0 HO HS
    generalize isQ l q a b = g at HI hne
    generalize namedQ l q a = f at HA
    go_enter Tryz.func6, Tryz.ntmps6
    go_wp2_with (first
      | (go_at_call 17; (with_reducible refine (HC.out _).mono ?_); rintro e w1 ⟨rfl, rfl⟩)
      | (go_at_call 18; (with_reducible refine (HA.out _ HT.out HR.out).mono ?_); rintro e w2 ⟨v2, rfl, hb⟩
         have HB2 := Lib.hid hb
         clear hb)
      | (go_at_call 13; (with_reducible refine (HI.out _ (HT.out.below HB2.out) (ClassRow.below HR.out HB2.out)).mono ?_); rintro e w3 ⟨rfl, hb⟩
         have HB3 := Lib.hid (bnext HB2.out hb)
         clear hb)
      | (go_at_call 9; (with_reducible refine (HF.out _ (HT.out.below HB3.out) (ClassRow.below HR.out HB3.out)).mono ?_); rintro e w4 ⟨rfl, hb⟩
         have HB4 := Lib.hid (bnext HB3.out hb)
         clear hb))
    all_goals (
      go_ret
      exact ⟨rfl, HB4.out⟩)
end Go.Proofs.YtdpkjmdmmhnfnaaGreatDoor
