/- The contract of the reference's MethodOf. -/
import Derived.Test.YtkabkpkfglngnaaDoorDeX
namespace Go.Proofs.YtkabkpkfglngnaaDoor
open Go.ChangeShapes Go.WideShapes Go.ChangeAt Go.RowKit
set_option linter.unusedVariables false

def methS (l : List UInt8) : Bool := (methodB l).isSome
theorem methS_none {l : List UInt8} (h : methodB l = none) : methS l = false := by rw [methS, h]; rfl
theorem methS_some {l : List UInt8} {a g} (h : methodB l = some (a, g)) : methS l = true := by rw [methS, h]; rfl
theorem ret_of {s : ByteArray} {b : Bool} {v : Value} {w w' : World} (hn : b = methS s.data.toList) (h : MethodSays w s.data.toList (.bool b) (.returned v) w') : MethodSays w s.data.toList (.bool (methS s.data.toList)) (.returned v) w' := hn ▸ h
theorem typeAtN_eq {l : List UInt8} {a : Nat} (h : typeLen (l.drop a) ≠ 0) : typeAtN l a = a + typeLen (l.drop a) := by rw [typeAtN, if_neg h]
theorem headB_drop {s : ByteArray} {k : Nat} (h : k < s.size) : headB 41 (s.data.toList.drop k) = (s[k] == 41) := by rw [drop_of h]; rfl
theorem ext_range (s : ByteArray) (k n : Nat) : (s.extract k (k + n)).data.toList = (s.data.toList.drop k).take n := by simp
theorem resultB_V {g : List UInt8} (h : g = [86]) : resultB g = true := by rw [h]; rfl
theorem resultB_T {g : List UInt8} (h : isTypeB g = true) : resultB g = true := by simp [resultB, h]
theorem resultB_N {g : List UInt8} (h : ¬ g = [86]) (h2 : isTypeB g = false) : ¬ resultB g = true := by simp [resultB, h, h2]
set_option maxHeartbeats 4000000 in
set_option maxRecDepth 100000 in
theorem methodOf_any (s : ByteArray) (w : World) (hs : s.size ≤ 1048576) :
    Calls Tryd.prog 31 #[.string s] w (MethodSays w s.data.toList (.bool (methS s.data.toList))) := by
  obtain ⟨i0, hi, hz0, hz1, hz2⟩ := info_parts str_info
  have hat := Lib.hid (fun (k : Nat) (h : k ≤ s.size) w => typeAt_any s k w (by unfold maxLen; omega) h)
  have hty := Lib.hid (fun (z : ByteArray) (h : z.size ≤ s.size) w => isType_any z w (by unfold maxLen; omega))
  by_cases h0 : 0 < s.size
  · have e0 := drop_of h0
    simp only [List.drop_zero, Nat.zero_add] at e0
    by_cases h40 : s[0] = 40
    · have h40i : ((s[0].toNat : Int) != 40) = false := by rw [h40]; rfl
      obtain ⟨t, ht⟩ : ∃ t, t = s.data.toList.drop 1 := ⟨_, rfl⟩
      rw [h40, ← ht] at e0
      have HT := Lib.hid e0
      have HD := Lib.hid ht
      have hlen : ((s.size : Int) == 0) = false := by rw [beq_eq_false_iff_ne]; omega
      clear e0 ht h40
      go_enter Tryd.func31, Tryd.ntmps31
      go_wp2
      go_loopw [5, 6] (fun v i wr => ∃ (k : Nat) (xs : List (List UInt8)) (A : Option Addr) (c : Nat), i = .int .i64 k ∧ v = .slice A xs.length c ∧ k ≤ s.size ∧ xs.length + 1 ≤ k ∧ Hid (cuts t = (xs ++ (cuts (s.data.toList.drop k)).1, (cuts (s.data.toList.drop k)).2)) ∧ Hid (wr.ownsRow w.heap.size 9 1 v xs.length (xs.map strV)) ∧ Hid (Below w.heap.size w wr))
        (fun _ i _ => s.size - (intOf i).toNat)
      case atStart => exact ⟨1, [], none, 0, rfl, rfl, h0, by simp, Lib.hid (by rw [HD.out]; rfl), Lib.hid (World.ownsRow_nil _ _ _ _), Lib.hid (Below.refl _ _)⟩
      case round =>
        obtain ⟨k, xs, A, c, rfl, rfl, hks, hxk, HC, HO, HB⟩ := hrel
        have hsz := HB.out.size
        by_cases hlt : k < s.size
        · by_cases h41 : s[k] = 41
          · have h41i : ((s[k].toNat : Int) != 41) = false := by rw [h41]; rfl
            have hhd : headB 41 (s.data.toList.drop k) = true := by rw [headB_drop hlt, h41]; rfl
            have HE := meth_end HC.out hhd
            rw [List.drop_drop] at HE
            have hg := ext_drop s (k + 1)
            have hext := ext_size s (k + 1) s.size (Nat.le_refl _)
            have hr1 := Lib.hid (fun w => hty.out (s.extract (k + 1) s.size) (by omega) w)
            rw [hg] at hr1
            have HG := Lib.hid hg
            have hge : ¬ s.size ≤ k := by omega
            clear h41 hhd hg
            by_cases h5 : 5 < xs.length
            · have HS := Lib.hid (show methodB s.data.toList = none from (congrArg methodB HT.out).trans (HE.trans (if_neg (fun h => by omega))))
              have h5i : 5 < (xs.length : Int) := by omega
              clear HE
              go_wp2
              go_ret3
              exact ret_of (methS_none HS.out).symm (says_none HS.out HB.out)
            · have h5i : ¬ 5 < (xs.length : Int) := by omega
              by_cases hT : isTypeB (s.data.toList.drop (k + 1)) = true
              · have HS := Lib.hid (show methodB s.data.toList = some (xs, s.data.toList.drop (k + 1)) from (congrArg methodB HT.out).trans (HE.trans (if_pos ⟨by omega, resultB_T hT⟩)))
                rw [hT] at hr1
                clear HE hT
                go_wp2_with (first | (go_at_call 17; with_reducible refine (hr1.out _).mono ?_; rintro e w' ⟨rfl, rfl⟩))
                all_goals
                  go_ret3
                  exact ret_of (methS_some HS.out).symm (says_some HS.out HB.out HG.out HO.out)
              · have hT' : isTypeB (s.data.toList.drop (k + 1)) = false := by simpa using hT
                rw [hT'] at hr1
                have HY := Lib.hid (show s.data.toList.drop (k + 1) = [86] → methodB s.data.toList = some (xs, s.data.toList.drop (k + 1)) from fun hv => (congrArg methodB HT.out).trans (HE.trans (if_pos ⟨by omega, resultB_V hv⟩)))
                have HN := Lib.hid (show ¬ s.data.toList.drop (k + 1) = [86] → methodB s.data.toList = none from fun hv => (congrArg methodB HT.out).trans (HE.trans (if_neg (fun h => resultB_N hv hT' h.2))))
                clear HE hT hT'
                go_wp2_with (first | (go_at_call 17; with_reducible refine (hr1.out _).mono ?_; rintro e w' ⟨rfl, rfl⟩))
                all_goals
                  go_ret3
                · have hv : ¬ (s.extract (k + 1) s.size).toList = [86] := by assumption
                  rw [ByteArray.toList_eq, HG.out] at hv
                  exact ret_of (methS_none (HN.out hv)).symm (says_none (HN.out hv) HB.out)
                · have hv : (s.extract (k + 1) s.size).toList = [86] := by assumption
                  rw [ByteArray.toList_eq, HG.out] at hv
                  exact ret_of (methS_some (HY.out hv)).symm (says_some (HY.out hv) HB.out HG.out HO.out)
          · have h41i : ((s[k].toNat : Int) != 41) = true := by rw [bne_iff_ne]; intro h; exact h41 (by rw [u8eq]; exact h)
            have hhd : headB 41 (s.data.toList.drop k) = false := by rw [headB_drop hlt]; simpa using h41
            have ht1 := Lib.hid (fun w => hat.out k hks w)
            by_cases h0 : typeLen (s.data.toList.drop k) = 0
            · have HS := Lib.hid (show methodB s.data.toList = none from (congrArg methodB HT.out).trans (meth_not HC.out hhd h0))
              have e : typeAtN s.data.toList k = 0 := by rw [typeAtN, if_pos h0]
              rw [e] at ht1
              clear h0 h41 hhd e
              go_wp2_with (first | (go_at_call 30; with_reducible refine (ht1.out _).mono ?_; rintro e w' ⟨rfl, rfl⟩))
              go_ret3
              exact ret_of (methS_none HS.out).symm (says_none HS.out HB.out)
            · have hle : typeLen (s.data.toList.drop k) ≤ s.size - k := by have := typeLen_le (s.data.toList.drop k); simpa using this
              have HC2 := Lib.hid (meth_step HC.out h0)
              rw [typeAtN_eq h0] at ht1
              obtain ⟨n, hn⟩ : ∃ n, n = typeLen (s.data.toList.drop k) := ⟨_, rfl⟩
              rw [← hn] at ht1 h0 hle HC2
              have hn0 : 0 < n := by omega
              have hkn : k + n ≤ s.size := by omega
              have hne : (((k + n : Nat) : Int) == 0) = false := by rw [beq_eq_false_iff_ne]; omega
              clear hn h0 h41 hhd
              go_wp2_with (first
                | (go_at_call 30; with_reducible refine (ht1.out _).mono ?_; rintro e w' ⟨rfl, rfl⟩)
                | (at_builtin; refine wpList_append_own _ rfl _ _ 22 rfl w.heap.size 9 i0 (.string ByteArray.empty) 1 16 Tryd.underlying22 hi hz0 hz1 hz2 rfl (by decide) _ _ _ rfl (HO.out.alloc _) ⟨wr.heap.size, 0, none⟩ 1 1 [.string (s.extract k (k + n))] rfl rfl (cell_one_new _ _ _) (fun x hx => by simp at hx; subst hx; rfl) (by unfold maxLen; omega) (by omega) (by simp; omega) ?_; intro v' w3 hown' hgrow3 hnil3; have HO2 := Lib.hid hown'; have HG := Lib.hid hgrow3; clear hown' hgrow3 hnil3))
              go_roundw
              case rel =>
                obtain ⟨A', c', rfl⟩ := own_form HO2.out
                refine ⟨k + n, xs ++ [(s.data.toList.drop k).take n], A', c', by go_num, by simp, by omega, by simp; omega, Lib.hid (by have := HC2.out; rw [List.drop_drop] at this; exact this), Lib.hid (own_more (ext_range s k n) HO2.out), Lib.hid ?_⟩
                exact (HB.out.alloc (by omega) _).grown HG.out (by simp; omega) (fun q hq => (HO.out.lt q hq).1)
              case measure => first | (simp [intOf]; omega) | simp [intOf]
        · obtain rfl : k = s.size := by omega
          have HS := Lib.hid (show methodB s.data.toList = none by
            have e : s.data.toList.drop s.size = [] := List.drop_eq_nil_of_le (by simp)
            refine (congrArg methodB HT.out).trans (meth_not HC.out ?_ ?_)
            · rw [e]; rfl
            · rw [e]; exact typeLen_nil)
          go_wp2
          go_ret3
          exact ret_of (methS_none HS.out).symm (says_none HS.out HB.out)
    · have h40i : ((s[0].toNat : Int) != 40) = true := by rw [bne_iff_ne]; intro h; exact h40 (by rw [u8eq]; exact h)
      have hlen : ((s.size : Int) == 0) = false := by rw [beq_eq_false_iff_ne]; omega
      have HS := Lib.hid (show methodB s.data.toList = none from meth_start (by rw [e0]; simpa [headB] using h40))
      clear e0 h40
      go_enter Tryd.func31, Tryd.ntmps31
      go_wp2
      go_ret3
      exact ret_of (methS_none HS.out).symm (says_none HS.out (Below.refl _ _))
  · have hlen : ((s.size : Int) == 0) = true := by rw [show s.size = 0 by omega]; rfl
    have HS := Lib.hid (show methodB s.data.toList = none by
      rw [show s.data.toList = [] from List.eq_nil_of_length_eq_zero (by have : s.data.toList.length = s.size := Array.length_toList; omega)]; rfl)
    go_enter Tryd.func31, Tryd.ntmps31
    go_wp2
    go_ret3
    exact ret_of (methS_none HS.out).symm (says_none HS.out (Below.refl _ _))
end Go.Proofs.YtkabkpkfglngnaaDoor
