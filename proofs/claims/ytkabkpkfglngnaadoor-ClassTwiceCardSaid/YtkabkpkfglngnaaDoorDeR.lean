/- The contracts of the reference's functions on types: TypeAt, IsType. -/
import Derived.Test.YtkabkpkfglngnaaDoorDe2
namespace Go.Proofs.YtkabkpkfglngnaaDoor
open Go.ChangeShapes Go.WideShapes Go.ChangeAt Go.RowKit
set_option linter.unusedVariables false

def typeAtN (l : List UInt8) (a : Nat) : Nat := if typeLen (l.drop a) = 0 then 0 else a + typeLen (l.drop a)
theorem drop_brk (s : ByteArray) (a : Nat) {i : Nat} (h0 : a ≤ i) (h : i < a + brk (s.data.toList.drop a)) : ∃ h' : i < s.size, ((s[i].toNat : Int) == 91) = true := by
  obtain ⟨x, y⟩ := tw_lt _ _ (i - a) (show i - a < brk (s.data.toList.drop a) by omega)
  have hi : i < s.size := by simp at x; omega
  refine ⟨hi, ?_⟩
  have : s[i] = 91 := by
    have y' : ((s.data.toList.drop a)[i - a]'x == 91) = true := y
    rw [List.getElem_drop] at y'
    have e : a + (i - a) = i := by omega
    simp only [e] at y'
    exact eq_of_beq (show (s.data.toList[i]'(by simpa using hi) == 91) = true from y')
  rw [this]; rfl
theorem drop_brk_at (s : ByteArray) (a : Nat) (h : a + brk (s.data.toList.drop a) < s.size) : ((s[a + brk (s.data.toList.drop a)].toNat : Int) == 91) = false := by
  have b := tw_at (· == 91) (s.data.toList.drop a) (show brk (s.data.toList.drop a) < _ by simp; omega)
  rw [beq_eq_false_iff_ne]
  intro he
  have h2 : s[a + brk (s.data.toList.drop a)] = 91 := by rw [u8eq]; exact he
  have h5 : ((s.data.toList.drop a)[brk (s.data.toList.drop a)]'(by simp; omega) == 91) = false := b
  rw [List.getElem_drop] at h5
  have h6 : (s.data.toList[a + brk (s.data.toList.drop a)]'(by simpa using h)) = 91 := h2
  rw [h6] at h5; cases h5
theorem drop_semi (s : ByteArray) (a : Nat) {i : Nat} (h0 : a ≤ i) (h : i < a + semi (s.data.toList.drop a)) : ∃ h' : i < s.size, ((s[i].toNat : Int) != 59) = true := by
  obtain ⟨x, y⟩ := tw_lt _ _ (i - a) (show i - a < semi (s.data.toList.drop a) by omega)
  have hi : i < s.size := by simp at x; omega
  refine ⟨hi, ?_⟩
  rw [bne_iff_ne]
  intro he
  have this : s[i] = 59 := by rw [u8eq]; exact he
  have y' : ((s.data.toList.drop a)[i - a]'x != 59) = true := y
  rw [List.getElem_drop] at y'
  have e : a + (i - a) = i := by omega
  simp only [e] at y'
  have h6 : (s.data.toList[i]'(by simpa using hi)) = 59 := this
  rw [h6] at y'; cases y'
theorem drop_semi_at (s : ByteArray) (a : Nat) (h : a + semi (s.data.toList.drop a) < s.size) : ((s[a + semi (s.data.toList.drop a)].toNat : Int) != 59) = false := by
  have b := tw_at (· != 59) (s.data.toList.drop a) (show semi (s.data.toList.drop a) < _ by simp; omega)
  have h5 : ((s.data.toList.drop a)[semi (s.data.toList.drop a)]'(by simp; omega) != 59) = false := b
  rw [List.getElem_drop] at h5
  have h6 : (s.data.toList[a + semi (s.data.toList.drop a)]'(by simpa using h)) = 59 := by simpa using h5
  have h7 : s[a + semi (s.data.toList.drop a)] = 59 := h6
  rw [h7]; rfl

set_option maxHeartbeats 2000000 in
theorem typeAt_any (s : ByteArray) (a : Nat) (w : World) (hs : s.size ≤ maxLen) (ha : a ≤ s.size) :
    Calls Tryd.prog 30 #[.string s, .int .i64 a] w fun e w' => e = .returned (.int .i64 (typeAtN s.data.toList a)) ∧ w = w' := by
  unfold maxLen at hs
  have hb : brk (s.data.toList.drop a) ≤ s.size - a := by have := brk_le (s.data.toList.drop a); simpa using this
  have HL := Lib.hid (fun i h0 h => drop_brk s a (i := i) h0 h)
  have HA := Lib.hid (drop_brk_at s a)
  obtain ⟨e, he⟩ : ∃ e, e = a + brk (s.data.toList.drop a) := ⟨_, rfl⟩
  rw [← he] at HL HA
  have HB := Lib.hid (show brk (s.data.toList.drop a) = e - a by omega)
  have hea : a ≤ e := by omega
  have hes : e ≤ s.size := by omega
  clear hb he
  go_enter Tryd.func30, Tryd.ntmps30
  go_wp2
  go_loop [5] (fun i => ∃ k : Nat, a ≤ k ∧ k ≤ e ∧ i = .int .i64 k) (fun i => e - (intOf i).toNat)
  case atStart => exact ⟨a, Nat.le_refl _, hea, rfl⟩
  case round =>
    obtain ⟨k, hk0, hk, rfl⟩ := hrel
    by_cases hlt : k < e
    · obtain ⟨h1, h2⟩ := HL.out k hk0 hlt
      go_wp2
      go_round
      case rel => exact ⟨k + 1, by omega, by omega, by go_num⟩
      case measure => first | (simp [intOf]; omega) | simp [intOf]
    · obtain rfl : k = e := by omega
      have hsub : ((k - a : Nat) : Int) = (k : Int) - a := by omega
      by_cases hz : k < s.size
      · have h2 := HA.out hz
        have hdr : (s.data.toList.drop a).drop (k - a) = s[k] :: s.data.toList.drop (k + 1) := by
          rw [List.drop_drop, show a + (k - a) = k by omega]; exact drop_of hz
        have ht : typeLen (s.data.toList.drop a) = if k - a ≤ 3 ∧ itemLen (s[k] :: s.data.toList.drop (k + 1)) ≠ 0 then k - a + itemLen (s[k] :: s.data.toList.drop (k + 1)) else 0 := by
          rw [typeLen_eq, HB.out, hdr]
        by_cases h3 : 3 < k - a
        · have HZ := Lib.hid (show typeAtN s.data.toList a = 0 by
            have : ¬ (k - a ≤ 3) := by omega
            rw [typeAtN, ht]; simp [this])
          have h3i : 3 < (k : Int) - a := by omega
          clear ht hdr hsub h3
          go_wp2
          go_ret
          exact ⟨ret_int (by rw [HZ.out]; rfl), rfl⟩
        · have h3' : k - a ≤ 3 := by omega
          have h3i : ¬ 3 < (k : Int) - a := by omega
          have HT : typeAtN s.data.toList a = if itemLen (s[k] :: s.data.toList.drop (k + 1)) = 0 then 0 else k + itemLen (s[k] :: s.data.toList.drop (k + 1)) := by
            rw [typeAtN, ht]
            by_cases h4 : itemLen (s[k] :: s.data.toList.drop (k + 1)) = 0
            · simp [h4]
            · simp [h3', h4]; omega
          clear ht hdr h3 h3'
          by_cases hI : s[k] = 73
          · have h5 : ((s[k].toNat : Int) == 73) = true := by rw [hI]; rfl
            have HZ := Lib.hid (show typeAtN s.data.toList a = k + 1 by rw [HT, hI]; simp [itemLen])
            clear HT hI
            go_wp2
            go_ret
            exact ⟨ret_int (by rw [HZ.out]; rfl), rfl⟩
          · have h5 : ((s[k].toNat : Int) == 73) = false := by rw [beq_eq_false_iff_ne]; intro h; exact hI (by rw [u8eq]; exact h)
            by_cases hJ : s[k] = 74
            · have h6 : ((s[k].toNat : Int) == 74) = true := by rw [hJ]; rfl
              have HZ := Lib.hid (show typeAtN s.data.toList a = k + 1 by rw [HT, hJ]; simp [itemLen])
              clear HT hI hJ
              go_wp2
              go_ret
              exact ⟨ret_int (by rw [HZ.out]; rfl), rfl⟩
            · have h6 : ((s[k].toNat : Int) == 74) = false := by rw [beq_eq_false_iff_ne]; intro h; exact hJ (by rw [u8eq]; exact h)
              by_cases hL : s[k] = 76
              · have h7 : ((s[k].toNat : Int) != 76) = false := by rw [hL]; rfl
                have hit : itemLen (s[k] :: s.data.toList.drop (k + 1)) = if semi (s.data.toList.drop (k + 1)) < (s.data.toList.drop (k + 1)).length ∧ nameB ((s.data.toList.drop (k + 1)).take (semi (s.data.toList.drop (k + 1)))) = true then semi (s.data.toList.drop (k + 1)) + 2 else 0 := by
                  simp [itemLen, hL]
                have hsl := semi_le (s.data.toList.drop (k + 1))
                simp only [List.length_drop] at hsl hit
                have HS := Lib.hid (fun i h0 h => drop_semi s (k + 1) (i := i) h0 h)
                have HE := Lib.hid (drop_semi_at s (k + 1))
                obtain ⟨f, hf⟩ : ∃ f, f = k + 1 + semi (s.data.toList.drop (k + 1)) := ⟨_, rfl⟩
                rw [← hf] at HS HE
                rw [show semi (s.data.toList.drop (k + 1)) = f - (k + 1) by omega] at hit hsl
                have hsz : s.data.toList.length = s.size := by simp
                rw [hsz] at hsl hit
                have HY := Lib.hid (show f < s.size → nameB ((s.data.toList.drop (k + 1)).take (f - (k + 1))) = true → typeAtN s.data.toList a = f + 1 from fun h1 h2 => by
                  have e := hit
                  rw [if_pos ⟨by omega, h2⟩] at e
                  rw [HT, e, if_neg (by omega)]; omega)
                have HN := Lib.hid (show ¬ (f < s.size ∧ nameB ((s.data.toList.drop (k + 1)).take (f - (k + 1))) = true) → typeAtN s.data.toList a = 0 from fun h => by
                  have e := hit
                  rw [if_neg (fun h' => h ⟨by omega, h'.2⟩)] at e
                  rw [HT, e, if_pos rfl])
                have hf1 : k + 1 ≤ f := by omega
                have hf2 : f ≤ s.size := by omega
                clear hsz hsl hit HT hf hI hJ hL
                go_wp2
                go_loop [6] (fun j => ∃ n : Nat, k + 1 ≤ n ∧ n ≤ f ∧ j = .int .i64 n) (fun j => f - (intOf j).toNat)
                case atStart => exact ⟨k + 1, Nat.le_refl _, hf1, by go_num⟩
                case round =>
                  obtain ⟨n, hn0, hn, rfl⟩ := hrel
                  by_cases hlt2 : n < f
                  · obtain ⟨h8, h9⟩ := HS.out n hn0 hlt2
                    go_wp2
                    go_round
                    case rel => exact ⟨n + 1, by omega, by omega, by go_num⟩
                    case measure => first | (simp [intOf]; omega) | simp [intOf]
                  · obtain rfl : n = f := by omega
                    by_cases hnz : n < s.size
                    · have h9 := HE.out hnz
                      have hex : (s.extract (k + 1) n).data.toList = (s.data.toList.drop (k + 1)).take (n - (k + 1)) := by simp
                      have hes2 : (s.extract (k + 1) n).size ≤ maxLen := by simp [maxLen]; omega
                      have hne : ((n : Int) == s.size) = false := by rw [beq_eq_false_iff_ne]; omega
                      by_cases hnm : nameB ((s.data.toList.drop (k + 1)).take (n - (k + 1))) = true
                      · have hck := Lib.hid (fun w => isName_any (s.extract (k + 1) n) w hes2)
                        rw [hex, hnm] at hck
                        have HZ := Lib.hid (show typeAtN s.data.toList a = n + 1 from HY.out hnz hnm)
                        clear hex hes2 hnm
                        go_wp2_with (go_at_call 15; with_reducible refine (hck.out _).mono ?_; rintro e w' ⟨rfl, rfl⟩)
                        go_ret
                        exact ⟨ret_int (by rw [HZ.out]; rfl), rfl⟩
                      · have hnm' : nameB ((s.data.toList.drop (k + 1)).take (n - (k + 1))) = false := by simpa using hnm
                        have hck := Lib.hid (fun w => isName_any (s.extract (k + 1) n) w hes2)
                        rw [hex, hnm'] at hck
                        have HZ := Lib.hid (show typeAtN s.data.toList a = 0 from HN.out fun h => hnm h.2)
                        clear hex hes2 hnm hnm'
                        go_wp2_with (go_at_call 15; with_reducible refine (hck.out _).mono ?_; rintro e w' ⟨rfl, rfl⟩)
                        go_ret
                        exact ⟨ret_int (by rw [HZ.out]; rfl), rfl⟩
                    · obtain rfl : n = s.size := by omega
                      have HZ := Lib.hid (show typeAtN s.data.toList a = 0 from HN.out fun h => Nat.lt_irrefl _ h.1)
                      go_wp2
                      go_ret
                      exact ⟨ret_int (by rw [HZ.out]; rfl), rfl⟩
              · have h7 : ((s[k].toNat : Int) != 76) = true := by rw [bne_iff_ne]; intro h; exact hL (by rw [u8eq]; exact h)
                have HZ := Lib.hid (show typeAtN s.data.toList a = 0 by rw [HT]; simp [itemLen, hI, hJ, hL])
                clear HT hI hJ hL
                go_wp2
                go_ret
                exact ⟨ret_int (by rw [HZ.out]; rfl), rfl⟩
      · obtain rfl : k = s.size := by omega
        have HZ := Lib.hid (show typeAtN s.data.toList a = 0 by
          rw [typeAtN, typeLen_eq, HB.out, List.drop_drop, List.drop_eq_nil_of_le (by simp; omega)]; simp [itemLen])
        by_cases h3 : 3 < (s.size : Int) - a
        all_goals
          go_wp2
          go_ret
          exact ⟨ret_int (by rw [HZ.out]; rfl), rfl⟩

theorem isType_any (s : ByteArray) (w : World) (hs : s.size ≤ maxLen) : Calls Tryd.prog 17 #[.string s] w fun e w' => e = .returned (.bool (isTypeB s.data.toList)) ∧ w = w' := by
  have hz0 : ∀ w, Calls Tryd.prog 30 #[.string s, .int .i64 0] w fun e w' => e = .returned (.int .i64 (typeAtN s.data.toList 0)) ∧ w = w' := fun w => typeAt_any s 0 w hs (Nat.zero_le _)
  have hz := Lib.hid hz0
  clear hz0
  have e0 : typeAtN s.data.toList 0 = typeLen s.data.toList := by unfold typeAtN; simp; intro h; exact h.symm
  rw [e0] at hz
  unfold maxLen at hs
  clear e0
  by_cases h0 : s.size = 0
  · have H := Lib.hid (show isTypeB s.data.toList = false by
      have : s.data.toList = [] := List.eq_nil_of_length_eq_zero (by simpa using h0)
      rw [this]; decide)
    go_enter Tryd.func17, Tryd.ntmps17
    go_wp2
    go_ret
    exact ⟨ret_bool H.out.symm, rfl⟩
  · have h0' : 0 < s.size := by omega
    clear h0
    have H := Lib.hid (show isTypeB s.data.toList = ((typeLen s.data.toList : Int) == s.size) by
      rw [Bool.eq_iff_iff]
      simp only [isTypeB, decide_eq_true_eq, beq_iff_eq, Array.length_toList]
      have : s.data.size = s.size := rfl
      omega)
    go_enter Tryd.func17, Tryd.ntmps17
    go_wp2_with (go_at_call 30; with_reducible refine (hz.out _).mono ?_; rintro e w' ⟨rfl, rfl⟩)
    all_goals
      go_ret
      exact ⟨ret_bool H.out.symm, rfl⟩
end Go.Proofs.YtkabkpkfglngnaaDoor
