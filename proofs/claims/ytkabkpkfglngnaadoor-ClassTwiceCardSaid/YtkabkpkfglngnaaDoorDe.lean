/- The contracts of package desc's small functions: what each returns, for every string. -/
import Derived.Test.YtkabkpkfglngnaaDoorDeM
import Derived.Test.YtkabkpkfglngnaaDoorNa
import Derived.Test.YtkabkpkfglngnaaDoorNaC
import Derived.Deep.QuietTactic
import Derived.BigQuiet
import Derived.RegionTactic
import Derived.ChangeAlike
import Derived.Laws.IdiomStrings
import Derived.Test.YtkabkpkfglngnaaDoorShelf
import Derived.Lib.IndexLaws
import Derived.Lib.Strings
import Derived.WalkSpells
namespace Go.Proofs.YtkabkpkfglngnaaDoor
open Go.ChangeShapes Go.WideShapes Go.ChangeAt Go.RowKit
set_option linter.unusedVariables false
attribute [local go_sem] eqGuard_errV_nil eqGuard_errV_iface eql_errV_nil neq_errV_nil eql_errV_form

theorem ret_int {k : IntKind} {a b : Int} (h : a = b) : Ending.returned (.int k a) = .returned (.int k b) := by rw [h]

/-! The library's: the first semicolon; a prefix of one byte; a copy. -/
theorem indexByte_semi : ∀ l : List UInt8, Lib.indexByte l 59 = if semi l < l.length then (semi l : Int) else -1
  | [] => by simp [Lib.indexByte, semi]
  | c :: r => by
    have ih := indexByte_semi r
    by_cases hc : c = 59
    · subst hc; simp [Lib.indexByte, semi]
    · have e : semi (c :: r) = semi r + 1 := by simp [semi, hc]
      simp only [Lib.indexByte, e, List.length_cons, ih]
      by_cases h : semi r < r.length
      · simp [hc, h]
      · simp [hc, h]
theorem semi_yes (s : ByteArray) (w : World) (h : semi s.data.toList < s.size) : Calls Tryd.prog 47 #[.string s, .int .u8 59] w fun e w' => e = .returned (.int .i64 (semi s.data.toList)) ∧ w = w' :=
  (Tryd.strings_IndexByte s 59 w).mono fun _ _ ⟨he, hw⟩ => ⟨by
    rw [he]; refine ret_int ?_
    have e := indexByte_semi s.data.toList
    rw [if_pos (by simpa using h)] at e
    exact e, hw.symm⟩
theorem semi_no (s : ByteArray) (w : World) (h : ¬ semi s.data.toList < s.size) : Calls Tryd.prog 47 #[.string s, .int .u8 59] w fun e w' => e = .returned (.int .i64 (-1)) ∧ w = w' :=
  (Tryd.strings_IndexByte s 59 w).mono fun _ _ ⟨he, hw⟩ => ⟨by
    rw [he]; refine ret_int ?_
    have e := indexByte_semi s.data.toList
    rw [if_neg (by simpa using h)] at e
    exact e, hw.symm⟩

def wordTyB (c : UInt8) : Bool := c == 73 || c == 74
theorem isWord_any (c : UInt8) (w : World) : Calls Tryd.prog 46 #[.int .u8 (c.toNat : Int)] w fun e w' => e = .returned (.bool (wordTyB c)) ∧ w = w' := by
  go_enter Tryd.func46, Tryd.ntmps46
  go_wp2
  all_goals
    go_ret
    exact ⟨ret_bool (by rw [Bool.eq_iff_iff]; simp [wordTyB, u8eq]; omega), rfl⟩

theorem brk_lt (s : ByteArray) {k : Nat} (h : k < brk s.data.toList) : ∃ h' : k < s.size, ((s[k].toNat : Int) == 91) = true := by
  obtain ⟨a, b⟩ := tw_lt _ _ _ h
  refine ⟨by simpa using a, ?_⟩
  have : s[k]'(by simpa using a) = 91 := eq_of_beq (show (s.data.toList[k] == 91) = true from b)
  rw [this]; rfl
theorem brk_at (s : ByteArray) (h : brk s.data.toList < s.size) : ((s[brk s.data.toList].toNat : Int) == 91) = false := by
  have b := tw_at (· == 91) s.data.toList (show brk s.data.toList < _ by simpa using h)
  rw [beq_eq_false_iff_ne]
  intro he
  have h2 : s[brk s.data.toList] ≠ 91 := by
    intro h3
    have h4 : (s.data.toList)[brk s.data.toList]'(by simpa using h) = 91 := h3
    have h5 : ((s.data.toList)[brk s.data.toList]'(by simpa using h) == 91) = false := b
    rw [h4] at h5; cases h5
  exact h2 (by rw [u8eq]; exact he)

theorem drop_of {s : ByteArray} {k : Nat} (h : k < s.size) : s.data.toList.drop k = s[k] :: s.data.toList.drop (k + 1) := List.drop_eq_getElem_cons (by simpa using h)
theorem ext_drop (s : ByteArray) (k : Nat) : (s.extract k s.size).data.toList = s.data.toList.drop k := by
  simp
  exact List.take_of_length_le (by simp)
theorem ext_head (s : ByteArray) (k : Nat) (h : k < s.size) (h' : 0 < (s.extract k s.size).size) : (s.extract k s.size)[0] = s[k] := by simp [ByteArray.getElem_extract]
def semiI (l : List UInt8) : Int := Lib.indexByte l 59
theorem semi_any (s : ByteArray) (w : World) : Calls Tryd.prog 47 #[.string s, .int .u8 59] w fun e w' => e = .returned (.int .i64 (semiI s.data.toList)) ∧ w = w' :=
  (Tryd.strings_IndexByte s 59 w).mono fun _ _ ⟨he, hw⟩ => ⟨he, hw.symm⟩
theorem ext_mid (s : ByteArray) (k n : Nat) (h : k < s.size) (hn : k + n + 1 ≤ s.size) : ((s.extract k s.size).extract 1 (n + 1)).data.toList = (s.data.toList.drop (k + 1)).take n := by
  have e : (List.drop (k + 1) s.data.toList).length = s.size - (k + 1) := by simp
  simp
  omega
theorem run_mid (s : ByteArray) (k n : Nat) (h : k + n + 1 < s.size) (W : World) :
    (Instr.slice 9 (.string (s.extract k s.size)) (some (.int .i64 1)) (some (.int .i64 ((n : Int) + 1))) none).run Tryd.prog W = .ok (.string ((s.extract k s.size).extract 1 (n + 1))) W := by
  have e := run_slice_of_slice (P := Tryd.prog) 9 Tryd.underlying9 s k s.size 1 (n + 1) (by omega) (by omega) W
  exact e
theorem semi_cons {c : UInt8} {r : List UInt8} (h : c = 76) : semi (c :: r) = semi r + 1 := by subst h; simp [semi]
set_option maxHeartbeats 2000000 in
theorem size_any (s : ByteArray) (w : World) (hs : s.size ≤ maxLen) :
    Calls Tryd.prog 34 #[.string s] w fun e w' => e = .returned (.int .i64 (typeLen s.data.toList)) ∧ w = w' := by
  unfold maxLen at hs
  have hb : brk s.data.toList ≤ s.size := by simpa using brk_le s.data.toList
  have HL := Lib.hid (fun k h => brk_lt s (k := k) h)
  have HA := Lib.hid (brk_at s)
  generalize hB : brk s.data.toList = b at hb HL HA
  have HB := Lib.hid hB
  clear hB
  go_enter Tryd.func34, Tryd.ntmps34
  go_wp2
  go_loop [3] (fun i => ∃ k : Nat, k ≤ b ∧ i = .int .i64 k) (fun i => b - (intOf i).toNat)
  case atStart => exact ⟨0, Nat.zero_le _, rfl⟩
  case round =>
    obtain ⟨k, hk, rfl⟩ := hrel
    by_cases hlt : k < b
    · obtain ⟨h1, h2⟩ := HL.out k hlt
      go_wp2
      go_round
      case rel => exact ⟨k + 1, by omega, by go_num⟩
      case measure => first | (simp [intOf]; omega) | simp [intOf]
    · obtain rfl : k = b := by omega
      by_cases h3 : 3 < k
      · have HZ : typeLen s.data.toList = 0 := by unfold typeLen; rw [HB.out, if_neg (by omega)]
        have HZ' := Lib.hid HZ
        clear HZ
        by_cases hz : k < s.size
        · have h2 := HA.out hz
          go_wp2
          all_goals
            go_ret
            exact ⟨ret_int (by rw [HZ'.out]; rfl), rfl⟩
        · obtain rfl : k = s.size := by omega
          go_wp2
          all_goals
            go_ret
            exact ⟨ret_int (by rw [HZ'.out]; rfl), rfl⟩
      · by_cases hz : k < s.size
        · have h2 := HA.out hz
          have h3' : k ≤ 3 := by omega
          clear h3
          have h3i : ¬ 3 < (k : Int) := by omega
          have hl : (s.extract k s.size).data.toList = s[k] :: s.data.toList.drop (k + 1) := (ext_drop s k).trans (drop_of hz)
          have hsz : (s.extract k s.size).size = s.size - k := by simp
          have h0 : 0 < (s.extract k s.size).size := by omega
          have hh : (s.extract k s.size)[0] = s[k] := ext_head s k hz h0
          have ht : typeLen s.data.toList = if itemLen (s[k] :: s.data.toList.drop (k + 1)) ≠ 0 then k + itemLen (s[k] :: s.data.toList.drop (k + 1)) else 0 := by
            unfold typeLen; rw [HB.out, drop_of hz]; simp [h3']
          have hs1 : ((s.size - k : Nat) : Int) = (s.size : Int) - k := by omega
          by_cases hw : wordTyB s[k] = true
          · have HT : typeLen s.data.toList = k + 1 := by
              have e : itemLen (s[k] :: s.data.toList.drop (k + 1)) = 1 := by
                have : s[k] = 73 ∨ s[k] = 74 := by simpa [wordTyB] using hw
                simp only [itemLen, this, if_true]
              rw [ht, e]; rfl
            have HT' := Lib.hid HT
            rw [← hh] at hw
            clear hl hsz hh ht HT
            go_wp2_with (go_at_call 46; refine (isWord_any _ _).mono ?_; rintro e w' ⟨rfl, rfl⟩)
            go_ret
            exact ⟨ret_int (by rw [HT'.out]; rfl), rfl⟩
          · have hw' : wordTyB s[k] = false := by simpa using hw
            have hnw : ¬ (s[k] = 73 ∨ s[k] = 74) := by simpa [wordTyB] using hw
            clear hw
            by_cases hL : s[k] = 76
            · have h76 : ((s[k].toNat : Int) != 76) = false := by rw [hL]; rfl
              have hse := semi_cons (r := s.data.toList.drop (k + 1)) hL
              by_cases hs2 : semi (s.extract k s.size).data.toList < (s.extract k s.size).size
              · obtain ⟨n, hn⟩ : ∃ n, semi (s.data.toList.drop (k + 1)) = n := ⟨_, rfl⟩
                have hsn : semi (s.extract k s.size).data.toList = n + 1 := by rw [hl, hse, hn]
                have hlt2 : k + n + 1 < s.size := by rw [hsn] at hs2; omega
                have hit : itemLen (s[k] :: s.data.toList.drop (k + 1)) = if nameB ((s.data.toList.drop (k + 1)).take n) = true then n + 2 else 0 := by
                  have h1 : n < (s.data.toList.drop (k + 1)).length := by simp; omega
                  simp only [itemLen, hL, true_and, hn, h1]
                  simp
                have hmid := ext_mid s k n hz (by omega)
                have hmz : ((s.extract k s.size).extract 1 (n + 1)).size ≤ maxLen := by simp [maxLen]; omega
                have hsl := fun W => run_mid s k n hlt2 W
                have hsc := Lib.hid (fun w => semi_yes (s.extract k s.size) w hs2)
                rw [hsn] at hsc
                by_cases hnm : nameB ((s.data.toList.drop (k + 1)).take n) = true
                · have hck := Lib.hid (fun w => check_yes ((s.extract k s.size).extract 1 (n + 1)) w (by rw [hmid]; exact hnm) hmz)
                  have HT : typeLen s.data.toList = k + (n + 2) := by rw [ht, hit, if_pos hnm, if_pos (by omega)]
                  have HT' := Lib.hid HT
                  rw [← hh] at hw' h76
                  clear hl hsz hh ht HT hnw hL hse hs2 hn hsn hit hmid hmz hnm
                  go_wp2_with (first
                    | (go_at_call 46; refine (isWord_any _ _).mono ?_; rintro e w' ⟨rfl, rfl⟩)
                    | (go_at_call 47; with_reducible refine (hsc.out _).mono ?_; rintro e w' ⟨rfl, rfl⟩)
                    | (go_at_call 11; with_reducible refine (hck.out _).mono ?_; rintro e w' ⟨rfl, rfl⟩))
                  go_ret
                  exact ⟨ret_int (by rw [HT'.out]; omega), rfl⟩
                · have hnm' : nameB ((s.data.toList.drop (k + 1)).take n) = false := by simpa using hnm
                  have hck := Lib.hid (fun w => check_no ((s.extract k s.size).extract 1 (n + 1)) w (by rw [hmid]; exact hnm') hmz)
                  have HT : typeLen s.data.toList = 0 := by rw [ht, hit, if_neg hnm]; simp
                  have HT' := Lib.hid HT
                  rw [← hh] at hw' h76
                  clear hl hsz hh ht HT hnw hL hse hs2 hn hsn hit hmid hmz hnm hnm'
                  go_wp2_with (first
                    | (go_at_call 46; refine (isWord_any _ _).mono ?_; rintro e w' ⟨rfl, rfl⟩)
                    | (go_at_call 47; with_reducible refine (hsc.out _).mono ?_; rintro e w' ⟨rfl, rfl⟩)
                    | (go_at_call 11; with_reducible refine (hck.out _).mono ?_; rintro e w' ⟨rfl, rfl⟩))
                  go_ret
                  exact ⟨ret_int (by rw [HT'.out]; rfl), rfl⟩
              · have hsc := Lib.hid (fun w => semi_no (s.extract k s.size) w hs2)
                have HT : typeLen s.data.toList = 0 := by
                  have e : itemLen (s[k] :: s.data.toList.drop (k + 1)) = 0 := by
                    have h1 : ¬ semi (s.data.toList.drop (k + 1)) < (s.data.toList.drop (k + 1)).length := by rw [hl, hse] at hs2; simp at hs2 ⊢; omega
                    simp only [itemLen, hL, true_and, h1, false_and, if_false]
                    simp
                  rw [ht, e]; simp
                have HT' := Lib.hid HT
                rw [← hh] at hw' h76
                clear hl hsz hh ht HT hnw hL hse hs2
                go_wp2_with (first
                  | (go_at_call 46; refine (isWord_any _ _).mono ?_; rintro e w' ⟨rfl, rfl⟩)
                  | (go_at_call 47; with_reducible refine (hsc.out _).mono ?_; rintro e w' ⟨rfl, rfl⟩))
                go_ret
                exact ⟨ret_int (by rw [HT'.out]; rfl), rfl⟩
            · have h76 : ((s[k].toNat : Int) != 76) = true := by rw [bne_iff_ne]; intro he; exact hL (by rw [u8eq]; exact he)
              have HT : typeLen s.data.toList = 0 := by
                rw [ht, if_neg]; simp only [itemLen, hnw, if_false]; simp [hL]
              have HT' := Lib.hid HT
              rw [← hh] at hw' h76
              clear hl hsz hh ht HT hnw hL
              go_wp2_with (first
                | (go_at_call 46; refine (isWord_any _ _).mono ?_; rintro e w' ⟨rfl, rfl⟩)
                | (go_at_call 47; refine (semi_any _ _).mono ?_; rintro e w' ⟨rfl, rfl⟩))
              go_ret
              exact ⟨ret_int (by rw [HT'.out]; rfl), rfl⟩
        · obtain rfl : k = s.size := by omega
          have HZ : typeLen s.data.toList = 0 := by
            unfold typeLen; rw [HB.out, if_neg]; rw [List.drop_eq_nil_of_le (by simp)]; simp [itemLen]
          have HZ' := Lib.hid HZ
          clear HZ
          go_wp2
          all_goals
            go_ret
            exact ⟨ret_int (by rw [HZ'.out]; rfl), rfl⟩
end Go.Proofs.YtkabkpkfglngnaaDoor
