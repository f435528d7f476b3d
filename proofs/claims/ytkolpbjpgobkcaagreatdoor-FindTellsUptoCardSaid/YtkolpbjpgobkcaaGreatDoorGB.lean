/- The contracts of package desc's small functions: what each returns, for every string. The contracts of desc.Check, Word, isResult, of the library's HasPrefix and Clone, and of the reference's IsType, IsWord. The contracts of the reference's functions on types: TypeAt, IsType. The contracts of desc.Method and of the reference's MethodOf: the arguments and the result of a method type. The contract of the reference's MethodOf. -/
import Derived.Test.YtkolpbjpgobkcaaGreatDoorGA
import Derived.Deep.QuietTactic
import Derived.BigQuiet
import Derived.RegionTactic
import Derived.ChangeAlike
import Derived.Laws.IdiomStrings
import Derived.Test.YtkolpbjpgobkcaaGreatDoorShelf
import Derived.Lib.IndexLaws
import Derived.Lib.Strings
import Derived.WalkSpells
namespace Go.Proofs.YtkolpbjpgobkcaaGreatDoor
open Go.ChangeShapes Go.WideShapes Go.ChangeAt Go.RowKit
set_option linter.unusedVariables false
attribute [local go_sem] eqGuard_errV_nil eqGuard_errV_iface eql_errV_nil neq_errV_nil eql_errV_form

theorem ret_int {k : IntKind} {a b : Int} (h : a = b) : Ending.returned (.int k a) = .returned (.int k b) := by rw [h]

/-! The library's: the first semicolon; a prefix of one byte; a copy. -/
theorem indexByte_semi : ∀ l : List UInt8, Lib.indexByte l 59 = if semi l < l.length then (semi l : Int) else -1
  | [] => by simp [Lib.indexByte, semi]
  | c :: r => by
    have ih := indexByte_semi r
    by_cases hc : c = 59
    · subst hc; simp [Lib.indexByte, semi]
    · have e : semi (c :: r) = semi r + 1 := by simp [semi, hc]
      simp only [Lib.indexByte, e, List.length_cons, ih]
      by_cases h : semi r < r.length
      · simp [hc, h]
      · simp [hc, h]
theorem semi_yes (s : ByteArray) (w : World) (h : semi s.data.toList < s.size) : Calls Tryz.prog 113 #[.string s, .int .u8 59] w fun e w' => e = .returned (.int .i64 (semi s.data.toList)) ∧ w = w' :=
  (Tryz.strings_IndexByte s 59 w).mono fun _ _ ⟨he, hw⟩ => ⟨by
    rw [he]; refine ret_int ?_
    have e := indexByte_semi s.data.toList
    rw [if_pos (by simpa using h)] at e
    exact e, hw.symm⟩
theorem semi_no (s : ByteArray) (w : World) (h : ¬ semi s.data.toList < s.size) : Calls Tryz.prog 113 #[.string s, .int .u8 59] w fun e w' => e = .returned (.int .i64 (-1)) ∧ w = w' :=
  (Tryz.strings_IndexByte s 59 w).mono fun _ _ ⟨he, hw⟩ => ⟨by
    rw [he]; refine ret_int ?_
    have e := indexByte_semi s.data.toList
    rw [if_neg (by simpa using h)] at e
    exact e, hw.symm⟩

def wordTyB (c : UInt8) : Bool := c == 73 || c == 74
theorem isWord_any (c : UInt8) (w : World) : Calls Tryz.prog 112 #[.int .u8 (c.toNat : Int)] w fun e w' => e = .returned (.bool (wordTyB c)) ∧ w = w' := by
  go_enter Tryz.func112, Tryz.ntmps112
  go_wp2
  all_goals
    go_ret
    exact ⟨ret_bool (by rw [Bool.eq_iff_iff]; simp [wordTyB, u8eq]; omega), rfl⟩

theorem brk_lt (s : ByteArray) {k : Nat} (h : k < brk s.data.toList) : ∃ h' : k < s.size, ((s[k].toNat : Int) == 91) = true := by
  obtain ⟨a, b⟩ := tw_lt _ _ _ h
  refine ⟨by simpa using a, ?_⟩
  have : s[k]'(by simpa using a) = 91 := eq_of_beq (show (s.data.toList[k] == 91) = true from b)
  rw [this]; rfl
theorem brk_at (s : ByteArray) (h : brk s.data.toList < s.size) : ((s[brk s.data.toList].toNat : Int) == 91) = false := by
  have b := tw_at (· == 91) s.data.toList (show brk s.data.toList < _ by simpa using h)
  rw [beq_eq_false_iff_ne]
  intro he
  have h2 : s[brk s.data.toList] ≠ 91 := by
    intro h3
    have h4 : (s.data.toList)[brk s.data.toList]'(by simpa using h) = 91 := h3
    have h5 : ((s.data.toList)[brk s.data.toList]'(by simpa using h) == 91) = false := b
    rw [h4] at h5; cases h5
  exact h2 (by rw [u8eq]; exact he)

theorem drop_of {s : ByteArray} {k : Nat} (h : k < s.size) : s.data.toList.drop k = s[k] :: s.data.toList.drop (k + 1) := List.drop_eq_getElem_cons (by simpa using h)
theorem ext_drop (s : ByteArray) (k : Nat) : (s.extract k s.size).data.toList = s.data.toList.drop k := by
  simp
  exact List.take_of_length_le (by simp)
theorem ext_head (s : ByteArray) (k : Nat) (h : k < s.size) (h' : 0 < (s.extract k s.size).size) : (s.extract k s.size)[0] = s[k] := by simp [ByteArray.getElem_extract]
def semiI (l : List UInt8) : Int := Lib.indexByte l 59
theorem semi_any (s : ByteArray) (w : World) : Calls Tryz.prog 113 #[.string s, .int .u8 59] w fun e w' => e = .returned (.int .i64 (semiI s.data.toList)) ∧ w = w' :=
  (Tryz.strings_IndexByte s 59 w).mono fun _ _ ⟨he, hw⟩ => ⟨he, hw.symm⟩
theorem ext_mid (s : ByteArray) (k n : Nat) (h : k < s.size) (hn : k + n + 1 ≤ s.size) : ((s.extract k s.size).extract 1 (n + 1)).data.toList = (s.data.toList.drop (k + 1)).take n := by
  have e : (List.drop (k + 1) s.data.toList).length = s.size - (k + 1) := by simp
  simp
  omega
theorem run_mid (s : ByteArray) (k n : Nat) (h : k + n + 1 < s.size) (W : World) :
    (Instr.slice 9 (.string (s.extract k s.size)) (some (.int .i64 1)) (some (.int .i64 ((n : Int) + 1))) none).run Tryz.prog W = .ok (.string ((s.extract k s.size).extract 1 (n + 1))) W := by
  have e := run_slice_of_slice (P := Tryz.prog) 9 Tryz.underlying9 s k s.size 1 (n + 1) (by omega) (by omega) W
  exact e
theorem semi_cons {c : UInt8} {r : List UInt8} (h : c = 76) : semi (c :: r) = semi r + 1 := by subst h; simp [semi]
set_option maxHeartbeats 2000000 in
theorem size_any (s : ByteArray) (w : World) (hs : s.size ≤ maxLen) :
    Calls Tryz.prog 103 #[.string s] w fun e w' => e = .returned (.int .i64 (typeLen s.data.toList)) ∧ w = w' := by
  unfold maxLen at hs
  have hb : brk s.data.toList ≤ s.size := by simpa using brk_le s.data.toList
  have HL := Lib.hid (fun k h => brk_lt s (k := k) h)
  have HA := Lib.hid (brk_at s)
  generalize hB : brk s.data.toList = b at hb HL HA
  have HB := Lib.hid hB
  clear hB
  go_enter Tryz.func103, Tryz.ntmps103
  go_wp2
  go_loop [3] (fun i => ∃ k : Nat, k ≤ b ∧ i = .int .i64 k) (fun i => b - (intOf i).toNat)
  case atStart => exact ⟨0, Nat.zero_le _, rfl⟩
  case round =>
    obtain ⟨k, hk, rfl⟩ := hrel
    by_cases hlt : k < b
    · obtain ⟨h1, h2⟩ := HL.out k hlt
      go_wp2
      go_round
      case rel => exact ⟨k + 1, by omega, by go_num⟩
      case measure => first | (simp [intOf]; omega) | simp [intOf]
    · obtain rfl : k = b := by omega
      by_cases h3 : 3 < k
      · have HZ : typeLen s.data.toList = 0 := by unfold typeLen; rw [HB.out, if_neg (by omega)]
        have HZ' := Lib.hid HZ
        clear HZ
        by_cases hz : k < s.size
        · have h2 := HA.out hz
          go_wp2
          all_goals
            go_ret
            exact ⟨ret_int (by rw [HZ'.out]; rfl), rfl⟩
        · obtain rfl : k = s.size := by omega
          go_wp2
          all_goals
            go_ret
            exact ⟨ret_int (by rw [HZ'.out]; rfl), rfl⟩
      · by_cases hz : k < s.size
        · have h2 := HA.out hz
          have h3' : k ≤ 3 := by omega
          clear h3
          have h3i : ¬ 3 < (k : Int) := by omega
          have hl : (s.extract k s.size).data.toList = s[k] :: s.data.toList.drop (k + 1) := (ext_drop s k).trans (drop_of hz)
          have hsz : (s.extract k s.size).size = s.size - k := by simp
          have h0 : 0 < (s.extract k s.size).size := by omega
          have hh : (s.extract k s.size)[0] = s[k] := ext_head s k hz h0
          have ht : typeLen s.data.toList = if itemLen (s[k] :: s.data.toList.drop (k + 1)) ≠ 0 then k + itemLen (s[k] :: s.data.toList.drop (k + 1)) else 0 := by
            unfold typeLen; rw [HB.out, drop_of hz]; simp [h3']
          have hs1 : ((s.size - k : Nat) : Int) = (s.size : Int) - k := by omega
          by_cases hw : wordTyB s[k] = true
          · have HT : typeLen s.data.toList = k + 1 := by
              have e : itemLen (s[k] :: s.data.toList.drop (k + 1)) = 1 := by
                have : s[k] = 73 ∨ s[k] = 74 := by simpa [wordTyB] using hw
                simp only [itemLen, this, if_true]
              rw [ht, e]; rfl
            have HT' := Lib.hid HT
            rw [← hh] at hw
            clear hl hsz hh ht HT
            go_wp2_with (go_at_call 112; refine (isWord_any _ _).mono ?_; rintro e w' ⟨rfl, rfl⟩)
            go_ret
            exact ⟨ret_int (by rw [HT'.out]; rfl), rfl⟩
          · have hw' : wordTyB s[k] = false := by simpa using hw
            have hnw : ¬ (s[k] = 73 ∨ s[k] = 74) := by simpa [wordTyB] using hw
            clear hw
            by_cases hL : s[k] = 76
            · have h76 : ((s[k].toNat : Int) != 76) = false := by rw [hL]; rfl
              have hse := semi_cons (r := s.data.toList.drop (k + 1)) hL
              by_cases hs2 : semi (s.extract k s.size).data.toList < (s.extract k s.size).size
              · obtain ⟨n, hn⟩ : ∃ n, semi (s.data.toList.drop (k + 1)) = n := ⟨_, rfl⟩
                have hsn : semi (s.extract k s.size).data.toList = n + 1 := by rw [hl, hse, hn]
                have hlt2 : k + n + 1 < s.size := by rw [hsn] at hs2; omega
                have hit : itemLen (s[k] :: s.data.toList.drop (k + 1)) = if nameB ((s.data.toList.drop (k + 1)).take n) = true then n + 2 else 0 := by
                  have h1 : n < (s.data.toList.drop (k + 1)).length := by simp; omega
                  simp only [itemLen, hL, true_and, hn, h1]
                  simp
                have hmid := ext_mid s k n hz (by omega)
                have hmz : ((s.extract k s.size).extract 1 (n + 1)).size ≤ maxLen := by simp [maxLen]; omega
                have hsl := fun W => run_mid s k n hlt2 W
                have hsc := Lib.hid (fun w => semi_yes (s.extract k s.size) w hs2)
                rw [hsn] at hsc
                by_cases hnm : nameB ((s.data.toList.drop (k + 1)).take n) = true
                · have hck := Lib.hid (fun w => check_yes ((s.extract k s.size).extract 1 (n + 1)) w (by rw [hmid]; exact hnm) hmz)
                  have HT : typeLen s.data.toList = k + (n + 2) := by rw [ht, hit, if_pos hnm, if_pos (by omega)]
                  have HT' := Lib.hid HT
                  rw [← hh] at hw' h76
                  clear hl hsz hh ht HT hnw hL hse hs2 hn hsn hit hmid hmz hnm
                  go_wp2_with (first
                    | (go_at_call 112; refine (isWord_any _ _).mono ?_; rintro e w' ⟨rfl, rfl⟩)
                    | (go_at_call 113; with_reducible refine (hsc.out _).mono ?_; rintro e w' ⟨rfl, rfl⟩)
                    | (go_at_call 70; with_reducible refine (hck.out _).mono ?_; rintro e w' ⟨rfl, rfl⟩))
                  go_ret
                  exact ⟨ret_int (by rw [HT'.out]; omega), rfl⟩
                · have hnm' : nameB ((s.data.toList.drop (k + 1)).take n) = false := by simpa using hnm
                  have hck := Lib.hid (fun w => check_no ((s.extract k s.size).extract 1 (n + 1)) w (by rw [hmid]; exact hnm') hmz)
                  have HT : typeLen s.data.toList = 0 := by rw [ht, hit, if_neg hnm]; simp
                  have HT' := Lib.hid HT
                  rw [← hh] at hw' h76
                  clear hl hsz hh ht HT hnw hL hse hs2 hn hsn hit hmid hmz hnm hnm'
                  go_wp2_with (first
                    | (go_at_call 112; refine (isWord_any _ _).mono ?_; rintro e w' ⟨rfl, rfl⟩)
                    | (go_at_call 113; with_reducible refine (hsc.out _).mono ?_; rintro e w' ⟨rfl, rfl⟩)
                    | (go_at_call 70; with_reducible refine (hck.out _).mono ?_; rintro e w' ⟨rfl, rfl⟩))
                  go_ret
                  exact ⟨ret_int (by rw [HT'.out]; rfl), rfl⟩
              · have hsc := Lib.hid (fun w => semi_no (s.extract k s.size) w hs2)
                have HT : typeLen s.data.toList = 0 := by
                  have e : itemLen (s[k] :: s.data.toList.drop (k + 1)) = 0 := by
                    have h1 : ¬ semi (s.data.toList.drop (k + 1)) < (s.data.toList.drop (k + 1)).length := by rw [hl, hse] at hs2; simp at hs2 ⊢; omega
                    simp only [itemLen, hL, true_and, h1, false_and, if_false]
                    simp
                  rw [ht, e]; simp
                have HT' := Lib.hid HT
                rw [← hh] at hw' h76
                clear hl hsz hh ht HT hnw hL hse hs2
                go_wp2_with (first
                  | (go_at_call 112; refine (isWord_any _ _).mono ?_; rintro e w' ⟨rfl, rfl⟩)
                  | (go_at_call 113; with_reducible refine (hsc.out _).mono ?_; rintro e w' ⟨rfl, rfl⟩))
                go_ret
                exact ⟨ret_int (by rw [HT'.out]; rfl), rfl⟩
            · have h76 : ((s[k].toNat : Int) != 76) = true := by rw [bne_iff_ne]; intro he; exact hL (by rw [u8eq]; exact he)
              have HT : typeLen s.data.toList = 0 := by
                rw [ht, if_neg]; simp only [itemLen, hnw, if_false]; simp [hL]
              have HT' := Lib.hid HT
              rw [← hh] at hw' h76
              clear hl hsz hh ht HT hnw hL
              go_wp2_with (first
                | (go_at_call 112; refine (isWord_any _ _).mono ?_; rintro e w' ⟨rfl, rfl⟩)
                | (go_at_call 113; refine (semi_any _ _).mono ?_; rintro e w' ⟨rfl, rfl⟩))
              go_ret
              exact ⟨ret_int (by rw [HT'.out]; rfl), rfl⟩
        · obtain rfl : k = s.size := by omega
          have HZ : typeLen s.data.toList = 0 := by
            unfold typeLen; rw [HB.out, if_neg]; rw [List.drop_eq_nil_of_le (by simp)]; simp [itemLen]
          have HZ' := Lib.hid HZ
          clear HZ
          go_wp2
          all_goals
            go_ret
            exact ⟨ret_int (by rw [HZ'.out]; rfl), rfl⟩
end Go.Proofs.YtkolpbjpgobkcaaGreatDoor
namespace Go.Proofs.YtkolpbjpgobkcaaGreatDoor
open Go.ChangeShapes Go.WideShapes Go.ChangeAt Go.RowKit
set_option linter.unusedVariables false
attribute [local go_sem] eqGuard_errV_nil eqGuard_errV_iface eql_errV_nil neq_errV_nil eql_errV_form

theorem tyNe {s : ByteArray} (h : isTypeB s.data.toList = true) : ((typeLen s.data.toList : Int) == 0) = false ∧ ((typeLen s.data.toList : Int) != s.size) = false := by
  obtain ⟨h1, h2⟩ := isTypeB_len h
  have h3 : typeLen s.data.toList = s.size := by simpa using h2
  exact ⟨by rw [beq_eq_false_iff_ne]; omega, by rw [bne_eq_false_iff_eq]; omega⟩
def typeF (l : List UInt8) : Nat := if isTypeB l = true then 0 else 1
theorem typeF_yes {l : List UInt8} (h : isTypeB l = true) : typeF l = 0 := by simp [typeF, h]
theorem typeF_no {l : List UInt8} (h : isTypeB l = false) : typeF l = 1 := by simp [typeF, h]
theorem dcheck_any (s : ByteArray) (w : World) (hs : s.size ≤ maxLen) : Calls Tryz.prog 90 #[.string s] w fun e w' => e = .returned (errV (typeF s.data.toList)) ∧ w = w' := by
  have hz := Lib.hid (fun w => size_any s w hs)
  unfold maxLen at hs
  by_cases ht : isTypeB s.data.toList = true
  · obtain ⟨h1, h2⟩ := tyNe ht
    have H := Lib.hid (typeF_yes ht)
    clear ht
    go_enter Tryz.func90, Tryz.ntmps90
    go_wp2_with (go_at_call 103; with_reducible refine (hz.out _).mono ?_; rintro e w' ⟨rfl, rfl⟩)
    go_ret
    exact ⟨ret_err (by rw [H.out]; rfl), rfl⟩
  · have H := Lib.hid (typeF_no (by simpa using ht))
    by_cases h0 : typeLen s.data.toList = 0
    · have h1 : ((typeLen s.data.toList : Int) == 0) = true := by rw [h0]; rfl
      clear ht h0
      go_enter Tryz.func90, Tryz.ntmps90
      go_wp2_with (go_at_call 103; with_reducible refine (hz.out _).mono ?_; rintro e w' ⟨rfl, rfl⟩)
      go_ret
      exact ⟨ret_err (by rw [H.out]; rfl), rfl⟩
    · have h1 : ((typeLen s.data.toList : Int) == 0) = false := by rw [beq_eq_false_iff_ne]; omega
      have h2 : ((typeLen s.data.toList : Int) != s.size) = true := by
        rw [bne_iff_ne]
        intro he
        refine ht (decide_eq_true ⟨h0, ?_⟩)
        have : typeLen s.data.toList = s.size := by omega
        rw [this]; simp
      clear ht h0
      go_enter Tryz.func90, Tryz.ntmps90
      go_wp2_with (go_at_call 103; with_reducible refine (hz.out _).mono ?_; rintro e w' ⟨rfl, rfl⟩)
      go_ret
      exact ⟨ret_err (by rw [H.out]; rfl), rfl⟩

theorem ret_two {a b : Value} {c d : Value} (h : a = c) (h2 : b = d) : Ending.returned (.tuple #[a, b]) = .returned (.tuple #[c, d]) := by rw [h, h2]
theorem bool_eq {a b : Bool} (h : a = b) : Value.bool a = .bool b := by rw [h]
def refWordB (l : List UInt8) : Bool := l == [73] || l == [74]
theorem word_same {s : ByteArray} (h : isTypeB s.data.toList = true) (h0 : 0 < s.size) : wordTyB s[0] = refWordB s.data.toList := by
  have e : s.data.toList = s[0] :: s.data.toList.drop 1 := by
    have := drop_of h0
    simpa using this
  rw [Bool.eq_iff_iff]
  constructor
  · intro hw
    have hc : s[0] = 73 ∨ s[0] = 74 := by simpa [wordTyB] using hw
    rw [e] at h
    have hr := isTypeB_word h hc
    rw [hr] at e
    rw [e]
    rcases hc with hc | hc <;> simp [refWordB, hc]
  · intro hw
    rw [e] at hw
    simp [refWordB] at hw
    simp [wordTyB]
    rcases hw with hw | hw
    · exact .inl hw.1
    · exact .inr hw.1
theorem refWord_no {l : List UInt8} (h : isTypeB l = false) : refWordB l = false := by
  rw [Bool.eq_false_iff]
  intro hw
  have : l = [73] ∨ l = [74] := by simpa [refWordB] using hw
  rcases this with rfl | rfl
  · have e : isTypeB [73] = true := by decide
    rw [e] at h; cases h
  · have e : isTypeB [74] = true := by decide
    rw [e] at h; cases h
theorem word_any (s : ByteArray) (w : World) (hs : s.size ≤ maxLen) :
    Calls Tryz.prog 126 #[.string s] w fun e w' => e = .returned (.tuple #[.bool (refWordB s.data.toList), errV (typeF s.data.toList)]) ∧ w = w' := by
  have hz := Lib.hid (fun w => dcheck_any s w hs)
  unfold maxLen at hs
  by_cases ht : isTypeB s.data.toList = true
  · have h0 : 0 < s.size := by
      obtain ⟨h1, h2⟩ := isTypeB_len ht
      have h3 : typeLen s.data.toList = s.size := by simpa using h2
      omega
    have HW := Lib.hid (word_same ht h0)
    have H := typeF_yes ht
    rw [H] at hz ⊢
    clear ht H
    go_enter Tryz.func126, Tryz.ntmps126
    go_wp2_with (first
      | (go_at_call 90; with_reducible refine (hz.out _).mono ?_; rintro e w' ⟨rfl, rfl⟩)
      | (go_at_call 112; refine (isWord_any _ _).mono ?_; rintro e w' ⟨rfl, rfl⟩))
    go_ret2
    exact ⟨ret_two (bool_eq HW.out) rfl, rfl⟩
  · have ht' : isTypeB s.data.toList = false := by simpa using ht
    have H := typeF_no ht'
    have HW := Lib.hid (refWord_no ht')
    rw [H] at hz ⊢
    clear ht H ht'
    go_enter Tryz.func126, Tryz.ntmps126
    go_wp2_with (first
      | (go_at_call 90; with_reducible refine (hz.out _).mono ?_; rintro e w' ⟨rfl, rfl⟩)
      | (go_at_call 112; refine (isWord_any _ _).mono ?_; rintro e w' ⟨rfl, rfl⟩))
    go_ret2
    exact ⟨ret_two (bool_eq HW.out.symm) rfl, rfl⟩

theorem isResult_any (s : ByteArray) (w : World) (hs : s.size ≤ maxLen) : Calls Tryz.prog 106 #[.string s] w fun e w' => e = .returned (.bool (resultB s.data.toList)) ∧ w = w' := by
  have hz := Lib.hid (fun w => dcheck_any s w hs)
  unfold maxLen at hs
  go_enter Tryz.func106, Tryz.ntmps106
  go_wp2_with (first
      | (go_at_call 90; with_reducible refine (hz.out _).mono ?_; rintro e w' ⟨rfl, rfl⟩))
  all_goals
    go_ret
    refine ⟨ret_bool ?_, rfl⟩
  · have h : s.toList = [86] := by assumption
    rw [ByteArray.toList_eq] at h
    rw [h]; rfl
  · have h : ¬ s.toList = [86] := by assumption
    rw [ByteArray.toList_eq] at h
    have h2 : (s.data.toList == [86]) = false := by simpa using h
    rw [resultB, h2, typeF]
    cases isTypeB s.data.toList <;> rfl
theorem refIsWord_any (s : ByteArray) (w : World) : Calls Tryz.prog 85 #[.string s] w fun e w' => e = .returned (.bool (refWordB s.data.toList)) ∧ w = w' := by
  go_enter Tryz.func85, Tryz.ntmps85
  go_wp2
  all_goals
    go_ret
    refine ⟨ret_bool ?_, rfl⟩
  · have h : s.toList = [73] := by assumption
    rw [ByteArray.toList_eq] at h
    rw [h]; rfl
  · have h : ¬ s.toList = [73] := by assumption
    rw [ByteArray.toList_eq] at *
    have h2 : (s.data.toList == [73]) = false := by simpa using h
    rw [refWordB, h2, Bool.false_or]

def headB (c : UInt8) : List UInt8 → Bool
  | [] => false
  | d :: _ => d == c
theorem hasPrefix_one (l : List UInt8) (c : UInt8) : Lib.hasPrefix l [c] = headB c l := by
  cases l with
  | nil => rfl
  | cons d r => simp only [Lib.hasPrefix, headB, List.isPrefixOf, Bool.and_true]; rw [Bool.eq_iff_iff, beq_iff_eq, beq_iff_eq]; exact eq_comm
theorem hasPrefix_any (s : ByteArray) (c : UInt8) (w : World) : Calls Tryz.prog 105 #[.string s, .string ⟨#[c]⟩] w fun e w' => e = .returned (.bool (headB c s.data.toList)) ∧ w = w' :=
  (Tryz.strings_HasPrefix s ⟨#[c]⟩ w).mono fun _ _ ⟨he, hw⟩ => ⟨by rw [he]; exact ret_bool (hasPrefix_one _ c), hw.symm⟩
theorem clone_any (s : ByteArray) (w : World) (hs : s.size ≤ 281474976710656) : Calls Tryz.prog 34 #[.string s] w fun e w' => e = .returned (.string s) ∧ Below w.heap.size w w' := by
  have hz := Lib.hid (fun w => Tryz.stringslite_Clone s w hs)
  clear hs
  go_enter Tryz.func34, Tryz.ntmps34
  go_wp2_with (go_at_call 43; with_reducible refine (hz.out _).mono ?_; rintro e w' ⟨rfl, hb⟩)
  go_ret
  exact ⟨rfl, hb⟩

end Go.Proofs.YtkolpbjpgobkcaaGreatDoor
namespace Go.Proofs.YtkolpbjpgobkcaaGreatDoor
open Go.ChangeShapes Go.WideShapes Go.ChangeAt Go.RowKit
set_option linter.unusedVariables false

def typeAtN (l : List UInt8) (a : Nat) : Nat := if typeLen (l.drop a) = 0 then 0 else a + typeLen (l.drop a)
theorem drop_brk (s : ByteArray) (a : Nat) {i : Nat} (h0 : a ≤ i) (h : i < a + brk (s.data.toList.drop a)) : ∃ h' : i < s.size, ((s[i].toNat : Int) == 91) = true := by
  obtain ⟨x, y⟩ := tw_lt _ _ (i - a) (show i - a < brk (s.data.toList.drop a) by omega)
  have hi : i < s.size := by simp at x; omega
  refine ⟨hi, ?_⟩
  have : s[i] = 91 := by
    have y' : ((s.data.toList.drop a)[i - a]'x == 91) = true := y
    rw [List.getElem_drop] at y'
    have e : a + (i - a) = i := by omega
    simp only [e] at y'
    exact eq_of_beq (show (s.data.toList[i]'(by simpa using hi) == 91) = true from y')
  rw [this]; rfl
theorem drop_brk_at (s : ByteArray) (a : Nat) (h : a + brk (s.data.toList.drop a) < s.size) : ((s[a + brk (s.data.toList.drop a)].toNat : Int) == 91) = false := by
  have b := tw_at (· == 91) (s.data.toList.drop a) (show brk (s.data.toList.drop a) < _ by simp; omega)
  rw [beq_eq_false_iff_ne]
  intro he
  have h2 : s[a + brk (s.data.toList.drop a)] = 91 := by rw [u8eq]; exact he
  have h5 : ((s.data.toList.drop a)[brk (s.data.toList.drop a)]'(by simp; omega) == 91) = false := b
  rw [List.getElem_drop] at h5
  have h6 : (s.data.toList[a + brk (s.data.toList.drop a)]'(by simpa using h)) = 91 := h2
  rw [h6] at h5; cases h5
theorem drop_semi (s : ByteArray) (a : Nat) {i : Nat} (h0 : a ≤ i) (h : i < a + semi (s.data.toList.drop a)) : ∃ h' : i < s.size, ((s[i].toNat : Int) != 59) = true := by
  obtain ⟨x, y⟩ := tw_lt _ _ (i - a) (show i - a < semi (s.data.toList.drop a) by omega)
  have hi : i < s.size := by simp at x; omega
  refine ⟨hi, ?_⟩
  rw [bne_iff_ne]
  intro he
  have this : s[i] = 59 := by rw [u8eq]; exact he
  have y' : ((s.data.toList.drop a)[i - a]'x != 59) = true := y
  rw [List.getElem_drop] at y'
  have e : a + (i - a) = i := by omega
  simp only [e] at y'
  have h6 : (s.data.toList[i]'(by simpa using hi)) = 59 := this
  rw [h6] at y'; cases y'
theorem drop_semi_at (s : ByteArray) (a : Nat) (h : a + semi (s.data.toList.drop a) < s.size) : ((s[a + semi (s.data.toList.drop a)].toNat : Int) != 59) = false := by
  have b := tw_at (· != 59) (s.data.toList.drop a) (show semi (s.data.toList.drop a) < _ by simp; omega)
  have h5 : ((s.data.toList.drop a)[semi (s.data.toList.drop a)]'(by simp; omega) != 59) = false := b
  rw [List.getElem_drop] at h5
  have h6 : (s.data.toList[a + semi (s.data.toList.drop a)]'(by simpa using h)) = 59 := by simpa using h5
  have h7 : s[a + semi (s.data.toList.drop a)] = 59 := h6
  rw [h7]; rfl

set_option maxHeartbeats 2000000 in
theorem typeAt_any (s : ByteArray) (a : Nat) (w : World) (hs : s.size ≤ maxLen) (ha : a ≤ s.size) :
    Calls Tryz.prog 49 #[.string s, .int .i64 a] w fun e w' => e = .returned (.int .i64 (typeAtN s.data.toList a)) ∧ w = w' := by
  unfold maxLen at hs
  have hb : brk (s.data.toList.drop a) ≤ s.size - a := by have := brk_le (s.data.toList.drop a); simpa using this
  have HL := Lib.hid (fun i h0 h => drop_brk s a (i := i) h0 h)
  have HA := Lib.hid (drop_brk_at s a)
  obtain ⟨e, he⟩ : ∃ e, e = a + brk (s.data.toList.drop a) := ⟨_, rfl⟩
  rw [← he] at HL HA
  have HB := Lib.hid (show brk (s.data.toList.drop a) = e - a by omega)
  have hea : a ≤ e := by omega
  have hes : e ≤ s.size := by omega
  clear hb he
  go_enter Tryz.func49, Tryz.ntmps49
  go_wp2
  go_loop [5] (fun i => ∃ k : Nat, a ≤ k ∧ k ≤ e ∧ i = .int .i64 k) (fun i => e - (intOf i).toNat)
  case atStart => exact ⟨a, Nat.le_refl _, hea, rfl⟩
  case round =>
    obtain ⟨k, hk0, hk, rfl⟩ := hrel
    by_cases hlt : k < e
    · obtain ⟨h1, h2⟩ := HL.out k hk0 hlt
      go_wp2
      go_round
      case rel => exact ⟨k + 1, by omega, by omega, by go_num⟩
      case measure => first | (simp [intOf]; omega) | simp [intOf]
    · obtain rfl : k = e := by omega
      have hsub : ((k - a : Nat) : Int) = (k : Int) - a := by omega
      by_cases hz : k < s.size
      · have h2 := HA.out hz
        have hdr : (s.data.toList.drop a).drop (k - a) = s[k] :: s.data.toList.drop (k + 1) := by
          rw [List.drop_drop, show a + (k - a) = k by omega]; exact drop_of hz
        have ht : typeLen (s.data.toList.drop a) = if k - a ≤ 3 ∧ itemLen (s[k] :: s.data.toList.drop (k + 1)) ≠ 0 then k - a + itemLen (s[k] :: s.data.toList.drop (k + 1)) else 0 := by
          rw [typeLen_eq, HB.out, hdr]
        by_cases h3 : 3 < k - a
        · have HZ := Lib.hid (show typeAtN s.data.toList a = 0 by
            have : ¬ (k - a ≤ 3) := by omega
            rw [typeAtN, ht]; simp [this])
          have h3i : 3 < (k : Int) - a := by omega
          clear ht hdr hsub h3
          go_wp2
          go_ret
          exact ⟨ret_int (by rw [HZ.out]; rfl), rfl⟩
        · have h3' : k - a ≤ 3 := by omega
          have h3i : ¬ 3 < (k : Int) - a := by omega
          have HT : typeAtN s.data.toList a = if itemLen (s[k] :: s.data.toList.drop (k + 1)) = 0 then 0 else k + itemLen (s[k] :: s.data.toList.drop (k + 1)) := by
            rw [typeAtN, ht]
            by_cases h4 : itemLen (s[k] :: s.data.toList.drop (k + 1)) = 0
            · simp [h4]
            · simp [h3', h4]; omega
          clear ht hdr h3 h3'
          by_cases hI : s[k] = 73
          · have h5 : ((s[k].toNat : Int) == 73) = true := by rw [hI]; rfl
            have HZ := Lib.hid (show typeAtN s.data.toList a = k + 1 by rw [HT, hI]; simp [itemLen])
            clear HT hI
            go_wp2
            go_ret
            exact ⟨ret_int (by rw [HZ.out]; rfl), rfl⟩
          · have h5 : ((s[k].toNat : Int) == 73) = false := by rw [beq_eq_false_iff_ne]; intro h; exact hI (by rw [u8eq]; exact h)
            by_cases hJ : s[k] = 74
            · have h6 : ((s[k].toNat : Int) == 74) = true := by rw [hJ]; rfl
              have HZ := Lib.hid (show typeAtN s.data.toList a = k + 1 by rw [HT, hJ]; simp [itemLen])
              clear HT hI hJ
              go_wp2
              go_ret
              exact ⟨ret_int (by rw [HZ.out]; rfl), rfl⟩
            · have h6 : ((s[k].toNat : Int) == 74) = false := by rw [beq_eq_false_iff_ne]; intro h; exact hJ (by rw [u8eq]; exact h)
              by_cases hL : s[k] = 76
              · have h7 : ((s[k].toNat : Int) != 76) = false := by rw [hL]; rfl
                have hit : itemLen (s[k] :: s.data.toList.drop (k + 1)) = if semi (s.data.toList.drop (k + 1)) < (s.data.toList.drop (k + 1)).length ∧ nameB ((s.data.toList.drop (k + 1)).take (semi (s.data.toList.drop (k + 1)))) = true then semi (s.data.toList.drop (k + 1)) + 2 else 0 := by
                  simp [itemLen, hL]
                have hsl := semi_le (s.data.toList.drop (k + 1))
                simp only [List.length_drop] at hsl hit
                have HS := Lib.hid (fun i h0 h => drop_semi s (k + 1) (i := i) h0 h)
                have HE := Lib.hid (drop_semi_at s (k + 1))
                obtain ⟨f, hf⟩ : ∃ f, f = k + 1 + semi (s.data.toList.drop (k + 1)) := ⟨_, rfl⟩
                rw [← hf] at HS HE
                rw [show semi (s.data.toList.drop (k + 1)) = f - (k + 1) by omega] at hit hsl
                have hsz : s.data.toList.length = s.size := by simp
                rw [hsz] at hsl hit
                have HY := Lib.hid (show f < s.size → nameB ((s.data.toList.drop (k + 1)).take (f - (k + 1))) = true → typeAtN s.data.toList a = f + 1 from fun h1 h2 => by
                  have e := hit
                  rw [if_pos ⟨by omega, h2⟩] at e
                  rw [HT, e, if_neg (by omega)]; omega)
                have HN := Lib.hid (show ¬ (f < s.size ∧ nameB ((s.data.toList.drop (k + 1)).take (f - (k + 1))) = true) → typeAtN s.data.toList a = 0 from fun h => by
                  have e := hit
                  rw [if_neg (fun h' => h ⟨by omega, h'.2⟩)] at e
                  rw [HT, e, if_pos rfl])
                have hf1 : k + 1 ≤ f := by omega
                have hf2 : f ≤ s.size := by omega
                clear hsz hsl hit HT hf hI hJ hL
                go_wp2
                go_loop [6] (fun j => ∃ n : Nat, k + 1 ≤ n ∧ n ≤ f ∧ j = .int .i64 n) (fun j => f - (intOf j).toNat)
                case atStart => exact ⟨k + 1, Nat.le_refl _, hf1, by go_num⟩
                case round =>
                  obtain ⟨n, hn0, hn, rfl⟩ := hrel
                  by_cases hlt2 : n < f
                  · obtain ⟨h8, h9⟩ := HS.out n hn0 hlt2
                    go_wp2
                    go_round
                    case rel => exact ⟨n + 1, by omega, by omega, by go_num⟩
                    case measure => first | (simp [intOf]; omega) | simp [intOf]
                  · obtain rfl : n = f := by omega
                    by_cases hnz : n < s.size
                    · have h9 := HE.out hnz
                      have hex : (s.extract (k + 1) n).data.toList = (s.data.toList.drop (k + 1)).take (n - (k + 1)) := by simp
                      have hes2 : (s.extract (k + 1) n).size ≤ maxLen := by simp [maxLen]; omega
                      have hne : ((n : Int) == s.size) = false := by rw [beq_eq_false_iff_ne]; omega
                      by_cases hnm : nameB ((s.data.toList.drop (k + 1)).take (n - (k + 1))) = true
                      · have hck := Lib.hid (fun w => isName_any (s.extract (k + 1) n) w hes2)
                        rw [hex, hnm] at hck
                        have HZ := Lib.hid (show typeAtN s.data.toList a = n + 1 from HY.out hnz hnm)
                        clear hex hes2 hnm
                        go_wp2_with (go_at_call 38; with_reducible refine (hck.out _).mono ?_; rintro e w' ⟨rfl, rfl⟩)
                        go_ret
                        exact ⟨ret_int (by rw [HZ.out]; rfl), rfl⟩
                      · have hnm' : nameB ((s.data.toList.drop (k + 1)).take (n - (k + 1))) = false := by simpa using hnm
                        have hck := Lib.hid (fun w => isName_any (s.extract (k + 1) n) w hes2)
                        rw [hex, hnm'] at hck
                        have HZ := Lib.hid (show typeAtN s.data.toList a = 0 from HN.out fun h => hnm h.2)
                        clear hex hes2 hnm hnm'
                        go_wp2_with (go_at_call 38; with_reducible refine (hck.out _).mono ?_; rintro e w' ⟨rfl, rfl⟩)
                        go_ret
                        exact ⟨ret_int (by rw [HZ.out]; rfl), rfl⟩
                    · obtain rfl : n = s.size := by omega
                      have HZ := Lib.hid (show typeAtN s.data.toList a = 0 from HN.out fun h => Nat.lt_irrefl _ h.1)
                      go_wp2
                      go_ret
                      exact ⟨ret_int (by rw [HZ.out]; rfl), rfl⟩
              · have h7 : ((s[k].toNat : Int) != 76) = true := by rw [bne_iff_ne]; intro h; exact hL (by rw [u8eq]; exact h)
                have HZ := Lib.hid (show typeAtN s.data.toList a = 0 by rw [HT]; simp [itemLen, hI, hJ, hL])
                clear HT hI hJ hL
                go_wp2
                go_ret
                exact ⟨ret_int (by rw [HZ.out]; rfl), rfl⟩
      · obtain rfl : k = s.size := by omega
        have HZ := Lib.hid (show typeAtN s.data.toList a = 0 by
          rw [typeAtN, typeLen_eq, HB.out, List.drop_drop, List.drop_eq_nil_of_le (by simp; omega)]; simp [itemLen])
        by_cases h3 : 3 < (s.size : Int) - a
        all_goals
          go_wp2
          go_ret
          exact ⟨ret_int (by rw [HZ.out]; rfl), rfl⟩

theorem isType_any (s : ByteArray) (w : World) (hs : s.size ≤ maxLen) : Calls Tryz.prog 39 #[.string s] w fun e w' => e = .returned (.bool (isTypeB s.data.toList)) ∧ w = w' := by
  have hz0 : ∀ w, Calls Tryz.prog 49 #[.string s, .int .i64 0] w fun e w' => e = .returned (.int .i64 (typeAtN s.data.toList 0)) ∧ w = w' := fun w => typeAt_any s 0 w hs (Nat.zero_le _)
  have hz := Lib.hid hz0
  clear hz0
  have e0 : typeAtN s.data.toList 0 = typeLen s.data.toList := by unfold typeAtN; simp; intro h; exact h.symm
  rw [e0] at hz
  unfold maxLen at hs
  clear e0
  by_cases h0 : s.size = 0
  · have H := Lib.hid (show isTypeB s.data.toList = false by
      have : s.data.toList = [] := List.eq_nil_of_length_eq_zero (by simpa using h0)
      rw [this]; decide)
    go_enter Tryz.func39, Tryz.ntmps39
    go_wp2
    go_ret
    exact ⟨ret_bool H.out.symm, rfl⟩
  · have h0' : 0 < s.size := by omega
    clear h0
    have H := Lib.hid (show isTypeB s.data.toList = ((typeLen s.data.toList : Int) == s.size) by
      rw [Bool.eq_iff_iff]
      simp only [isTypeB, decide_eq_true_eq, beq_iff_eq, Array.length_toList]
      have : s.data.size = s.size := rfl
      omega)
    go_enter Tryz.func39, Tryz.ntmps39
    go_wp2_with (go_at_call 49; with_reducible refine (hz.out _).mono ?_; rintro e w' ⟨rfl, rfl⟩)
    all_goals
      go_ret
      exact ⟨ret_bool H.out.symm, rfl⟩
end Go.Proofs.YtkolpbjpgobkcaaGreatDoor
namespace Go.Proofs.YtkolpbjpgobkcaaGreatDoor
open Go.ChangeShapes Go.WideShapes Go.ChangeAt Go.RowKit
set_option linter.unusedVariables false
attribute [local go_sem] eqGuard_errV_nil eqGuard_errV_iface eql_errV_nil neq_errV_nil eql_errV_form

def methP (l : List UInt8) : List (List UInt8) × List UInt8 := (methodB l).getD ([], [])
def methF (l : List UInt8) : Nat := if (methodB l).isSome = true then 0 else 1
theorem headB_true {c : UInt8} {l : List UInt8} (h : headB c l = true) : ∃ r, l = c :: r := by
  cases l with
  | nil => cases h
  | cons d r => exact ⟨r, by rw [eq_of_beq (show (d == c) = true from h)]⟩
theorem meth_start {l : List UInt8} (h : headB 40 l = false) : methodB l = none := by
  cases l with
  | nil => rfl
  | cons d r =>
    have : ¬ d = 40 := by simpa [headB] using h
    simp [methodB, this]
theorem meth_step {t z : List UInt8} {xs : List (List UInt8)} (hc : cuts t = (xs ++ (cuts z).1, (cuts z).2)) (h : typeLen z ≠ 0) :
    cuts t = ((xs ++ [z.take (typeLen z)]) ++ (cuts (z.drop (typeLen z))).1, (cuts (z.drop (typeLen z))).2) := by
  rw [hc, cuts_step h]; simp
theorem meth_end {t z : List UInt8} {xs : List (List UInt8)} (hc : cuts t = (xs ++ (cuts z).1, (cuts z).2)) (h : headB 41 z = true) :
    methodB (40 :: t) = if xs.length ≤ 5 ∧ resultB (z.drop 1) = true then some (xs, z.drop 1) else none := by
  obtain ⟨r, rfl⟩ := headB_true h
  rw [cuts_end (typeLen_shut r)] at hc
  simp only [List.append_nil] at hc
  simp only [methodB, hc]
  simp
theorem meth_not {t z : List UInt8} {xs : List (List UInt8)} (hc : cuts t = (xs ++ (cuts z).1, (cuts z).2)) (h : headB 41 z = false) (h0 : typeLen z = 0) : methodB (40 :: t) = none := by
  rw [cuts_end h0] at hc
  simp only [List.append_nil] at hc
  simp only [methodB, hc]
  cases z with
  | nil => rfl
  | cons d r =>
    have : ¬ d = 41 := by simpa [headB] using h
    simp [this]
theorem meth_many {t z : List UInt8} {xs : List (List UInt8)} (hc : cuts t = (xs ++ (cuts z).1, (cuts z).2)) (h0 : typeLen z ≠ 0) (h5 : 5 ≤ xs.length) : methodB (40 :: t) = none := by
  rw [cuts_step h0] at hc
  simp only [methodB, hc]
  simp only [if_true]
  split
  · rfl
  · rw [if_neg]
    rintro ⟨_, h, _⟩
    simp at h
    omega
theorem methP_none {l : List UInt8} (h : methodB l = none) : methP l = ([], []) := by rw [methP, h]; rfl
theorem methF_none {l : List UInt8} (h : methodB l = none) : methF l = 1 := by rw [methF, h]; rfl
theorem methP_some {l : List UInt8} {a g} (h : methodB l = some (a, g)) : methP l = (a, g) := by rw [methP, h]; rfl
theorem methF_some {l : List UInt8} {a g} (h : methodB l = some (a, g)) : methF l = 0 := by rw [methF, h]; rfl

theorem str_info : (Tryz.prog.info? 9).map (fun i => (i.zero, i.size, i.bytes)) = some (some (.string ByteArray.empty), 1, 16) := by kernel_rfl
/-- What Method says of l: the list and the text that it returns, and the error. -/
def MethodSays (w : World) (l : List UInt8) (last : Value) (e : Ending) (w' : World) : Prop :=
  Below w.heap.size w w' ∧ ∃ v, e = .returned (.tuple #[v, .string (bs (methP l).2), last]) ∧ w'.ownsRow w.heap.size 9 1 v (methP l).1.length ((methP l).1.map strV)
theorem says_none {w w' : World} {l : List UInt8} {last : Value} (h : methodB l = none) (hb : Below w.heap.size w w') : MethodSays w l last (.returned (.tuple #[.slice none 0 0, .string ⟨#[]⟩, last])) w' := by
  refine ⟨hb, .slice none 0 0, ?_, ?_⟩
  · rw [methP_none h]; rfl
  · rw [methP_none h]; exact World.ownsRow_nil _ _ _ _
theorem says_some {w w' : World} {l : List UInt8} {last v : Value} {s : ByteArray} {a : List (List UInt8)} {g : List UInt8} (h : methodB l = some (a, g)) (hb : Below w.heap.size w w') (hs : s.data.toList = g)
    (hv : w'.ownsRow w.heap.size 9 1 v a.length (a.map strV)) : MethodSays w l last (.returned (.tuple #[v, .string s, last])) w' := by
  refine ⟨hb, v, ?_, ?_⟩
  · rw [methP_some h, bs_eq hs]
  · rw [methP_some h]; exact hv
theorem own_more {w' : World} {base : Nat} {v : Value} {xs : List (List UInt8)} {s : ByteArray} {l : List UInt8} (hs : s.data.toList = l) (h : w'.ownsRow base 9 1 v (xs.length + 1) (xs.map strV ++ [.string s])) :
    w'.ownsRow base 9 1 v (xs ++ [l]).length ((xs ++ [l]).map strV) := by
  rw [List.map_append, List.length_append]
  rw [bs_eq hs] at h
  exact h
theorem ret_meth {s : ByteArray} {n : Nat} {v : Value} {w w' : World} (hn : n = methF s.data.toList) (h : MethodSays w s.data.toList (errV n) (.returned v) w') : MethodSays w s.data.toList (errV (methF s.data.toList)) (.returned v) w' := hn ▸ h
theorem ext_take (s : ByteArray) (k : Nat) : (s.extract 0 k).data.toList = s.data.toList.take k := by simp
theorem ext_size (s : ByteArray) (a b : Nat) (h : b ≤ s.size) : (s.extract a b).size ≤ s.size := by rw [ByteArray.size_extract]; omega
theorem in_string {k : Nat} {s : ByteArray} (h : k ≤ s.size) : (0 : Int) ≤ (k : Int) ∧ ((k : Int) ≤ (s.size : Int)) := by omega
set_option maxHeartbeats 2000000 in
theorem method_any (s : ByteArray) (w : World) (hs : s.size ≤ 140737488351232) :
    Calls Tryz.prog 93 #[.string s] w (MethodSays w s.data.toList (errV (methF s.data.toList))) := by
  obtain ⟨i0, hi, hz0, hz1, hz2⟩ := info_parts str_info
  have hcl := Lib.hid (fun (z : ByteArray) (h : z.size ≤ s.size) w => clone_any z w (by omega))
  have hre := Lib.hid (fun (z : ByteArray) (h : z.size ≤ s.size) w => isResult_any z w (by unfold maxLen; omega))
  have hty := Lib.hid (fun (z : ByteArray) (h : z.size ≤ s.size) w => size_any z w (by unfold maxLen; omega))
  have hhp := Lib.hid (fun (z : ByteArray) (c : UInt8) w => hasPrefix_any z c w)
  by_cases h40 : headB 40 s.data.toList = true
  · obtain ⟨t, ht⟩ := headB_true h40
    have h1 : 1 ≤ s.size := by
      have e : s.data.toList.length = s.size := by simp
      rw [ht] at e; simp at e; omega
    have HT := Lib.hid ht
    have hz1 : (s.extract 1 s.size).data.toList = t := by rw [ext_drop, ht]; rfl
    have HZ := Lib.hid hz1
    clear ht hz1
    go_enter Tryz.func93, Tryz.ntmps93
    go_wp2_with (first
      | (go_at_call 105; with_reducible refine (hhp.out _ 40 _).mono ?_; rintro e w' ⟨rfl, rfl⟩))
    go_loopw [5, 6] (fun r v wr => ∃ (z : ByteArray) (xs : List (List UInt8)) (A : Option Addr) (c : Nat), r = .string z ∧ v = .slice A xs.length c ∧ z.size ≤ s.size ∧ xs.length ≤ 5 ∧ Hid (cuts t = (xs ++ (cuts z.data.toList).1, (cuts z.data.toList).2)) ∧ Hid (wr.ownsRow w.heap.size 9 1 v xs.length (xs.map strV)) ∧ Hid (Below w.heap.size w wr))
      (fun r _ _ => (match r with | .string z => z.size | _ => 0))
    case atStart => exact ⟨_, [], none, 0, rfl, rfl, ext_size _ _ _ (Nat.le_refl _), Nat.zero_le _, Lib.hid (by rw [HZ.out]; rfl), Lib.hid (World.ownsRow_nil _ _ _ _), Lib.hid (Below.refl _ _)⟩
    case round =>
      obtain ⟨z, xs, A, c, rfl, rfl, hzs, hx5, HC, HO, HB⟩ := hrel
      have hh := Lib.hid (fun w => hhp.out z 41 w)
      have hext := ext_size z 1 z.size (Nat.le_refl _)
      have hsz := HB.out.size
      by_cases h41 : headB 41 z.data.toList = true
      · have hz1 : 1 ≤ z.size := by
          obtain ⟨r, hr⟩ := headB_true h41
          have e : z.data.toList.length = z.size := by simp
          rw [hr] at e; simp at e; omega
        have HE := Lib.hid (meth_end HC.out h41)
        have HX := Lib.hid (ext_drop z 1)
        have hr1 := Lib.hid (fun w => hre.out (z.extract 1 z.size) (by omega) w)
        have hc1 := Lib.hid (fun w => hcl.out (z.extract 1 z.size) (by omega) w)
        rw [h41] at hh
        rw [ext_drop] at hr1
        clear h41
        by_cases hr : resultB (z.data.toList.drop 1) = true
        · have HS := Lib.hid (show methodB s.data.toList = some (xs, z.data.toList.drop 1) by rw [HT.out, HE.out, if_pos ⟨hx5, hr⟩])
          rw [hr] at hr1
          clear hr HE
          go_wp2_with (first
            | (go_at_call 105; with_reducible refine (hh.out _).mono ?_; rintro e w' ⟨rfl, rfl⟩)
            | (go_at_call 106; with_reducible refine (hr1.out _).mono ?_; rintro e w' ⟨rfl, rfl⟩)
            | (go_at_call 34; with_reducible refine (hc1.out _).mono ?_; rintro e w' ⟨rfl, hb⟩))
          go_ret3
          exact ret_meth (methF_some HS.out).symm (says_some HS.out (HB.out.trans (hb.mono hsz)) HX.out (own_below HO.out hb))
        · have hrf : resultB (z.data.toList.drop 1) = false := by simpa using hr
          have HS := Lib.hid (show methodB s.data.toList = none by rw [HT.out, HE.out, if_neg (fun h => hr h.2)])
          rw [hrf] at hr1
          clear hr HE hrf
          go_wp2_with (first
            | (go_at_call 105; with_reducible refine (hh.out _).mono ?_; rintro e w' ⟨rfl, rfl⟩)
            | (go_at_call 106; with_reducible refine (hr1.out _).mono ?_; rintro e w' ⟨rfl, rfl⟩))
          go_ret3
          exact ret_meth (methF_none HS.out).symm (says_none HS.out HB.out)
      · have h41' : headB 41 z.data.toList = false := by simpa using h41
        rw [h41'] at hh
        have ht1 := Lib.hid (fun w => hty.out z (by omega) w)
        by_cases h0 : typeLen z.data.toList = 0
        · have HS := Lib.hid (show methodB s.data.toList = none by rw [HT.out, meth_not HC.out h41' h0])
          rw [h0] at ht1
          clear h0 h41 h41'
          go_wp2_with (first
            | (go_at_call 105; with_reducible refine (hh.out _).mono ?_; rintro e w' ⟨rfl, rfl⟩)
            | (go_at_call 103; with_reducible refine (ht1.out _).mono ?_; rintro e w' ⟨rfl, rfl⟩))
          go_ret3
          exact ret_meth (methF_none HS.out).symm (says_none HS.out HB.out)
        · have hle : typeLen z.data.toList ≤ z.size := by have := typeLen_le z.data.toList; simpa using this
          have HN := Lib.hid (fun h => meth_many HC.out h0 h)
          have HC2 := Lib.hid (meth_step HC.out h0)
          obtain ⟨n, hn⟩ : ∃ n, n = typeLen z.data.toList := ⟨_, rfl⟩
          rw [← hn] at ht1 h0 hle HC2
          have hne : ((n : Int) == 0) = false := by rw [beq_eq_false_iff_ne]; omega
          have hn0 : 0 < n := by omega
          clear hn h0 h41 h41'
          by_cases h5 : xs.length = 5
          · have HS := Lib.hid (show methodB s.data.toList = none by rw [HT.out]; exact HN.out (by omega))
            have h5i : ((xs.length : Int) == 5) = true := by rw [h5]; rfl
            clear h5
            go_wp2_with (first
              | (go_at_call 105; with_reducible refine (hh.out _).mono ?_; rintro e w' ⟨rfl, rfl⟩)
              | (go_at_call 103; with_reducible refine (ht1.out _).mono ?_; rintro e w' ⟨rfl, rfl⟩))
            go_ret3
            exact ret_meth (methF_none HS.out).symm (says_none HS.out HB.out)
          · have h5i : ((xs.length : Int) == 5) = false := by rw [beq_eq_false_iff_ne]; omega
            have hx4 : xs.length ≤ 4 := by omega
            have he1 := ext_size z 0 n hle
            have he2 := ext_size z n z.size (Nat.le_refl _)
            have hc1 := Lib.hid (fun w => hcl.out (z.extract 0 n) (by omega) w)
            clear h5
            go_wp2_with (first
              | (go_at_call 105; with_reducible refine (hh.out _).mono ?_; rintro e w' ⟨rfl, rfl⟩)
              | (go_at_call 103; with_reducible refine (ht1.out _).mono ?_; rintro e w' ⟨rfl, rfl⟩)
              | (go_at_call 34; with_reducible refine (hc1.out _).mono ?_; rintro e w1 ⟨rfl, hb⟩; have HO1 := Lib.hid (own_below HO.out hb))
              | (at_builtin; refine wpList_append_own _ rfl _ _ 47 rfl w.heap.size 9 i0 (.string ByteArray.empty) 1 16 Tryz.underlying47 hi hz0 hz1 hz2 rfl (by decide) _ _ _ rfl (HO1.out.alloc _) ⟨w1.heap.size, 0, none⟩ 1 1 [.string (z.extract 0 n)] rfl rfl (cell_one_new _ _ _) (fun x hx => by simp at hx; subst hx; rfl) (by unfold maxLen; omega) (by omega) (by have := hb.size; simp; omega) ?_; intro v' w3 hown' hgrow3 hnil3; have HO2 := Lib.hid hown'; have HG := Lib.hid hgrow3; clear hown' hgrow3 hnil3))
            go_roundw
            case rel =>
              obtain ⟨A', c', rfl⟩ := own_form HO2.out
              refine ⟨z.extract n z.size, xs ++ [z.data.toList.take n], A', c', rfl, by simp, by omega, by simp; omega, Lib.hid (by rw [ext_drop]; exact HC2.out), Lib.hid (own_more (ext_take z n) HO2.out), Lib.hid ?_⟩
              have hbs := hb.size
              exact ((HB.out.trans (hb.mono hsz)).alloc (by omega) _).grown HG.out (by simp; omega) (fun q hq => (HO1.out.lt q hq).1)
            case measure => simp; omega
  · have h40' : headB 40 s.data.toList = false := by simpa using h40
    have hh := Lib.hid (fun w => hhp.out s 40 w)
    rw [h40'] at hh
    have HS := Lib.hid (meth_start h40')
    clear h40 h40'
    go_enter Tryz.func93, Tryz.ntmps93
    go_wp2_with (first
      | (go_at_call 105; with_reducible refine (hh.out _).mono ?_; rintro e w' ⟨rfl, rfl⟩))
    go_ret3
    exact ret_meth (methF_none HS.out).symm (says_none HS.out (Below.refl _ _))
end Go.Proofs.YtkolpbjpgobkcaaGreatDoor
namespace Go.Proofs.YtkolpbjpgobkcaaGreatDoor
open Go.ChangeShapes Go.WideShapes Go.ChangeAt Go.RowKit
set_option linter.unusedVariables false

def methS (l : List UInt8) : Bool := (methodB l).isSome
theorem methS_none {l : List UInt8} (h : methodB l = none) : methS l = false := by rw [methS, h]; rfl
theorem methS_some {l : List UInt8} {a g} (h : methodB l = some (a, g)) : methS l = true := by rw [methS, h]; rfl
theorem ret_of {s : ByteArray} {b : Bool} {v : Value} {w w' : World} (hn : b = methS s.data.toList) (h : MethodSays w s.data.toList (.bool b) (.returned v) w') : MethodSays w s.data.toList (.bool (methS s.data.toList)) (.returned v) w' := hn ▸ h
theorem typeAtN_eq {l : List UInt8} {a : Nat} (h : typeLen (l.drop a) ≠ 0) : typeAtN l a = a + typeLen (l.drop a) := by rw [typeAtN, if_neg h]
theorem headB_drop {s : ByteArray} {k : Nat} (h : k < s.size) : headB 41 (s.data.toList.drop k) = (s[k] == 41) := by rw [drop_of h]; rfl
theorem ext_range (s : ByteArray) (k n : Nat) : (s.extract k (k + n)).data.toList = (s.data.toList.drop k).take n := by simp
theorem resultB_V {g : List UInt8} (h : g = [86]) : resultB g = true := by rw [h]; rfl
theorem resultB_T {g : List UInt8} (h : isTypeB g = true) : resultB g = true := by simp [resultB, h]
theorem resultB_N {g : List UInt8} (h : ¬ g = [86]) (h2 : isTypeB g = false) : ¬ resultB g = true := by simp [resultB, h, h2]
set_option maxHeartbeats 4000000 in
set_option maxRecDepth 100000 in
theorem methodOf_any (s : ByteArray) (w : World) (hs : s.size ≤ 1048576) :
    Calls Tryz.prog 50 #[.string s] w (MethodSays w s.data.toList (.bool (methS s.data.toList))) := by
  obtain ⟨i0, hi, hz0, hz1, hz2⟩ := info_parts str_info
  have hat := Lib.hid (fun (k : Nat) (h : k ≤ s.size) w => typeAt_any s k w (by unfold maxLen; omega) h)
  have hty := Lib.hid (fun (z : ByteArray) (h : z.size ≤ s.size) w => isType_any z w (by unfold maxLen; omega))
  by_cases h0 : 0 < s.size
  · have e0 := drop_of h0
    simp only [List.drop_zero, Nat.zero_add] at e0
    by_cases h40 : s[0] = 40
    · have h40i : ((s[0].toNat : Int) != 40) = false := by rw [h40]; rfl
      obtain ⟨t, ht⟩ : ∃ t, t = s.data.toList.drop 1 := ⟨_, rfl⟩
      rw [h40, ← ht] at e0
      have HT := Lib.hid e0
      have HD := Lib.hid ht
      have hlen : ((s.size : Int) == 0) = false := by rw [beq_eq_false_iff_ne]; omega
      clear e0 ht h40
      go_enter Tryz.func50, Tryz.ntmps50
      go_wp2
      go_loopw [5, 6] (fun v i wr => ∃ (k : Nat) (xs : List (List UInt8)) (A : Option Addr) (c : Nat), i = .int .i64 k ∧ v = .slice A xs.length c ∧ k ≤ s.size ∧ xs.length + 1 ≤ k ∧ Hid (cuts t = (xs ++ (cuts (s.data.toList.drop k)).1, (cuts (s.data.toList.drop k)).2)) ∧ Hid (wr.ownsRow w.heap.size 9 1 v xs.length (xs.map strV)) ∧ Hid (Below w.heap.size w wr))
        (fun _ i _ => s.size - (intOf i).toNat)
      case atStart => exact ⟨1, [], none, 0, rfl, rfl, h0, by simp, Lib.hid (by rw [HD.out]; rfl), Lib.hid (World.ownsRow_nil _ _ _ _), Lib.hid (Below.refl _ _)⟩
      case round =>
        obtain ⟨k, xs, A, c, rfl, rfl, hks, hxk, HC, HO, HB⟩ := hrel
        have hsz := HB.out.size
        by_cases hlt : k < s.size
        · by_cases h41 : s[k] = 41
          · have h41i : ((s[k].toNat : Int) != 41) = false := by rw [h41]; rfl
            have hhd : headB 41 (s.data.toList.drop k) = true := by rw [headB_drop hlt, h41]; rfl
            have HE := meth_end HC.out hhd
            rw [List.drop_drop] at HE
            have hg := ext_drop s (k + 1)
            have hext := ext_size s (k + 1) s.size (Nat.le_refl _)
            have hr1 := Lib.hid (fun w => hty.out (s.extract (k + 1) s.size) (by omega) w)
            rw [hg] at hr1
            have HG := Lib.hid hg
            have hge : ¬ s.size ≤ k := by omega
            clear h41 hhd hg
            by_cases h5 : 5 < xs.length
            · have HS := Lib.hid (show methodB s.data.toList = none from (congrArg methodB HT.out).trans (HE.trans (if_neg (fun h => by omega))))
              have h5i : 5 < (xs.length : Int) := by omega
              clear HE
              go_wp2
              go_ret3
              exact ret_of (methS_none HS.out).symm (says_none HS.out HB.out)
            · have h5i : ¬ 5 < (xs.length : Int) := by omega
              by_cases hT : isTypeB (s.data.toList.drop (k + 1)) = true
              · have HS := Lib.hid (show methodB s.data.toList = some (xs, s.data.toList.drop (k + 1)) from (congrArg methodB HT.out).trans (HE.trans (if_pos ⟨by omega, resultB_T hT⟩)))
                rw [hT] at hr1
                clear HE hT
                go_wp2_with (first | (go_at_call 39; with_reducible refine (hr1.out _).mono ?_; rintro e w' ⟨rfl, rfl⟩))
                all_goals
                  go_ret3
                  exact ret_of (methS_some HS.out).symm (says_some HS.out HB.out HG.out HO.out)
              · have hT' : isTypeB (s.data.toList.drop (k + 1)) = false := by simpa using hT
                rw [hT'] at hr1
                have HY := Lib.hid (show s.data.toList.drop (k + 1) = [86] → methodB s.data.toList = some (xs, s.data.toList.drop (k + 1)) from fun hv => (congrArg methodB HT.out).trans (HE.trans (if_pos ⟨by omega, resultB_V hv⟩)))
                have HN := Lib.hid (show ¬ s.data.toList.drop (k + 1) = [86] → methodB s.data.toList = none from fun hv => (congrArg methodB HT.out).trans (HE.trans (if_neg (fun h => resultB_N hv hT' h.2))))
                clear HE hT hT'
                go_wp2_with (first | (go_at_call 39; with_reducible refine (hr1.out _).mono ?_; rintro e w' ⟨rfl, rfl⟩))
                all_goals
                  go_ret3
                · have hv : ¬ (s.extract (k + 1) s.size).toList = [86] := by assumption
                  rw [ByteArray.toList_eq, HG.out] at hv
                  exact ret_of (methS_none (HN.out hv)).symm (says_none (HN.out hv) HB.out)
                · have hv : (s.extract (k + 1) s.size).toList = [86] := by assumption
                  rw [ByteArray.toList_eq, HG.out] at hv
                  exact ret_of (methS_some (HY.out hv)).symm (says_some (HY.out hv) HB.out HG.out HO.out)
          · have h41i : ((s[k].toNat : Int) != 41) = true := by rw [bne_iff_ne]; intro h; exact h41 (by rw [u8eq]; exact h)
            have hhd : headB 41 (s.data.toList.drop k) = false := by rw [headB_drop hlt]; simpa using h41
            have ht1 := Lib.hid (fun w => hat.out k hks w)
            by_cases h0 : typeLen (s.data.toList.drop k) = 0
            · have HS := Lib.hid (show methodB s.data.toList = none from (congrArg methodB HT.out).trans (meth_not HC.out hhd h0))
              have e : typeAtN s.data.toList k = 0 := by rw [typeAtN, if_pos h0]
              rw [e] at ht1
              clear h0 h41 hhd e
              go_wp2_with (first | (go_at_call 49; with_reducible refine (ht1.out _).mono ?_; rintro e w' ⟨rfl, rfl⟩))
              go_ret3
              exact ret_of (methS_none HS.out).symm (says_none HS.out HB.out)
            · have hle : typeLen (s.data.toList.drop k) ≤ s.size - k := by have := typeLen_le (s.data.toList.drop k); simpa using this
              have HC2 := Lib.hid (meth_step HC.out h0)
              rw [typeAtN_eq h0] at ht1
              obtain ⟨n, hn⟩ : ∃ n, n = typeLen (s.data.toList.drop k) := ⟨_, rfl⟩
              rw [← hn] at ht1 h0 hle HC2
              have hn0 : 0 < n := by omega
              have hkn : k + n ≤ s.size := by omega
              have hne : (((k + n : Nat) : Int) == 0) = false := by rw [beq_eq_false_iff_ne]; omega
              clear hn h0 h41 hhd
              go_wp2_with (first
                | (go_at_call 49; with_reducible refine (ht1.out _).mono ?_; rintro e w' ⟨rfl, rfl⟩)
                | (at_builtin; refine wpList_append_own _ rfl _ _ 47 rfl w.heap.size 9 i0 (.string ByteArray.empty) 1 16 Tryz.underlying47 hi hz0 hz1 hz2 rfl (by decide) _ _ _ rfl (HO.out.alloc _) ⟨wr.heap.size, 0, none⟩ 1 1 [.string (s.extract k (k + n))] rfl rfl (cell_one_new _ _ _) (fun x hx => by simp at hx; subst hx; rfl) (by unfold maxLen; omega) (by omega) (by simp; omega) ?_; intro v' w3 hown' hgrow3 hnil3; have HO2 := Lib.hid hown'; have HG := Lib.hid hgrow3; clear hown' hgrow3 hnil3))
              go_roundw
              case rel =>
                obtain ⟨A', c', rfl⟩ := own_form HO2.out
                refine ⟨k + n, xs ++ [(s.data.toList.drop k).take n], A', c', by go_num, by simp, by omega, by simp; omega, Lib.hid (by have := HC2.out; rw [List.drop_drop] at this; exact this), Lib.hid (own_more (ext_range s k n) HO2.out), Lib.hid ?_⟩
                exact (HB.out.alloc (by omega) _).grown HG.out (by simp; omega) (fun q hq => (HO.out.lt q hq).1)
              case measure => first | (simp [intOf]; omega) | simp [intOf]
        · obtain rfl : k = s.size := by omega
          have HS := Lib.hid (show methodB s.data.toList = none by
            have e : s.data.toList.drop s.size = [] := List.drop_eq_nil_of_le (by simp)
            refine (congrArg methodB HT.out).trans (meth_not HC.out ?_ ?_)
            · rw [e]; rfl
            · rw [e]; exact typeLen_nil)
          go_wp2
          go_ret3
          exact ret_of (methS_none HS.out).symm (says_none HS.out HB.out)
    · have h40i : ((s[0].toNat : Int) != 40) = true := by rw [bne_iff_ne]; intro h; exact h40 (by rw [u8eq]; exact h)
      have hlen : ((s.size : Int) == 0) = false := by rw [beq_eq_false_iff_ne]; omega
      have HS := Lib.hid (show methodB s.data.toList = none from meth_start (by rw [e0]; simpa [headB] using h40))
      clear e0 h40
      go_enter Tryz.func50, Tryz.ntmps50
      go_wp2
      go_ret3
      exact ret_of (methS_none HS.out).symm (says_none HS.out (Below.refl _ _))
  · have hlen : ((s.size : Int) == 0) = true := by rw [show s.size = 0 by omega]; rfl
    have HS := Lib.hid (show methodB s.data.toList = none by
      rw [show s.data.toList = [] from List.eq_nil_of_length_eq_zero (by have : s.data.toList.length = s.size := Array.length_toList; omega)]; rfl)
    go_enter Tryz.func50, Tryz.ntmps50
    go_wp2
    go_ret3
    exact ret_of (methS_none HS.out).symm (says_none HS.out (Below.refl _ _))
end Go.Proofs.YtkolpbjpgobkcaaGreatDoor
