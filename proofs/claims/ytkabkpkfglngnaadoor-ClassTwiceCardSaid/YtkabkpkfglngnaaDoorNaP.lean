/- The contracts of the program's own functions that decide names: what each of them returns, for every string. -/
import Derived.Test.YtkabkpkfglngnaaDoorErr
namespace Go.Proofs.YtkabkpkfglngnaaDoor
open Go.RowKit
set_option linter.unusedVariables false

/-- A letter, as the document has it (the underscore counts). -/
def letterB (c : UInt8) : Bool := (97 ≤ c && c ≤ 122) || (65 ≤ c && c ≤ 90) || c == 95
def alphaB (c : UInt8) : Bool := (97 ≤ c && c ≤ 122) || (65 ≤ c && c ≤ 90)
def digitB (c : UInt8) : Bool := 48 ≤ c && c ≤ 57
def wordB (c : UInt8) : Bool := letterB c || digitB c
def nameB (l : List UInt8) : Bool :=
  match l with
  | [] => false
  | c :: r => decide (l.length ≤ 20) && !digitB c && l.all wordB

theorem wordB_eq (c : UInt8) : wordB c = (alphaB c || digitB c || c == 95) := by
  simp only [wordB, letterB, alphaB]; cases digitB c <;> simp
theorem u8le (a b : UInt8) : (a ≤ b) = ((a.toNat : Int) ≤ (b.toNat : Int)) := by simp [UInt8.le_iff_toNat_le]

theorem u8eq (a b : UInt8) : (a = b) = ((a.toNat : Int) = (b.toNat : Int)) := by
  simp only [eq_iff_iff]
  exact ⟨fun h => by rw [h], fun h => UInt8.toNat_inj.mp (by omega)⟩

theorem isDigit_any (c : UInt8) (w : World) : Calls Tryd.prog 19 #[.int .u8 (c.toNat : Int)] w fun e w' => e = .returned (.bool (digitB c)) ∧ w = w' := by
  go_enter Tryd.func19, Tryd.ntmps19
  go_wp2
  all_goals
    go_ret
    exact ⟨ret_bool (by rw [Bool.eq_iff_iff]; simp [digitB, u8le]; omega), rfl⟩
theorem isLetter_any (c : UInt8) (w : World) : Calls Tryd.prog 20 #[.int .u8 (c.toNat : Int)] w fun e w' => e = .returned (.bool (alphaB c)) ∧ w = w' := by
  go_enter Tryd.func20, Tryd.ntmps20
  go_wp2
  all_goals
    go_ret
    exact ⟨ret_bool (by rw [Bool.eq_iff_iff]; simp [alphaB, u8le]; omega), rfl⟩

/-! Names as lists of bytes: what a round of either loop learns. -/
theorem nameB_of {s : ByteArray} (h0 : 0 < s.size) (h1 : s.size ≤ 20) (h2 : digitB s[0] = false) : nameB s.data.toList = s.data.toList.all wordB := by
  obtain ⟨l⟩ := s
  obtain ⟨l⟩ := l
  match l with
  | [] => simp [ByteArray.size] at h0
  | c :: r =>
    have h2' : digitB c = false := h2
    have h1' : r.length + 1 ≤ 20 := h1
    have h3 : r.length ≤ 19 := by omega
    simp only [nameB, h2', Bool.not_false, Bool.and_true, List.length_cons]
    simp [h3]
theorem nameB_not {s : ByteArray} (h : s.size = 0 ∨ 20 < s.size ∨ ∃ h : 0 < s.size, digitB s[0] = true) : nameB s.data.toList = false := by
  obtain ⟨l⟩ := s
  obtain ⟨l⟩ := l
  match l with
  | [] => rfl
  | c :: r =>
    rcases h with h | h | ⟨h, h2⟩
    · simp [ByteArray.size] at h
    · have h1 : 20 < r.length + 1 := h
      have h3 : ¬ r.length ≤ 19 := by omega
      simp [nameB, h3]
    · have h2' : digitB c = true := h2
      simp [nameB, h2']
theorem all_take_succ (s : ByteArray) (p : UInt8 → Bool) (k : Nat) (h : k < s.size) : (s.data.toList.take (k + 1)).all p = ((s.data.toList.take k).all p && p s[k]) := by
  rw [List.take_succ_eq_append_getElem (by simpa using h), List.all_append]
  simp
  rfl
theorem all_false_of (s : ByteArray) (p : UInt8 → Bool) (k : Nat) (h : k < s.size) (hp : p s[k] = false) : s.data.toList.all p = false := by
  rw [List.all_eq_false]
  exact ⟨s[k], Array.mem_toList_iff.mpr (Array.getElem_mem (xs := s.data) (i := k) h), by simp [hp]⟩


/-! The program's own: an error where there is no name. -/
def nameF (l : List UInt8) : Nat := if nameB l = true then 0 else 1
theorem nameF_no {l : List UInt8} (h : nameB l = false) : nameF l = 1 := by simp [nameF, h]
theorem nameF_yes {l : List UInt8} (h : nameB l = true) : nameF l = 0 := by simp [nameF, h]
set_option maxHeartbeats 600000 in
theorem check_any (s : ByteArray) (w : World) (hs : s.size ≤ maxLen) :
    Calls Tryd.prog 11 #[.string s] w fun e w' => e = .returned (errV (nameF s.data.toList)) ∧ w = w' := by
  unfold maxLen at hs
  by_cases h0 : s.size = 0
  · have H := Lib.hid (nameF_no (nameB_not (.inl h0)))
    go_enter Tryd.func11, Tryd.ntmps11
    go_wp2
    go_ret
    exact ⟨ret_err (by rw [H.out]; rfl), rfl⟩
  have h0' : 0 < s.size := by omega
  have hz : ((s.size : Int) == 0) = false := by rw [beq_eq_false_iff_ne]; omega
  clear h0
  by_cases h1 : 20 < s.size
  · have H := Lib.hid (nameF_no (nameB_not (.inr (.inl h1))))
    go_enter Tryd.func11, Tryd.ntmps11
    go_wp2
    go_ret
    exact ⟨ret_err (by rw [H.out]; rfl), rfl⟩
  have h1' : s.size ≤ 20 := by omega
  have hg : ¬ 20 < (s.size : Int) := by omega
  clear h1
  by_cases h2 : digitB s[0] = true
  · have H := Lib.hid (nameF_no (nameB_not (.inr (.inr ⟨h0', h2⟩))))
    go_enter Tryd.func11, Tryd.ntmps11
    go_wp2_with (go_at_call 19; refine (isDigit_any _ _).mono ?_; rintro e w' ⟨rfl, rfl⟩)
    go_ret
    exact ⟨ret_err (by rw [H.out]; rfl), rfl⟩
  · have h2' : digitB s[0] = false := by simpa using h2
    have H := Lib.hid (nameB_of h0' (by omega) h2')
    go_enter Tryd.func11, Tryd.ntmps11
    go_wp2_with (go_at_call 19; refine (isDigit_any _ _).mono ?_; rintro e w' ⟨rfl, rfl⟩)
    clear h2 h2'
    go_loop [3, 20] (fun _ i => ∃ k : Nat, k ≤ s.size ∧ i = .int .i64 k ∧ Hid ((s.data.toList.take k).all wordB = true)) (fun _ i => s.size - (intOf i).toNat)
    case atStart => exact ⟨0, Nat.zero_le _, rfl, Lib.hid (by simp)⟩
    case round =>
      obtain ⟨k, hk, rfl, HR⟩ := hrel
      by_cases hlt : k < s.size
      · have HT := Lib.hid (all_take_succ s wordB k hlt)
        by_cases hl : alphaB s[k] = true
        · go_wp2_with (first
            | (go_at_call 20; refine (isLetter_any _ _).mono ?_; rintro e w' ⟨rfl, rfl⟩)
            | (go_at_call 19; refine (isDigit_any _ _).mono ?_; rintro e w' ⟨rfl, rfl⟩))
          go_round
          case rel => exact ⟨k + 1, by omega, by go_num, Lib.hid (by rw [HT.out, HR.out]; simp [wordB_eq, hl])⟩
          case measure => first | (simp [intOf]; omega) | simp [intOf]
        · have hl' : alphaB s[k] = false := by simpa using hl
          by_cases hd : digitB s[k] = true
          · go_wp2_with (first
              | (go_at_call 20; refine (isLetter_any _ _).mono ?_; rintro e w' ⟨rfl, rfl⟩)
              | (go_at_call 19; refine (isDigit_any _ _).mono ?_; rintro e w' ⟨rfl, rfl⟩))
            go_round
            case rel => exact ⟨k + 1, by omega, by go_num, Lib.hid (by rw [HT.out, HR.out]; simp [wordB_eq, hd])⟩
            case measure => first | (simp [intOf]; omega) | simp [intOf]
          · have hd' : digitB s[k] = false := by simpa using hd
            by_cases hu : s[k] = 95
            · have hu1 : ((s[k].toNat : Int) != 95) = false := by simp [hu]
              have HU := Lib.hid hu
              clear hu
              go_wp2_with (first
                | (go_at_call 20; refine (isLetter_any _ _).mono ?_; rintro e w' ⟨rfl, rfl⟩)
                | (go_at_call 19; refine (isDigit_any _ _).mono ?_; rintro e w' ⟨rfl, rfl⟩))
              go_round
              case rel => exact ⟨k + 1, by omega, by go_num, Lib.hid (by rw [HT.out, HR.out]; simp [wordB_eq, HU.out])⟩
              case measure => first | (simp [intOf]; omega) | simp [intOf]
            · have hu1 : ((s[k].toNat : Int) != 95) = true := by
                rw [bne_iff_ne]
                exact fun h => hu (by rw [u8eq]; exact h)
              have HF := Lib.hid (all_false_of s wordB k hlt (by simp [wordB_eq, hl', hd', hu]))
              clear hu
              go_wp2_with (first
                | (go_at_call 20; refine (isLetter_any _ _).mono ?_; rintro e w' ⟨rfl, rfl⟩)
                | (go_at_call 19; refine (isDigit_any _ _).mono ?_; rintro e w' ⟨rfl, rfl⟩))
              go_ret
              exact ⟨ret_err (by rw [nameF_no (by rw [H.out, HF.out])]; rfl), rfl⟩
      · obtain rfl : k = s.size := by omega
        go_wp2
        go_ret
        exact ⟨ret_err (by rw [nameF_yes (by rw [H.out]; have := HR.out; rwa [List.take_of_length_le (by simp)] at this)]; rfl), rfl⟩
end Go.Proofs.YtkabkpkfglngnaaDoor
