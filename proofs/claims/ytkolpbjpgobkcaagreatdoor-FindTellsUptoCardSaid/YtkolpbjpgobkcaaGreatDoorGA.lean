/- Errors as numbers: the value of an error (0: none), and the comparisons that the statements make of it. The contracts of the program's own functions that decide names: what each of them returns, for every string. The contracts of the reference's functions that decide names: what each of them returns, for every string. Types and method types as lists of bytes: plain facts, no program. The frame of a law's proof: where the call gives true and below the old heap nothing has turned, the row's condition on what the call leaves is met. name.Check where there is a name and where there is none. Slices whose elements take one cell each, as lists (nil and empty ones too); rows of the call's own under later worlds. A law's arguments: the sizes that the statement grants. Slices whose elements are structs (and slices in them) as lists: how they lie, what an argument of nested data reads as, the sizes that the statement grants. -/
import Derived.Test.YtkolpbjpgobkcaaGreatDoorProg
import Derived.WalkKit
import Derived.LoopTactic
import Derived.Lib.Hide
import Derived.IntWalk
import Derived.BigGuardPart
import Derived.Lib.IfaceEq
import Derived.Lib.IfaceNeq
import Derived.Outline
import Derived.LaidEql
import Derived.Test.YtkolpbjpgobkcaaGreatDoorRows
import Derived.ProofKit
import Derived.OpenShut
import Derived.JoinedCond
import Derived.Below
import Derived.Carry
import Derived.Deep.QuietTactic
import Derived.BigQuiet
import Derived.RegionTactic
import Derived.ChangeAlike
import Derived.Laws.IdiomStrings
import Derived.Laws.OwnMore
import Derived.Deep.AppendLies
import Derived.Deep.Draws
import Derived.OwnWalk
import Derived.SliceStrings
import Derived.SizedLaws
import Derived.Deep.CondSized
import Derived.Deep.Slices
import Derived.ChangeSlices
namespace Go.Proofs.YtkolpbjpgobkcaaGreatDoor
open Go.RowKit
set_option linter.unusedVariables false

/-- The value of an error: its number; 0 is none. -/
def errV (n : Nat) : Value := if n = 0 then .nilIface else .iface 24 (.int .i64 (n : Int))
theorem errV_zero : errV 0 = .nilIface := rfl
theorem errV_pos {n : Nat} (h : n ≠ 0) : errV n = .iface 24 (.int .i64 (n : Int)) := by simp [errV, h]
theorem errV_form : errV 1 = .iface 24 (.int .i64 1) := rfl

theorem ret_bool {a b : Bool} (h : a = b) : Ending.returned (.bool a) = .returned (.bool b) := by rw [h]
theorem ret_err {a : Value} {n : Nat} (h : a = errV n) : Ending.returned a = .returned (errV n) := by rw [h]

theorem errno_cmp : (Tryz.prog.info? 24).map (·.comparable) = some true := by kernel_rfl
theorem eqGuard_errV_nil {op : BinOp} {t : TypeId} {x : Operand} {c : Value} (n : Nat) : eqGuard op t x (.const c) (errV n) .nilIface = pure () := by
  rcases Nat.eq_zero_or_pos n with rfl | h
  · exact eqGuard_nil_constR ..
  · rw [errV_pos (by omega)]; exact eqGuard_at_iface ..
theorem eqGuard_errV_iface {op : BinOp} {t : TypeId} {x y : Operand} {d : TypeId} {u : Value} (n : Nat) : eqGuard op t x y (errV n) (.iface d u) = pure () := by
  rcases Nat.eq_zero_or_pos n with rfl | h
  · exact eqGuard_nil_iface ..
  · rw [errV_pos (by omega)]; exact eqGuard_at_iface ..
theorem eql_errV_nil (n : Nat) (w : World) : (binOp .eql 29 (errV n) .nilIface).run Tryz.prog w = .ok (.bool (n == 0)) w := by
  rcases Nat.eq_zero_or_pos n with rfl | h
  · exact run_eql_nil_nil w _ (by kernel_rfl)
  · rw [errV_pos (by omega), run_eql_held_nil w _ _ _ (by kernel_rfl)]
    have : (n == 0) = false := by rw [beq_eq_false_iff_ne]; omega
    rw [this]
theorem neq_errV_nil (n : Nat) (w : World) : (binOp .neq 29 (errV n) .nilIface).run Tryz.prog w = .ok (.bool (n != 0)) w := by
  rcases Nat.eq_zero_or_pos n with rfl | h
  · exact run_neq_nil_nil w _ (by kernel_rfl)
  · rw [errV_pos (by omega), run_neq_held_nil w _ _ _ (by kernel_rfl)]
    have : (n != 0) = true := by rw [bne_iff_ne]; omega
    rw [this]
theorem eql_errV_iface (n m : Nat) (w : World) (hm : m ≠ 0) : (binOp .eql 29 (errV n) (.iface 24 (.int .i64 (m : Int)))).run Tryz.prog w = .ok (.bool (n == m)) w := by
  rcases Nat.eq_zero_or_pos n with rfl | h
  · have : (0 == m) = false := by rw [beq_eq_false_iff_ne]; omega
    rw [this]
    exact run_eql_iface_nil_left _ _ _ Tryz.underlying29
  · rw [errV_pos (by omega), Lib.run_eql_iface_int w n m Tryz.underlying29 errno_cmp Tryz.underlying24]
    congr 2
    rw [Bool.eq_iff_iff]; simp; omega
theorem eql_errV_form (n : Nat) (w : World) : (binOp .eql 29 (errV n) (.iface 24 (.int .i64 1))).run Tryz.prog w = .ok (.bool (n == 1)) w := eql_errV_iface n 1 w (by omega)
end Go.Proofs.YtkolpbjpgobkcaaGreatDoor
namespace Go.Proofs.YtkolpbjpgobkcaaGreatDoor
open Go.RowKit
set_option linter.unusedVariables false

/-- A letter, as the document has it (the underscore counts). -/
def letterB (c : UInt8) : Bool := (97 ≤ c && c ≤ 122) || (65 ≤ c && c ≤ 90) || c == 95
def alphaB (c : UInt8) : Bool := (97 ≤ c && c ≤ 122) || (65 ≤ c && c ≤ 90)
def digitB (c : UInt8) : Bool := 48 ≤ c && c ≤ 57
def wordB (c : UInt8) : Bool := letterB c || digitB c
def nameB (l : List UInt8) : Bool :=
  match l with
  | [] => false
  | c :: r => decide (l.length ≤ 20) && !digitB c && l.all wordB

theorem wordB_eq (c : UInt8) : wordB c = (alphaB c || digitB c || c == 95) := by
  simp only [wordB, letterB, alphaB]; cases digitB c <;> simp
theorem u8le (a b : UInt8) : (a ≤ b) = ((a.toNat : Int) ≤ (b.toNat : Int)) := by simp [UInt8.le_iff_toNat_le]

theorem u8eq (a b : UInt8) : (a = b) = ((a.toNat : Int) = (b.toNat : Int)) := by
  simp only [eq_iff_iff]
  exact ⟨fun h => by rw [h], fun h => UInt8.toNat_inj.mp (by omega)⟩

theorem isDigit_any (c : UInt8) (w : World) : Calls Tryz.prog 88 #[.int .u8 (c.toNat : Int)] w fun e w' => e = .returned (.bool (digitB c)) ∧ w = w' := by
  go_enter Tryz.func88, Tryz.ntmps88
  go_wp2
  all_goals
    go_ret
    exact ⟨ret_bool (by rw [Bool.eq_iff_iff]; simp [digitB, u8le]; omega), rfl⟩
theorem isLetter_any (c : UInt8) (w : World) : Calls Tryz.prog 89 #[.int .u8 (c.toNat : Int)] w fun e w' => e = .returned (.bool (alphaB c)) ∧ w = w' := by
  go_enter Tryz.func89, Tryz.ntmps89
  go_wp2
  all_goals
    go_ret
    exact ⟨ret_bool (by rw [Bool.eq_iff_iff]; simp [alphaB, u8le]; omega), rfl⟩

/-! Names as lists of bytes: what a round of either loop learns. -/
theorem nameB_of {s : ByteArray} (h0 : 0 < s.size) (h1 : s.size ≤ 20) (h2 : digitB s[0] = false) : nameB s.data.toList = s.data.toList.all wordB := by
  obtain ⟨l⟩ := s
  obtain ⟨l⟩ := l
  match l with
  | [] => simp [ByteArray.size] at h0
  | c :: r =>
    have h2' : digitB c = false := h2
    have h1' : r.length + 1 ≤ 20 := h1
    have h3 : r.length ≤ 19 := by omega
    simp only [nameB, h2', Bool.not_false, Bool.and_true, List.length_cons]
    simp [h3]
theorem nameB_not {s : ByteArray} (h : s.size = 0 ∨ 20 < s.size ∨ ∃ h : 0 < s.size, digitB s[0] = true) : nameB s.data.toList = false := by
  obtain ⟨l⟩ := s
  obtain ⟨l⟩ := l
  match l with
  | [] => rfl
  | c :: r =>
    rcases h with h | h | ⟨h, h2⟩
    · simp [ByteArray.size] at h
    · have h1 : 20 < r.length + 1 := h
      have h3 : ¬ r.length ≤ 19 := by omega
      simp [nameB, h3]
    · have h2' : digitB c = true := h2
      simp [nameB, h2']
theorem all_take_succ (s : ByteArray) (p : UInt8 → Bool) (k : Nat) (h : k < s.size) : (s.data.toList.take (k + 1)).all p = ((s.data.toList.take k).all p && p s[k]) := by
  rw [List.take_succ_eq_append_getElem (by simpa using h), List.all_append]
  simp
  rfl
theorem all_false_of (s : ByteArray) (p : UInt8 → Bool) (k : Nat) (h : k < s.size) (hp : p s[k] = false) : s.data.toList.all p = false := by
  rw [List.all_eq_false]
  exact ⟨s[k], Array.mem_toList_iff.mpr (Array.getElem_mem (xs := s.data) (i := k) h), by simp [hp]⟩


/-! The program's own: an error where there is no name. -/
def nameF (l : List UInt8) : Nat := if nameB l = true then 0 else 1
theorem nameF_no {l : List UInt8} (h : nameB l = false) : nameF l = 1 := by simp [nameF, h]
theorem nameF_yes {l : List UInt8} (h : nameB l = true) : nameF l = 0 := by simp [nameF, h]
set_option maxHeartbeats 600000 in
theorem check_any (s : ByteArray) (w : World) (hs : s.size ≤ maxLen) :
    Calls Tryz.prog 70 #[.string s] w fun e w' => e = .returned (errV (nameF s.data.toList)) ∧ w = w' := by
  unfold maxLen at hs
  by_cases h0 : s.size = 0
  · have H := Lib.hid (nameF_no (nameB_not (.inl h0)))
    go_enter Tryz.func70, Tryz.ntmps70
    go_wp2
    go_ret
    exact ⟨ret_err (by rw [H.out]; rfl), rfl⟩
  have h0' : 0 < s.size := by omega
  have hz : ((s.size : Int) == 0) = false := by rw [beq_eq_false_iff_ne]; omega
  clear h0
  by_cases h1 : 20 < s.size
  · have H := Lib.hid (nameF_no (nameB_not (.inr (.inl h1))))
    go_enter Tryz.func70, Tryz.ntmps70
    go_wp2
    go_ret
    exact ⟨ret_err (by rw [H.out]; rfl), rfl⟩
  have h1' : s.size ≤ 20 := by omega
  have hg : ¬ 20 < (s.size : Int) := by omega
  clear h1
  by_cases h2 : digitB s[0] = true
  · have H := Lib.hid (nameF_no (nameB_not (.inr (.inr ⟨h0', h2⟩))))
    go_enter Tryz.func70, Tryz.ntmps70
    go_wp2_with (go_at_call 88; refine (isDigit_any _ _).mono ?_; rintro e w' ⟨rfl, rfl⟩)
    go_ret
    exact ⟨ret_err (by rw [H.out]; rfl), rfl⟩
  · have h2' : digitB s[0] = false := by simpa using h2
    have H := Lib.hid (nameB_of h0' (by omega) h2')
    go_enter Tryz.func70, Tryz.ntmps70
    go_wp2_with (go_at_call 88; refine (isDigit_any _ _).mono ?_; rintro e w' ⟨rfl, rfl⟩)
    clear h2 h2'
    go_loop [3, 20] (fun _ i => ∃ k : Nat, k ≤ s.size ∧ i = .int .i64 k ∧ Hid ((s.data.toList.take k).all wordB = true)) (fun _ i => s.size - (intOf i).toNat)
    case atStart => exact ⟨0, Nat.zero_le _, rfl, Lib.hid (by simp)⟩
    case round =>
      obtain ⟨k, hk, rfl, HR⟩ := hrel
      by_cases hlt : k < s.size
      · have HT := Lib.hid (all_take_succ s wordB k hlt)
        by_cases hl : alphaB s[k] = true
        · go_wp2_with (first
            | (go_at_call 89; refine (isLetter_any _ _).mono ?_; rintro e w' ⟨rfl, rfl⟩)
            | (go_at_call 88; refine (isDigit_any _ _).mono ?_; rintro e w' ⟨rfl, rfl⟩))
          go_round
          case rel => exact ⟨k + 1, by omega, by go_num, Lib.hid (by rw [HT.out, HR.out]; simp [wordB_eq, hl])⟩
          case measure => first | (simp [intOf]; omega) | simp [intOf]
        · have hl' : alphaB s[k] = false := by simpa using hl
          by_cases hd : digitB s[k] = true
          · go_wp2_with (first
              | (go_at_call 89; refine (isLetter_any _ _).mono ?_; rintro e w' ⟨rfl, rfl⟩)
              | (go_at_call 88; refine (isDigit_any _ _).mono ?_; rintro e w' ⟨rfl, rfl⟩))
            go_round
            case rel => exact ⟨k + 1, by omega, by go_num, Lib.hid (by rw [HT.out, HR.out]; simp [wordB_eq, hd])⟩
            case measure => first | (simp [intOf]; omega) | simp [intOf]
          · have hd' : digitB s[k] = false := by simpa using hd
            by_cases hu : s[k] = 95
            · have hu1 : ((s[k].toNat : Int) != 95) = false := by simp [hu]
              have HU := Lib.hid hu
              clear hu
              go_wp2_with (first
                | (go_at_call 89; refine (isLetter_any _ _).mono ?_; rintro e w' ⟨rfl, rfl⟩)
                | (go_at_call 88; refine (isDigit_any _ _).mono ?_; rintro e w' ⟨rfl, rfl⟩))
              go_round
              case rel => exact ⟨k + 1, by omega, by go_num, Lib.hid (by rw [HT.out, HR.out]; simp [wordB_eq, HU.out])⟩
              case measure => first | (simp [intOf]; omega) | simp [intOf]
            · have hu1 : ((s[k].toNat : Int) != 95) = true := by
                rw [bne_iff_ne]
                exact fun h => hu (by rw [u8eq]; exact h)
              have HF := Lib.hid (all_false_of s wordB k hlt (by simp [wordB_eq, hl', hd', hu]))
              clear hu
              go_wp2_with (first
                | (go_at_call 89; refine (isLetter_any _ _).mono ?_; rintro e w' ⟨rfl, rfl⟩)
                | (go_at_call 88; refine (isDigit_any _ _).mono ?_; rintro e w' ⟨rfl, rfl⟩))
              go_ret
              exact ⟨ret_err (by rw [nameF_no (by rw [H.out, HF.out])]; rfl), rfl⟩
      · obtain rfl : k = s.size := by omega
        go_wp2
        go_ret
        exact ⟨ret_err (by rw [nameF_yes (by rw [H.out]; have := HR.out; rwa [List.take_of_length_le (by simp)] at this)]; rfl), rfl⟩
end Go.Proofs.YtkolpbjpgobkcaaGreatDoor
namespace Go.Proofs.YtkolpbjpgobkcaaGreatDoor
open Go.RowKit
set_option linter.unusedVariables false

theorem refDigit_any (c : UInt8) (w : World) : Calls Tryz.prog 47 #[.int .u8 (c.toNat : Int)] w fun e w' => e = .returned (.bool (digitB c)) ∧ w = w' := by
  go_enter Tryz.func47, Tryz.ntmps47
  go_wp2
  all_goals
    go_ret
    exact ⟨ret_bool (by rw [Bool.eq_iff_iff]; simp [digitB, u8le]; omega), rfl⟩
theorem refLetter_any (c : UInt8) (w : World) : Calls Tryz.prog 48 #[.int .u8 (c.toNat : Int)] w fun e w' => e = .returned (.bool (letterB c)) ∧ w = w' := by
  go_enter Tryz.func48, Tryz.ntmps48
  go_wp2
  all_goals
    go_ret
    exact ⟨ret_bool (by rw [Bool.eq_iff_iff]; simp [letterB, u8le, u8eq]; omega), rfl⟩
set_option maxHeartbeats 600000 in
theorem isName_any (s : ByteArray) (w : World) (hs : s.size ≤ maxLen) :
    Calls Tryz.prog 38 #[.string s] w fun e w' => e = .returned (.bool (nameB s.data.toList)) ∧ w = w' := by
  unfold maxLen at hs
  by_cases h0 : s.size = 0
  · have H := Lib.hid (nameB_not (.inl h0))
    go_enter Tryz.func38, Tryz.ntmps38
    go_wp2
    go_ret
    exact ⟨ret_bool H.out.symm, rfl⟩
  have h0' : 0 < s.size := by omega
  have hz : ((s.size : Int) == 0) = false := by rw [beq_eq_false_iff_ne]; omega
  clear h0
  by_cases h1 : 20 < s.size
  · have H := Lib.hid (nameB_not (.inr (.inl h1)))
    go_enter Tryz.func38, Tryz.ntmps38
    go_wp2
    go_ret
    exact ⟨ret_bool H.out.symm, rfl⟩
  have h1' : s.size ≤ 20 := by omega
  have hg : ¬ 20 < (s.size : Int) := by omega
  clear h1
  by_cases h2 : digitB s[0] = true
  · have H := Lib.hid (nameB_not (.inr (.inr ⟨h0', h2⟩)))
    go_enter Tryz.func38, Tryz.ntmps38
    go_wp2_with (go_at_call 47; refine (refDigit_any _ _).mono ?_; rintro e w' ⟨rfl, rfl⟩)
    go_ret
    exact ⟨ret_bool H.out.symm, rfl⟩
  · have h2' : digitB s[0] = false := by simpa using h2
    have H := Lib.hid (nameB_of h0' (by omega) h2')
    go_enter Tryz.func38, Tryz.ntmps38
    go_wp2_with (go_at_call 47; refine (refDigit_any _ _).mono ?_; rintro e w' ⟨rfl, rfl⟩)
    clear h2 h2'
    go_loop [3] (fun i => ∃ k : Nat, k ≤ s.size ∧ i = .int .i64 k ∧ Hid ((s.data.toList.take k).all wordB = true)) (fun i => s.size - (intOf i).toNat)
    case atStart => exact ⟨0, Nat.zero_le _, rfl, Lib.hid (by simp)⟩
    case round =>
      obtain ⟨k, hk, rfl, HR⟩ := hrel
      by_cases hlt : k < s.size
      · have HT := Lib.hid (all_take_succ s wordB k hlt)
        by_cases hl : letterB s[k] = true
        · go_wp2_with (first
            | (go_at_call 48; refine (refLetter_any _ _).mono ?_; rintro e w' ⟨rfl, rfl⟩)
            | (go_at_call 47; refine (refDigit_any _ _).mono ?_; rintro e w' ⟨rfl, rfl⟩))
          go_round
          case rel => exact ⟨k + 1, by omega, by go_num, Lib.hid (by rw [HT.out, HR.out]; simp [wordB, hl])⟩
          case measure => first | (simp [intOf]; omega) | simp [intOf]
        · have hl' : letterB s[k] = false := by simpa using hl
          by_cases hd : digitB s[k] = true
          · go_wp2_with (first
              | (go_at_call 48; refine (refLetter_any _ _).mono ?_; rintro e w' ⟨rfl, rfl⟩)
              | (go_at_call 47; refine (refDigit_any _ _).mono ?_; rintro e w' ⟨rfl, rfl⟩))
            go_round
            case rel => exact ⟨k + 1, by omega, by go_num, Lib.hid (by rw [HT.out, HR.out]; simp [wordB, hd])⟩
            case measure => first | (simp [intOf]; omega) | simp [intOf]
          · have hd' : digitB s[k] = false := by simpa using hd
            have HF := Lib.hid (all_false_of s wordB k hlt (by simp [wordB, hl', hd']))
            go_wp2_with (first
              | (go_at_call 48; refine (refLetter_any _ _).mono ?_; rintro e w' ⟨rfl, rfl⟩)
              | (go_at_call 47; refine (refDigit_any _ _).mono ?_; rintro e w' ⟨rfl, rfl⟩))
            go_ret
            exact ⟨ret_bool (by rw [H.out, HF.out]), rfl⟩
      · obtain rfl : k = s.size := by omega
        go_wp2
        go_ret
        exact ⟨ret_bool (by rw [H.out]; have := HR.out; rw [List.take_of_length_le (by simp)] at this; rw [this]), rfl⟩
end Go.Proofs.YtkolpbjpgobkcaaGreatDoor
namespace Go.Proofs.YtkolpbjpgobkcaaGreatDoor
set_option linter.unusedVariables false

/-- How many bytes stand ahead of the first semicolon. -/
def semi (l : List UInt8) : Nat := (l.takeWhile (· != 59)).length
/-- The length of the type without brackets that l begins with; 0: none. -/
def itemLen : List UInt8 → Nat
  | [] => 0
  | c :: r => if c = 73 ∨ c = 74 then 1 else if c = 76 ∧ semi r < r.length ∧ nameB (r.take (semi r)) = true then semi r + 2 else 0
def brk (l : List UInt8) : Nat := (l.takeWhile (· == 91)).length
def typeLen (l : List UInt8) : Nat := if brk l ≤ 3 ∧ itemLen (l.drop (brk l)) ≠ 0 then brk l + itemLen (l.drop (brk l)) else 0
def isTypeB (l : List UInt8) : Bool := decide (typeLen l ≠ 0 ∧ typeLen l = l.length)

theorem tw_len_le {α : Type} (p : α → Bool) (l : List α) : (l.takeWhile p).length ≤ l.length := (List.takeWhile_sublist p).length_le
theorem brk_le (l : List UInt8) : brk l ≤ l.length := tw_len_le _ _
theorem semi_le (l : List UInt8) : semi l ≤ l.length := tw_len_le _ _
theorem tw_lt {α : Type} (p : α → Bool) : ∀ (l : List α) (k : Nat) (h : k < (l.takeWhile p).length), ∃ h' : k < l.length, p l[k] = true
  | [], k, h => by simp at h
  | a :: r, k, h => by
    by_cases ha : p a = true
    · rw [List.takeWhile_cons_of_pos ha, List.length_cons] at h
      cases k with
      | zero => exact ⟨by simp, ha⟩
      | succ k =>
        obtain ⟨h1, h2⟩ := tw_lt p r k (by omega)
        exact ⟨by simp; omega, by simpa using h2⟩
    · rw [List.takeWhile_cons_of_neg (by simpa using ha)] at h
      simp at h
theorem tw_at {α : Type} (p : α → Bool) : ∀ (l : List α) (h : (l.takeWhile p).length < l.length), p l[(l.takeWhile p).length] = false
  | [], h => by simp at h
  | a :: r, h => by
    by_cases ha : p a = true
    · have e := List.takeWhile_cons_of_pos (l := r) ha
      have h' : (r.takeWhile p).length < r.length := by rw [e] at h; simpa using h
      have := tw_at p r h'
      simp only [e, List.length_cons, List.getElem_cons_succ]
      exact this
    · have ha' : ¬ p a = true := ha
      have e := List.takeWhile_cons_of_neg (l := r) ha'
      simp only [e, List.length_nil, List.getElem_cons_zero]
      simpa using ha
/-- The bytes ahead are told: then the count is known. -/
theorem tw_eq {α : Type} (p : α → Bool) : ∀ (l : List α) (k : Nat) (hk : k ≤ l.length), (∀ j (h : j < k), p (l[j]'(by omega)) = true) → (∀ h : k < l.length, p l[k] = false) → (l.takeWhile p).length = k
  | [], k, hk, _, _ => by simp at hk; simp [hk]
  | a :: r, 0, _, _, h1 => by
    have : p a = false := h1 (Nat.zero_lt_succ _)
    rw [List.takeWhile_cons_of_neg (by simp [this])]
    rfl
  | a :: r, k + 1, hk, h0, h1 => by
    have ha : p a = true := by simpa using h0 0 (by omega)
    rw [List.takeWhile_cons_of_pos ha, List.length_cons, tw_eq p r k (by simpa using hk) (fun j hj => by simpa using h0 (j + 1) (by omega)) (fun h => h1 (Nat.succ_lt_succ h))]
theorem tw_append {α : Type} (p : α → Bool) (l u : List α) (h : (l.takeWhile p).length < l.length) : ((l ++ u).takeWhile p).length = (l.takeWhile p).length := by
  refine tw_eq p _ _ (by simp; omega) (fun j hj => ?_) (fun h' => ?_)
  · obtain ⟨a, b⟩ := tw_lt p l j hj
    rw [List.getElem_append_left a]; exact b
  · rw [List.getElem_append_left h]; exact tw_at p l h
theorem tw_take {α : Type} (p : α → Bool) (l : List α) (n : Nat) (h : (l.takeWhile p).length < l.length) (hn : (l.takeWhile p).length < n) : ((l.take n).takeWhile p).length = (l.takeWhile p).length := by
  refine tw_eq p _ _ (by simp; omega) (fun j hj => ?_) (fun h' => ?_)
  · obtain ⟨a, b⟩ := tw_lt p l j hj
    rw [List.getElem_take]; exact b
  · rw [List.getElem_take]; exact tw_at p l h

theorem itemLen_le : ∀ l : List UInt8, itemLen l ≤ l.length
  | [] => by simp [itemLen]
  | c :: r => by
    simp only [itemLen, List.length_cons]
    by_cases h1 : c = 73 ∨ c = 74
    · simp [h1]
    · by_cases h2 : c = 76 ∧ semi r < r.length ∧ nameB (r.take (semi r)) = true
      · rw [if_neg h1, if_pos h2]; omega
      · rw [if_neg h1, if_neg h2]; omega
theorem itemLen_append : ∀ (l u : List UInt8), itemLen l ≠ 0 → itemLen (l ++ u) = itemLen l
  | [], u, h => by simp [itemLen] at h
  | c :: r, u, h => by
    simp only [itemLen, List.cons_append] at h ⊢
    by_cases h1 : c = 73 ∨ c = 74
    · simp only [h1, if_true]
    · simp only [h1, if_false] at h ⊢
      by_cases h2 : c = 76 ∧ semi r < r.length ∧ nameB (r.take (semi r)) = true
      · have e : semi (r ++ u) = semi r := tw_append _ r u h2.2.1
        have e2 : (r ++ u).take (semi r) = r.take (semi r) := List.take_append_of_le_length (by omega)
        have h3 : semi r < (r ++ u).length := by simp; omega
        rw [e, e2, if_pos h2, if_pos ⟨h2.1, h3, h2.2.2⟩]
      · simp [h2] at h
theorem itemLen_take : ∀ (l : List UInt8), itemLen l ≠ 0 → itemLen (l.take (itemLen l)) = itemLen l
  | [], h => by simp [itemLen] at h
  | c :: r, h => by
    by_cases h1 : c = 73 ∨ c = 74
    · have e : itemLen (c :: r) = 1 := by simp only [itemLen, h1, if_true]
      rw [e]; simp only [List.take_succ_cons, itemLen, h1, if_true]
    · by_cases h2 : c = 76 ∧ semi r < r.length ∧ nameB (r.take (semi r)) = true
      · have e : itemLen (c :: r) = semi r + 2 := by simp only [itemLen, h1, if_false, if_pos h2]
        have e1 : semi (r.take (semi r + 1)) = semi r := tw_take _ r _ h2.2.1 (by show semi r < _; omega)
        have e2 : (r.take (semi r + 1)).take (semi r) = r.take (semi r) := by rw [List.take_take]; congr 1; omega
        have e3 : semi r < (r.take (semi r + 1)).length := by simp; omega
        rw [e, List.take_succ_cons]
        simp only [itemLen, h1, if_false, e1, e2]
        rw [if_pos ⟨h2.1, e3, h2.2.2⟩]
      · simp only [itemLen, h1, if_false, if_neg h2] at h
        exact absurd rfl h

theorem typeLen_le (l : List UInt8) : typeLen l ≤ l.length := by
  unfold typeLen
  have := itemLen_le (l.drop (brk l))
  have := brk_le l
  split
  · simp at *; omega
  · omega
theorem typeLen_eq (l : List UInt8) : typeLen l = if brk l ≤ 3 ∧ itemLen (l.drop (brk l)) ≠ 0 then brk l + itemLen (l.drop (brk l)) else 0 := rfl
theorem typeLen_nil : typeLen [] = 0 := by decide
theorem typeLen_pos {l : List UInt8} (h : typeLen l ≠ 0) : brk l ≤ 3 ∧ itemLen (l.drop (brk l)) ≠ 0 ∧ typeLen l = brk l + itemLen (l.drop (brk l)) ∧ brk l < l.length := by
  unfold typeLen at h ⊢
  split at h
  · rename_i h'
    refine ⟨h'.1, h'.2, by rw [if_pos h'], ?_⟩
    have := itemLen_le (l.drop (brk l))
    have h2 := h'.2
    simp at this
    omega
  · exact absurd rfl h
theorem typeLen_append (l u : List UInt8) (h : typeLen l ≠ 0) : typeLen (l ++ u) = typeLen l := by
  obtain ⟨h1, h2, h3, h4⟩ := typeLen_pos h
  have e : brk (l ++ u) = brk l := tw_append _ l u h4
  have e2 : (l ++ u).drop (brk l) = l.drop (brk l) ++ u := List.drop_append_of_le_length (by omega)
  rw [h3]
  unfold typeLen
  rw [e, e2, itemLen_append _ _ h2, if_pos ⟨h1, h2⟩]
theorem typeLen_take (l : List UInt8) (h : typeLen l ≠ 0) : typeLen (l.take (typeLen l)) = typeLen l := by
  obtain ⟨h1, h2, h3, h4⟩ := typeLen_pos h
  have e : brk (l.take (typeLen l)) = brk l := tw_take _ l _ h4 (by rw [h3]; show brk l < _; omega)
  have e2 : (l.take (typeLen l)).drop (brk l) = (l.drop (brk l)).take (itemLen (l.drop (brk l))) := by rw [h3, List.drop_take]; congr 1; omega
  have e3 := itemLen_take _ h2
  rw [typeLen_eq (l.take (typeLen l)), e, e2, e3, if_pos ⟨h1, h2⟩]
  exact h3.symm
theorem isTypeB_take (l : List UInt8) (h : typeLen l ≠ 0) : isTypeB (l.take (typeLen l)) = true := by
  unfold isTypeB
  rw [typeLen_take l h]
  have := typeLen_le l
  exact decide_eq_true ⟨h, by simp; omega⟩
theorem isTypeB_len {l : List UInt8} (h : isTypeB l = true) : typeLen l ≠ 0 ∧ typeLen l = l.length := of_decide_eq_true h

/-! A list cut into types as long as one begins. -/
def cuts (l : List UInt8) : List (List UInt8) × List UInt8 :=
  if h : typeLen l = 0 then ([], l) else ((l.take (typeLen l)) :: (cuts (l.drop (typeLen l))).1, (cuts (l.drop (typeLen l))).2)
termination_by l.length
decreasing_by all_goals (have := typeLen_le l; simp; omega)
theorem cuts_end {l : List UInt8} (h : typeLen l = 0) : cuts l = ([], l) := by rw [cuts, dif_pos h]
theorem cuts_step {l : List UInt8} (h : typeLen l ≠ 0) : cuts l = ((l.take (typeLen l)) :: (cuts (l.drop (typeLen l))).1, (cuts (l.drop (typeLen l))).2) := by rw [cuts, dif_neg h]
theorem cuts_told : ∀ (n : Nat) (l : List UInt8), l.length ≤ n → (cuts l).1.flatten ++ (cuts l).2 = l ∧ typeLen (cuts l).2 = 0 ∧ ∀ t ∈ (cuts l).1, isTypeB t = true
  | 0, l, h => by
    obtain rfl : l = [] := List.eq_nil_of_length_eq_zero (by omega)
    rw [cuts_end typeLen_nil]; exact ⟨rfl, typeLen_nil, fun t ht => by cases ht⟩
  | n + 1, l, h => by
    by_cases h0 : typeLen l = 0
    · rw [cuts_end h0]; exact ⟨rfl, h0, fun t ht => by cases ht⟩
    · have hl := typeLen_le l
      obtain ⟨a, b, c⟩ := cuts_told n (l.drop (typeLen l)) (by simp; omega)
      rw [cuts_step h0]
      refine ⟨?_, b, fun t ht => ?_⟩
      · simp only [List.flatten_cons, List.append_assoc, a, List.take_append_drop]
      · rcases List.mem_cons.mp ht with rfl | ht
        · exact isTypeB_take l h0
        · exact c t ht
theorem cuts_join : ∀ (a : List (List UInt8)) (r : List UInt8), (∀ t ∈ a, isTypeB t = true) → typeLen r = 0 → cuts (a.flatten ++ r) = (a, r)
  | [], r, _, hr => cuts_end hr
  | t :: a, r, ha, hr => by
    obtain ⟨h1, h2⟩ := isTypeB_len (ha t (List.mem_cons_self ..))
    have e : typeLen (t ++ (a.flatten ++ r)) = t.length := by rw [typeLen_append _ _ h1, h2]
    have ih := cuts_join a r (fun x hx => ha x (List.mem_cons_of_mem _ hx)) hr
    rw [List.flatten_cons, List.append_assoc, cuts_step (by rw [e]; omega), e]
    simp [ih]

/-! Method types. -/
def resultB (g : List UInt8) : Bool := g == [86] || isTypeB g
def makeText (a : List (List UInt8)) (g : List UInt8) : List UInt8 := 40 :: (a.flatten ++ 41 :: g)
def methodB : List UInt8 → Option (List (List UInt8) × List UInt8)
  | [] => none
  | c :: t => if c = 40 then match (cuts t).2 with
      | [] => none
      | d :: g => if d = 41 ∧ (cuts t).1.length ≤ 5 ∧ resultB g = true then some ((cuts t).1, g) else none
    else none
theorem typeLen_shut (g : List UInt8) : typeLen (41 :: g) = 0 := by simp [typeLen, brk, itemLen]
theorem methodB_make {a : List (List UInt8)} {g : List UInt8} (ha : ∀ t ∈ a, isTypeB t = true) (h5 : a.length ≤ 5) (hg : resultB g = true) : methodB (makeText a g) = some (a, g) := by
  simp only [makeText, methodB, cuts_join a (41 :: g) ha (typeLen_shut g)]
  simp [h5, hg]
theorem methodB_some {l : List UInt8} {a : List (List UInt8)} {g : List UInt8} (h : methodB l = some (a, g)) : l = makeText a g ∧ (∀ t ∈ a, isTypeB t = true) ∧ a.length ≤ 5 ∧ resultB g = true := by
  cases l with
  | nil => cases h
  | cons c t =>
    obtain ⟨h1, h2, h3⟩ := cuts_told t.length t (Nat.le_refl _)
    simp only [methodB] at h
    by_cases hc : c = 40
    · rw [if_pos hc] at h
      generalize hq : cuts t = q at *
      obtain ⟨x, y⟩ := q
      cases y with
      | nil => cases h
      | cons d g' =>
        simp only at h
        by_cases hd : d = 41 ∧ x.length ≤ 5 ∧ resultB g' = true
        · rw [if_pos hd] at h
          obtain ⟨rfl, rfl⟩ := Prod.mk.inj (Option.some.inj h)
          exact ⟨by rw [makeText, ← h1, hc, hd.1], h3, hd.2.1, hd.2.2⟩
        · rw [if_neg hd] at h; cases h
    · rw [if_neg hc] at h; cases h

/-! Types of one letter; arrays; classes. -/
theorem isTypeB_word {c : UInt8} {r : List UInt8} (h : isTypeB (c :: r) = true) (hc : c = 73 ∨ c = 74) : r = [] := by
  obtain ⟨h1, h2⟩ := isTypeB_len h
  have hb : brk (c :: r) = 0 := by rcases hc with rfl | rfl <;> simp [brk]
  have h3 := (typeLen_pos h1).2.2.1
  have h4 : itemLen (c :: r) = 1 := by simp only [itemLen, hc, if_true]
  rw [hb, List.drop_zero, h4, h2, List.length_cons] at h3
  exact List.eq_nil_of_length_eq_zero (by omega)
theorem brk_cons (l : List UInt8) : brk (91 :: l) = brk l + 1 := by simp [brk]
theorem isTypeB_array (l : List UInt8) : isTypeB (91 :: l) = (isTypeB l && decide (brk l < 3)) := by
  have e : typeLen (91 :: l) = if brk l < 3 ∧ itemLen (l.drop (brk l)) ≠ 0 then brk l + 1 + itemLen (l.drop (brk l)) else 0 := by
    unfold typeLen
    rw [brk_cons, List.drop_succ_cons]
    congr 1
  rw [Bool.eq_iff_iff]
  simp only [isTypeB, Bool.and_eq_true, decide_eq_true_eq, e, List.length_cons]
  unfold typeLen
  by_cases h3 : brk l < 3
  · have h3' : brk l ≤ 3 := by omega
    by_cases h4 : itemLen (l.drop (brk l)) = 0
    · simp [h4]
    · simp only [h3, h3', h4, ne_eq, not_false_eq_true, and_self, if_true, and_true]
      omega
  · simp [h3]
theorem word_semi : wordB 59 = false := by decide
theorem nameB_semi {l : List UInt8} (h : nameB l = true) : ∀ c ∈ l, c ≠ 59 := by
  intro c hc he
  subst he
  cases l with
  | nil => cases h
  | cons d r =>
    simp only [nameB, Bool.and_eq_true] at h
    have := List.all_eq_true.mp h.2 _ hc
    rw [word_semi] at this
    cases this
theorem semi_all {l u : List UInt8} (h : ∀ c ∈ l, c ≠ 59) : semi (l ++ 59 :: u) = l.length :=
  tw_eq _ _ _ (by simp) (fun j hj => by rw [List.getElem_append_left hj]; simpa using h _ (List.getElem_mem hj)) (fun _ => by rw [List.getElem_append_right (Nat.le_refl _)]; simp)
theorem isTypeB_class (l : List UInt8) : isTypeB (76 :: (l ++ [59])) = nameB l := by
  have hb : brk (76 :: (l ++ [59])) = 0 := by simp [brk]
  have e : typeLen (76 :: (l ++ [59])) = itemLen (76 :: (l ++ [59])) := by
    unfold typeLen
    rw [hb, List.drop_zero]
    by_cases h : itemLen (76 :: (l ++ [59])) = 0 <;> simp [h]
  have hi : itemLen (76 :: (l ++ [59])) = if semi (l ++ [59]) < (l ++ [59]).length ∧ nameB ((l ++ [59]).take (semi (l ++ [59]))) = true then semi (l ++ [59]) + 2 else 0 := by
    simp [itemLen]
  rw [Bool.eq_iff_iff]
  simp only [isTypeB, decide_eq_true_eq, e, hi, List.length_cons]
  constructor
  · intro h
    by_cases h' : semi (l ++ [59]) < (l ++ [59]).length ∧ nameB ((l ++ [59]).take (semi (l ++ [59]))) = true
    · rw [if_pos h'] at h
      have hs : semi (l ++ [59]) = l.length := by have := h.2; simp at this; omega
      have := h'.2
      rw [hs, List.take_left] at this
      exact this
    · rw [if_neg h'] at h; exact absurd rfl h.1
  · intro h
    have hs : semi (l ++ [59]) = l.length := semi_all (nameB_semi h)
    rw [hs, List.take_left, if_pos ⟨by simp, h⟩]
    simp
end Go.Proofs.YtkolpbjpgobkcaaGreatDoor
namespace Go.Proofs.YtkolpbjpgobkcaaGreatDoor
open Go.ChangeShapes Go.WideShapes Go.ChangeAt Go.RowKit
set_option linter.unusedVariables false

theorem own : ownKnob Tryz.prog.godebug = none := by kernel_rfl
theorem laidOut : laidOutB Tryz.prog = true := by kernel_rfl

theorem byte_of_wf {a : Int} (h : (Lit.int .u8 a).wf = true) : ∃ c : UInt8, a = (c.toNat : Int) := by
  have hx : 0 ≤ a ∧ a ≤ 255 := by simpa [Lit.wf, IntKind.min, IntKind.max, IntKind.signed, IntKind.bits] using h
  refine ⟨UInt8.ofNat a.toNat, ?_⟩
  have h1 : (UInt8.ofNat a.toNat).toNat = a.toNat := by simp; omega
  omega

section
variable {H : Type} {enc : TypeId × Value → H} {P : Program}

/-- All arguments read behind the call as they read before it. -/
theorem args_again (hl : laidOutB P = true) {W W' : World} (hb : Below W.heap.size W W') :
    ∀ (ts : List TypeId) (vs : List Value) (ds : List (DataW H)) (ps : List MemPlace), ts.all (fun t => P.readableRec t && decide (t < P.types.size)) = true →
      DataW.TrodAll enc P W 0 (fun _ => true) true ts vs ds ps → (∀ x ∈ ps, x.block < W.heap.size) →
      DataW.TrodAll enc P W' 0 (fun b => decide (b < W.heap.size)) true ts vs ds ps
  | [], vs, ds, ps, _, h, _ => by
    obtain ⟨rfl, rfl, rfl⟩ := trodAll_nil h
    exact trodAll_mk0
  | t :: ts, vs, ds, ps, ht, h, hlt => by
    simp only [List.all_cons, Bool.and_eq_true, decide_eq_true_eq] at ht
    obtain ⟨v, vs', d, ds', p, q, rfl, rfl, rfl, h1, h2⟩ := trodAll_cons h
    exact ⟨p, q, Below.trod hl ht.1.1 ht.1.2 h1 hb (fun x hx => hlt x (List.mem_append_left _ hx)), args_again hl hb ts vs' ds' q ht.2 h2 (fun x hx => hlt x (List.mem_append_right _ hx)), rfl⟩

/-- A law's condition, from the walk's two words. -/
theorem law_post {f : Func} {s : ChangeSpec} {apart : Bool} {W W' : World} {args : Array Value} {ds gs : List (DataW H)} {before : List MemPlace} {tb : TypeId}
    (hl : laidOutB P = true) (hp : f.params.toList.all (fun t => P.readableRec t && decide (t < P.types.size)) = true) (hr : f.resultTypes.toList = [tb]) (hs : f.resultTypes.size = 1) (htb : P.underlying tb = some .bool)
    (hv : s.vars = []) (hspec : (s.fn H (ds ++ gs)).results = [.lit (.bool true)]) (hsa : (s.fn H (ds ++ gs)).args = ds) (hsv : (s.fn H (ds ++ gs)).vars = [])
    (hW : DataW.Whole enc P f.params.toList s.vars apart W args.toList ds gs before) (hb : Below W.heap.size W W') :
    s.post enc P f apart true false false W args (.bool true) W' := by
  have hW0 := hW
  have hlt : ∀ p ∈ before, p.block < W.heap.size := fun p hp => hW0.lt p hp
  obtain ⟨p, q, hA, hV, hpq, hz, hn⟩ := hW
  rw [hv] at hV
  obtain ⟨rfl, rfl⟩ := trodVars_none hV
  obtain rfl : before = p := by simpa using hpq
  refine ⟨ds, [], before, [], before, [], hW0, ?_, ?_, ?_, World.keptBut_mono (fun x hx => ⟨hx, Or.inr (Or.inl hx)⟩) (hb.frame (· ∈ before)), fun h => by cases h⟩
  · rw [hspec, hr, hs]
    exact trodAll_mk1 (shut_bool htb true)
  · rw [hsa]
    exact args_again hl hb _ _ _ _ hp hA hlt
  · rw [hv, hsv]
    rfl
end
end Go.Proofs.YtkolpbjpgobkcaaGreatDoor
namespace Go.Proofs.YtkolpbjpgobkcaaGreatDoor
open Go.ChangeShapes Go.WideShapes Go.ChangeAt Go.RowKit
open Go.ChangeMaps (open_string shut_string)
set_option linter.unusedVariables false

attribute [local go_sem] eqGuard_errV_nil eqGuard_errV_iface eql_errV_nil neq_errV_nil eql_errV_form

theorem check_yes (s : ByteArray) (w : World) (h : nameB s.data.toList = true) (hs : s.size ≤ maxLen) : Calls Tryz.prog 70 #[.string s] w fun e w' => e = .returned (errV 0) ∧ w = w' :=
  (check_any s w hs).mono fun _ _ ⟨he, hw⟩ => ⟨by rw [he, nameF_yes h], hw⟩
theorem check_no (s : ByteArray) (w : World) (h : nameB s.data.toList = false) (hs : s.size ≤ maxLen) : Calls Tryz.prog 70 #[.string s] w fun e w' => e = .returned (errV 1) ∧ w = w' :=
  (check_any s w hs).mono fun _ _ ⟨he, hw⟩ => ⟨by rw [he, nameF_no h], hw⟩
end Go.Proofs.YtkolpbjpgobkcaaGreatDoor
namespace Go.Proofs.YtkolpbjpgobkcaaGreatDoor
open Go.RowKit
set_option linter.unusedVariables false

/-- The slice value with address A, n elements and capacity c reads as the list cs. -/
def Row (w : World) (A : Option Addr) (n c : Nat) (cs : List Value) : Prop :=
  cs.length = n ∧ n ≤ c ∧ (0 < n → ∃ b o, A = some ⟨b, o, none⟩ ∧ b < w.heap.size ∧ ∀ j u, cs[j]? = some u → w.cell? ⟨b, o + j, none⟩ = some u)

section
variable {w w' : World} {A : Option Addr} {n c : Nat} {cs : List Value}
theorem Row.nil_ (w : World) (A : Option Addr) (c : Nat) : Row w A 0 c [] := ⟨rfl, Nat.zero_le _, fun h => absurd h (by omega)⟩
theorem Row.kept (h : Row w A n c cs) (hs : w.heap.size ≤ w'.heap.size) (hk : ∀ p : Addr, p.block < w.heap.size → w'.cell? p = w.cell? p) : Row w' A n c cs :=
  ⟨h.1, h.2.1, fun hn => by
    obtain ⟨b, o, e, hb, hc⟩ := h.2.2 hn
    exact ⟨b, o, e, by omega, fun j u hu => (hk _ hb).trans (hc j u hu)⟩⟩
theorem Row.below (h : Row w A n c cs) (hb : Below w.heap.size w w') : Row w' A n c cs := h.kept hb.size fun _ hp => hb.cell hp
theorem Row.alloc (h : Row w A n c cs) (o : Obj) : Row (w.alloc o) A n c cs := h.kept (by simp) fun p hp => World.cell?_alloc_lt w o p hp
theorem Row.drewN (h : Row w A n c cs) (k : Nat) : Row (w.drewN k) A n c cs := h
theorem Row.drew (h : Row w A n c cs) : Row w.drew A n c cs := h
theorem Row.at_ {k : Nat} (h : Row w A n c cs) (hk : k < n) : ∃ b o u, A = some ⟨b, o, none⟩ ∧ b < w.heap.size ∧ cs[k]? = some u ∧ w.cell? ⟨b, o + k, none⟩ = some u := by
  obtain ⟨b, o, e, hb, hc⟩ := h.2.2 (by omega)
  have hl : k < cs.length := by rw [h.1]; exact hk
  exact ⟨b, o, cs[k], e, hb, List.getElem?_eq_getElem hl, hc k _ (List.getElem?_eq_getElem hl)⟩
theorem Row.own {base : Nat} {e : TypeId} (h : w.ownsRow base e 1 (.slice A n c) n cs) : Row w A n c cs := by
  have h1 : cs.length = n := by simpa using h.1
  rcases h.2 with ⟨hv, h0⟩ | ⟨g, cap, cur, hv, _, hg, hnc, _⟩
  · obtain ⟨rfl, rfl, rfl⟩ : A = none ∧ n = 0 ∧ c = 0 := by simpa using hv
    exact ⟨h1, Nat.le_refl _, fun h => absurd h (by omega)⟩
  · obtain ⟨rfl, rfl⟩ : A = some ⟨g, 0, none⟩ ∧ c = cap := by simpa using hv
    refine ⟨h1, hnc, fun _ => ⟨g, 0, rfl, ?_, fun j u hu => ?_⟩⟩
    · rcases Nat.lt_or_ge g w.heap.size with hlt | hge
      · exact hlt
      · rw [Array.getElem?_eq_none hge] at hg; cases hg
    · have := h.cells (g := g) rfl j u hu
      rw [show (⟨g, 0, none⟩ : Addr).add j = ⟨g, 0 + j, none⟩ by unfold Addr.add; split <;> simp_all] at this
      exact this
end

theorem own_below {w w' : World} {base : Nat} {e : TypeId} {size : Nat} {v : Value} {n : Nat} {xs : List Value} (h : w.ownsRow base e size v n xs) (hb : Below w.heap.size w w') : w'.ownsRow base e size v n xs := by
  refine ⟨h.1, ?_⟩
  rcases h.2 with hn | ⟨g, cap, cur, hv, hg, hh, rest⟩
  · exact .inl hn
  · have hlt : g < w.heap.size := by
      rcases Nat.lt_or_ge g w.heap.size with hlt | hge
      · exact hlt
      · rw [Array.getElem?_eq_none hge] at hh; cases hh
    exact .inr ⟨g, cap, cur, hv, hg, (hb.block g hlt).trans hh, rest⟩
theorem own_form {w : World} {base : Nat} {e : TypeId} {size : Nat} {v : Value} {n : Nat} {xs : List Value} (h : w.ownsRow base e size v n xs) : ∃ A c, v = .slice A n c := by
  rcases h.2 with ⟨rfl, rfl⟩ | ⟨g, cap, cur, rfl, _⟩
  · exact ⟨_, _, rfl⟩
  · exact ⟨_, _, rfl⟩

/-! A list of bytes as a string; strings as cells. -/
def bs (l : List UInt8) : ByteArray := ⟨l.toArray⟩
theorem bs_list (l : List UInt8) : (bs l).data.toList = l := rfl
theorem bs_size (l : List UInt8) : (bs l).size = l.length := rfl
theorem bs_of (s : ByteArray) : bs s.data.toList = s := rfl
theorem bs_eq {s : ByteArray} {l : List UInt8} (h : s.data.toList = l) : s = bs l := by rw [← h]; rfl
theorem bs_inj {a b : List UInt8} (h : bs a = bs b) : a = b := by have := congrArg (fun s : ByteArray => s.data.toList) h; exact this
def strV (l : List UInt8) : Value := .string (bs l)
theorem str_one (xs : List (List UInt8)) : ∀ u ∈ xs.map strV, u.oneCell' = true := by
  intro u hu
  obtain ⟨x, _, rfl⟩ := List.mem_map.mp hu
  rfl
end Go.Proofs.YtkolpbjpgobkcaaGreatDoor
namespace Go.Proofs.YtkolpbjpgobkcaaGreatDoor
open Go.ChangeShapes Go.WideShapes Go.ChangeAt Go.RowKit
set_option linter.unusedVariables false

theorem add_spotless (b o i : Nat) : (⟨b, o, none⟩ : Addr).add i = ⟨b, o + i, none⟩ := by unfold Addr.add; split <;> simp_all
theorem block_of_cell {w : World} {p : Addr} {u : Value} (h : w.cell? p = some u) : p.block < w.heap.size := by
  rcases Nat.lt_or_ge p.block w.heap.size with h1 | h1
  · exact h1
  · unfold World.cell? at h
    rw [Array.getElem?_eq_none h1] at h
    cases h

section
variable {H : Type} {enc : TypeId × Value → H} {W : World}
theorem reach_string {ts : List TypeId} {ds : List (DataW H)} (h : (DataW.weightsEach Tryz.prog ts ds).all (· ≤ reachBytes) = true) (j : Nat) {t : TypeId} {s : ByteArray} (ht : ts[j]? = some t) (hd : ds[j]? = some (.lit (.string s.data.toList))) : s.size ≤ 140737488351232 := by
  have := sized_string h ht hd
  simpa [reachBytes] using this

theorem upto_part {l : List (DataW H)} (hk : Rows.uptoSmall H l = true) {d : DataW H} {j : Nat} (hd : l[j]? = some d) : Rows.uptoBulk d ≤ 1048576 := by
  have h1 : Rows.uptoBulkAll l ≤ 1048576 := by simpa [Rows.uptoSmall] using hk
  have h2 : ∀ (l : List (DataW H)), d ∈ l → Rows.uptoBulk d ≤ Rows.uptoBulkAll l := by
    intro l
    induction l with
    | nil => intro h; cases h
    | cons x r ih =>
      intro h
      simp only [Rows.uptoBulkAll]
      rcases List.mem_cons.1 h with rfl | h
      · omega
      · have := ih h; omega
  exact Nat.le_trans (h2 l (List.mem_of_getElem? hd)) h1
theorem upto_string {l : List (DataW H)} (hk : Rows.uptoSmall H l = true) {s : ByteArray} (j : Nat) (hd : l[j]? = some (.lit (.string s.data.toList))) : s.size ≤ 1048576 := by
  have := upto_part hk hd
  simp [Rows.uptoBulk] at this
  omega
end
end Go.Proofs.YtkolpbjpgobkcaaGreatDoor
namespace Go.Proofs.YtkolpbjpgobkcaaGreatDoor
open Go.ChangeShapes Go.WideShapes Go.ChangeAt Go.RowKit
set_option linter.unusedVariables false

/-- The slice value with address A, n elements of k cells each and capacity c reads as the list l; At tells how an element lies. -/
def SRow {α : Type} (At : World → Nat → Nat → α → Prop) (k : Nat) (w : World) (A : Option Addr) (n c : Nat) (l : List α) : Prop :=
  l.length = n ∧ n ≤ c ∧ (0 < n → ∃ b o, A = some ⟨b, o, none⟩ ∧ b < w.heap.size ∧ ∀ j x, l[j]? = some x → At w b (o + j * k) x)
/-- What lies below the heap's end stays there. -/
def Stays {α : Type} (At : World → Nat → Nat → α → Prop) : Prop := ∀ {w w' : World} {b o : Nat} {x : α}, At w b o x → b < w.heap.size → Below w.heap.size w w' → At w' b o x

section
variable {α : Type} {At : World → Nat → Nat → α → Prop} {k : Nat} {w w' : World} {A : Option Addr} {n c : Nat} {l : List α}
theorem SRow.nil_ (w : World) (A : Option Addr) (c : Nat) : SRow At k w A 0 c [] := ⟨rfl, Nat.zero_le _, fun h => absurd h (by omega)⟩
theorem SRow.below (hs : Stays At) (h : SRow At k w A n c l) (hb : Below w.heap.size w w') : SRow At k w' A n c l :=
  ⟨h.1, h.2.1, fun hn => by
    obtain ⟨b, o, e, hlt, hc⟩ := h.2.2 hn
    exact ⟨b, o, e, Nat.lt_of_lt_of_le hlt hb.size, fun j x hx => hs (hc j x hx) hlt hb⟩⟩
theorem SRow.at_ {j : Nat} (h : SRow At k w A n c l) (hj : j < n) : ∃ b o, A = some ⟨b, o, none⟩ ∧ b < w.heap.size ∧ At w b (o + j * k) (l[j]'(by rw [h.1]; exact hj)) := by
  obtain ⟨b, o, e, hb, hc⟩ := h.2.2 (by omega)
  exact ⟨b, o, e, hb, hc j _ (List.getElem?_eq_getElem _)⟩
theorem SRow.map_at {At' : World → Nat → Nat → α → Prop} (h : SRow At k w A n c l) (hi : ∀ b o x, At w b o x → At' w b o x) : SRow At' k w A n c l :=
  ⟨h.1, h.2.1, fun hn => by
    obtain ⟨b, o, e, hb, hc⟩ := h.2.2 hn
    exact ⟨b, o, e, hb, fun j x hx => hi _ _ _ (hc j x hx)⟩⟩
end

section
variable {H : Type} {enc : TypeId × Value → H} {P : Program} {W : World} {α : Type}
/-- What a slice reads as, where its elements read as rel says. -/
def relL (rel : α → DataW H → Prop) (l : List α) (d : DataW H) : Prop :=
  d = .nil ∧ l = [] ∨ ∃ ds sp, d = .slice ds sp ∧ ds.length = l.length ∧ ∀ (j : Nat) x, l[j]? = some x → ∃ d', ds[j]? = some d' ∧ rel x d'
theorem cells_get_ {w : World} {base : Nat} {p : Addr} {n : Nat} {cs : List Value} (h : w.cells? base p n = some cs) : cs.length = n ∧ ∀ k u, cs[k]? = some u → w.cell? (p.add k) = some u := by
  obtain ⟨h1, h2, h3⟩ := World.cells?_some h
  refine ⟨by simpa using h2, ?_⟩
  intro k u hu
  rw [h3 k (by have := (List.getElem?_eq_some_iff.1 hu).1; omega), hu]
theorem open_rows [Inhabited α] {t e : TypeId} {k : Nat} (ht : P.underlying t = some (.slice e)) (hk : P.cellsOf e = k) (hk0 : 0 < k) (At : World → Nat → Nat → α → Prop) (rel : α → DataW H → Prop) (wf : α → Prop)
    {base : Nat} {sp : Nat → Bool} {held : Bool}
    (hel : ∀ (fuel b o : Nat) (cs : List Value) (d : DataW H) (p : List MemPlace), (∀ i u, cs[i]? = some u → W.cell? ⟨b, o + i, none⟩ = some u) → DataW.trod enc P W base sp held fuel e cs = some (d, p) → ∃ x, At W b o x ∧ rel x d ∧ wf x)
    {fuel : Nat} {cs : List Value} {d : DataW H} {p : List MemPlace} (h : DataW.trod enc P W base sp held fuel t cs = some (d, p)) :
    ∃ A n c l, cs = [.slice A n c] ∧ SRow At k W A n c l ∧ (A = none → n = 0 ∧ c = 0) ∧ relL rel l d ∧ (∀ x ∈ l, wf x) ∧ c ≤ maxLen := by
  rcases Deep.open_slice ht h with ⟨rfl, hx⟩ | ⟨a, len, cap, m, q, D, Pl, rfl, _, hl, hm, hmm, hx, hcell⟩
  · exact ⟨none, 0, 0, [], rfl, SRow.nil_ _ _ _, fun _ => ⟨rfl, rfl⟩, .inl ⟨congrArg Prod.fst hx, rfl⟩, fun x hx => (by cases hx), Nat.zero_le _⟩
  have hlm : len ≤ m := by rw [hmm]; split <;> omega
  have hd := congrArg Prod.fst hx
  simp only at hd
  rcases Nat.eq_zero_or_pos len with rfl | hpos
  · exact ⟨some a, 0, cap, [], rfl, ⟨rfl, hl, fun h => absurd h (by omega)⟩, fun h => (by cases h), .inr ⟨_, _, hd, by simp, fun j x hx => by simp at hx⟩, fun x hx => (by cases hx), hm⟩
  rw [hk] at hcell
  obtain ⟨cs0, h1, _⟩ := hcell 0 (by omega)
  obtain ⟨hl0, hg0⟩ := cells_get_ h1
  have hc0 := hg0 0 _ (List.getElem?_eq_getElem (by omega))
  obtain ⟨b, o, spot⟩ := a
  obtain rfl : spot = none := by simpa [Addr.add] using World.cell?_spot hc0
  obtain ⟨X, hX⟩ := Deep.choose_lt (α := α) (p := fun i x => At W b (o + i * k) x ∧ rel x (D i) ∧ wf x) (n := m) (fun i hi => by
    obtain ⟨cs', h1, h2⟩ := hcell i hi
    exact hel _ b (o + i * k) cs' _ _ (fun j u hu => by
      have := (cells_get_ h1).2 j u hu
      rw [add_spotless, add_spotless] at this
      exact this) h2)
  have hget : ∀ {j : Nat} {x : α}, ((List.range len).map X)[j]? = some x → j < len ∧ X j = x := fun {j x} hx => by
    have hj : j < len := by have := (List.getElem?_eq_some_iff.1 hx).1; simpa using this
    rw [List.getElem?_map, List.getElem?_range hj] at hx
    exact ⟨hj, Option.some.inj hx⟩
  refine ⟨some ⟨b, o, none⟩, len, cap, (List.range len).map X, rfl, ⟨by simp, hl, fun _ => ⟨b, o, rfl, (by have := block_of_cell hc0; rw [add_spotless, add_spotless] at this; exact this), fun j x hx => ?_⟩⟩, fun h => (by cases h), .inr ⟨_, _, hd, by simp, fun j x hx => ?_⟩, fun x hx => ?_, hm⟩
  · obtain ⟨hj, rfl⟩ := hget hx
    exact (hX j (by omega)).1
  · obtain ⟨hj, rfl⟩ := hget hx
    exact ⟨D j, by rw [List.getElem?_map, List.getElem?_range hj]; rfl, (hX j (by omega)).2.1⟩
  · obtain ⟨i, hi, rfl⟩ := List.mem_map.1 hx
    exact (hX i (by have := List.mem_range.1 hi; omega)).2.2

/-! The sizes. -/
theorem weights_mem_all {e : TypeId} : ∀ {ds : List (DataW H)} {d : DataW H}, d ∈ ds → ∀ n ∈ DataW.weights P e d, n ∈ DataW.weightsAll P e ds
  | [], d, h, n, hn => by cases h
  | y :: r, d, h, n, hn => by
    simp only [DataW.weightsAll, List.mem_append]
    rcases List.mem_cons.1 h with rfl | h
    · exact .inl hn
    · exact .inr (weights_mem_all h n hn)
theorem sizes_rows {t e : TypeId} (ht : P.underlying t = some (.slice e)) {rel : α → DataW H → Prop} {l : List α} {d : DataW H} {R : Nat} (h : ∀ n ∈ DataW.weights P t d, n ≤ R) (hr : relL rel l d) {Q : α → Prop}
    (hq : ∀ x d', rel x d' → (∀ n ∈ DataW.weights P e d', n ≤ R) → Q x) : (∀ x ∈ l, Q x) ∧ l.length * P.bytesOf e ≤ R := by
  rcases hr with ⟨_, rfl⟩ | ⟨ds, sp, rfl, hlen, hds⟩
  · exact ⟨fun x hx => (by cases hx), by simp⟩
  simp only [DataW.weights, ht, List.mem_cons, List.mem_append] at h
  refine ⟨fun x hx => ?_, ?_⟩
  · obtain ⟨j, hj, rfl⟩ := List.getElem_of_mem hx
    obtain ⟨d', hd', hrel⟩ := hds j _ (List.getElem?_eq_getElem hj)
    exact hq _ d' hrel fun n hn => h n (.inr (.inl (weights_mem_all (List.mem_of_getElem? hd') n hn)))
  · have h1 := h _ (.inl rfl)
    refine Nat.le_trans (Nat.mul_le_mul_right _ ?_) h1
    omega
theorem bulk_pos : ∀ d : DataW H, 1 ≤ Rows.uptoBulk d
  | .lit l => by cases l <;> simp [Rows.uptoBulk]
  | .nil => by simp [Rows.uptoBulk]
  | .ptr d => by simp [Rows.uptoBulk]
  | .slice e s => by simp [Rows.uptoBulk]
  | .agg p => by simp [Rows.uptoBulk]
  | .iface t d => by simp [Rows.uptoBulk]
  | .map e => by simp [Rows.uptoBulk]
  | .held d => by simp [Rows.uptoBulk]
theorem bulk_mem : ∀ {ds : List (DataW H)} {d : DataW H}, d ∈ ds → Rows.uptoBulk d ≤ Rows.uptoBulkAll ds
  | [], d, h => by cases h
  | y :: r, d, h => by
    simp only [Rows.uptoBulkAll]
    rcases List.mem_cons.1 h with rfl | h
    · omega
    · have := bulk_mem h; omega
theorem bulk_len : ∀ ds : List (DataW H), ds.length ≤ Rows.uptoBulkAll ds
  | [] => Nat.zero_le _
  | y :: r => by
    simp only [Rows.uptoBulkAll, List.length_cons]
    have := bulk_len r
    have := bulk_pos y
    omega
theorem bulk_rows {rel : α → DataW H → Prop} {l : List α} {d : DataW H} {M : Nat} (h : Rows.uptoBulk d ≤ M) (hr : relL rel l d) {Q : α → Prop} (hq : ∀ x d', rel x d' → Rows.uptoBulk d' ≤ M → Q x) : (∀ x ∈ l, Q x) ∧ l.length ≤ M := by
  rcases hr with ⟨_, rfl⟩ | ⟨ds, sp, rfl, hlen, hds⟩
  · exact ⟨fun x hx => (by cases hx), Nat.zero_le _⟩
  simp only [Rows.uptoBulk] at h
  refine ⟨fun x hx => ?_, ?_⟩
  · obtain ⟨j, hj, rfl⟩ := List.getElem_of_mem hx
    obtain ⟨d', hd', hrel⟩ := hds j _ (List.getElem?_eq_getElem hj)
    have := bulk_mem (List.mem_of_getElem? hd')
    exact hq _ d' hrel (by omega)
  · have := bulk_len ds
    omega
end
end Go.Proofs.YtkolpbjpgobkcaaGreatDoor
