/- The three statements on names: the walks of the laws, for every argument. -/
import Derived.Test.YtkgadpaganhngaaNa
import Derived.Test.YtkgadpaganhngaaLaw
import Derived.Deep.QuietTactic
import Derived.BigQuiet
import Derived.RegionTactic
import Derived.ChangeAlike
import Derived.Laws.IdiomStrings
namespace Go.Proofs.Ytkgadpaganhngaa
open Go.ChangeShapes Go.WideShapes Go.ChangeAt Go.RowKit
open Go.ChangeMaps (open_string shut_string)
set_option linter.unusedVariables false

attribute [local go_sem] eqGuard_errV_nil eqGuard_errV_iface eql_errV_nil neq_errV_nil eql_errV_form

theorem sameError_any (n m : Nat) (w : World) : Calls Try.prog 13 #[errV n, .int .i64 (m : Int)] w fun e w' => e = .returned (.bool (n == m)) ∧ w = w' := by
  by_cases hm : m = 0
  · have hz : ((m : Int) == 0) = true := by simp [hm]
    have H := Lib.hid hm
    clear hm
    go_enter Try.func13, Try.ntmps13
    go_wp2
    go_ret
    exact ⟨ret_bool (by rw [H.out]), rfl⟩
  · have he := fun w => eql_errV_iface n m w hm
    have hz : ((m : Int) == 0) = false := by rw [beq_eq_false_iff_ne]; omega
    clear hm
    go_enter Try.func13, Try.ntmps13
    go_wp2
    go_ret
    exact ⟨rfl, rfl⟩
theorem check_yes (s : ByteArray) (w : World) (h : nameB s.data.toList = true) (hs : s.size ≤ maxLen) : Calls Try.prog 14 #[.string s] w fun e w' => e = .returned (errV 0) ∧ w = w' :=
  (check_any s w hs).mono fun _ _ ⟨he, hw⟩ => ⟨by rw [he, nameF_yes h], hw⟩
theorem check_no (s : ByteArray) (w : World) (h : nameB s.data.toList = false) (hs : s.size ≤ maxLen) : Calls Try.prog 14 #[.string s] w fun e w' => e = .returned (errV 1) ∧ w = w' :=
  (check_any s w hs).mono fun _ _ ⟨he, hw⟩ => ⟨by rw [he, nameF_no h], hw⟩
theorem called_any (w : World) : Calls Try.prog 11 #[] w fun e w' => e = .returned (.bool true) ∧ w = w' := by
  go_enter Try.func11, Try.ntmps11
  go_wp2_with (first
    | (go_at_call 14; with_reducible refine (check_yes ⟨#[97, 95, 49]⟩ _ (by decide) (by decide)).mono ?_; rintro e w' ⟨rfl, rfl⟩)
    | (go_at_call 14; with_reducible refine (check_no ⟨#[49, 97]⟩ _ (by decide) (by decide)).mono ?_; rintro e w' ⟨rfl, rfl⟩))
  go_ret
  exact ⟨rfl, rfl⟩
theorem named_any (w : World) : Calls Try.prog 26 #[] w fun e w' => e = .returned (.bool true) ∧ w = w' := by
  go_enter Try.func26, Try.ntmps26
  go_wp2_with (first
    | (go_at_call 14; with_reducible refine (check_yes ⟨#[65]⟩ _ (by decide) (by decide)).mono ?_; rintro e w' ⟨rfl, rfl⟩)
    | (go_at_call 14; with_reducible refine (check_no ⟨#[]⟩ _ (by decide) (by decide)).mono ?_; rintro e w' ⟨rfl, rfl⟩))
  go_ret
  exact ⟨rfl, rfl⟩

theorem nameTells_walk (s : ByteArray) (w : World) (hs : s.size ≤ maxLen) : Calls Try.prog 3 #[.string s] w fun e w' => e = .returned (.bool true) ∧ Below w.heap.size w w' := by
  by_cases hx : nameB s.data.toList = true
  · have hc := Lib.hid (fun w => check_yes s w hx hs)
    have hn := Lib.hid (fun w => isName_any s w hs)
    go_enter Try.func3, Try.ntmps3
    go_wp2_with (first
      | (go_at_call 11; refine (called_any _).mono ?_; rintro e w' ⟨rfl, rfl⟩)
      | (go_at_call 14; refine (hc.out _).mono ?_; rintro e w' ⟨rfl, rfl⟩)
      | (go_at_call 12; refine (hn.out _).mono ?_; rintro e w' ⟨rfl, rfl⟩)
      | (go_at_call 13; refine (sameError_any 0 0 _).mono ?_; rintro e w' ⟨rfl, rfl⟩))
    go_ret
    exact ⟨rfl, Below.refl _ _⟩
  · have hx' : nameB s.data.toList = false := by simpa using hx
    have hc := Lib.hid (fun w => check_no s w hx' hs)
    have hn := Lib.hid (fun w => isName_any s w hs)
    go_enter Try.func3, Try.ntmps3
    go_wp2_with (first
      | (go_at_call 11; refine (called_any _).mono ?_; rintro e w' ⟨rfl, rfl⟩)
      | (go_at_call 14; refine (hc.out _).mono ?_; rintro e w' ⟨rfl, rfl⟩)
      | (go_at_call 12; refine (hn.out _).mono ?_; rintro e w' ⟨rfl, rfl⟩)
      | (go_at_call 13; refine (sameError_any 1 1 _).mono ?_; rintro e w' ⟨rfl, rfl⟩))
    go_ret
    exact ⟨rfl, Below.refl _ _⟩

/-! Names cut short and joined. -/
theorem nameB_len {l : List UInt8} (h : nameB l = true) : 0 < l.length ∧ l.length ≤ 20 := by
  match l with
  | [] => cases h
  | c :: r =>
    simp only [nameB, Bool.and_eq_true, decide_eq_true_eq] at h
    exact ⟨by simp, h.1.1⟩
theorem nameB_take {l : List UInt8} (h : nameB l = true) {k : Nat} (hk : 0 < k) : nameB (l.take k) = true := by
  match l, k with
  | [], _ => cases h
  | c :: r, k + 1 =>
    simp only [nameB, Bool.and_eq_true, decide_eq_true_eq, List.all_cons, List.length_cons, List.take_succ_cons] at h ⊢
    refine ⟨⟨?_, h.1.2⟩, h.2.1, ?_⟩
    · have h1 := h.1.1
      have h2 := List.length_take_le' k r
      have h3 : (List.take k r).length + 1 ≤ 20 := by omega
      exact decide_eq_true h3
    · rw [List.all_eq_true] at *
      exact fun x hx => h.2.2 x (List.mem_of_mem_take hx)
theorem nameB_append {l m : List UInt8} (hl : nameB l = true) (hm : nameB m = true) : nameB (l ++ m) = decide (l.length + m.length ≤ 20) := by
  match l, m with
  | [], _ => cases hl
  | _, [] => cases hm
  | c :: r, d :: q =>
    simp only [nameB, Bool.and_eq_true, decide_eq_true_eq] at hl hm
    have h1 : ((c :: r) ++ (d :: q)).all wordB = true := by rw [List.all_append, hl.2, hm.2]; rfl
    have h2 := hl.1.2
    simp only [List.cons_append] at h1
    simp only [nameB, List.cons_append, h2, h1, Bool.and_true]
    congr 1
    simp
    omega

theorem rem_nat (n : Int) (k : Nat) (hk : 0 < k) : ∃ r : Nat, (IntKind.u64.wrap n).tmod (k : Int) = (r : Int) ∧ r < k := by
  have h0 : 0 ≤ IntKind.u64.wrap n := by simp only [IntKind.wrap_u64]; omega
  obtain ⟨u, hu⟩ := Int.eq_ofNat_of_zero_le h0
  rw [hu]
  exact ⟨u % k, by rw [Int.tmod_eq_emod_of_nonneg (by omega)]; rfl, Nat.mod_lt _ hk⟩
theorem nameJoined_walk (a b : ByteArray) (n : Int) (w : World) (ha : a.size ≤ maxLen) (hb : b.size ≤ maxLen) : Calls Try.prog 4 #[.string a, .string b, .int .i64 n] w fun e w' => e = .returned (.bool true) ∧ Below w.heap.size w w' := by
  by_cases hx : nameB a.data.toList = true
  · by_cases hy : nameB b.data.toList = true
    · have hca := Lib.hid (fun w => check_yes a w hx ha)
      have hcb := Lib.hid (fun w => check_yes b w hy hb)
      have la : 0 < a.size ∧ a.size ≤ 20 := nameB_len hx
      have lb : 0 < b.size ∧ b.size ≤ 20 := nameB_len hy
      obtain ⟨r, hr, hrk⟩ := rem_nat n a.size la.1
      have hj : nameB (a ++ b).data.toList = decide (a.size + b.size ≤ 20) := by
        have := nameB_append hx hy
        simpa using this
      have hp : nameB (a.extract 0 (1 + r)).data.toList = true := by
        have := nameB_take hx (k := 1 + r) (by omega)
        simpa using this
      have hcj := Lib.hid (fun w => check_any (a ++ b) w (by simp [maxLen]; omega))
      have hcp := Lib.hid (fun w => check_yes (a.extract 0 (1 + r)) w hp (by simp [maxLen]; omega))
      clear hx hy ha hb
      obtain ⟨la0, la1⟩ := la
      obtain ⟨lb0, lb1⟩ := lb
      have HJ := Lib.hid hj
      clear hj hp
      go_enter Try.func4, Try.ntmps4
      go_wp2_with (first
        | (go_at_call 11; refine (called_any _).mono ?_; rintro e w' ⟨rfl, rfl⟩)
        | (go_at_call 14; with_reducible refine (hca.out _).mono ?_; rintro e w' ⟨rfl, rfl⟩)
        | (go_at_call 14; with_reducible refine (hcb.out _).mono ?_; rintro e w' ⟨rfl, rfl⟩)
        | (go_at_call 14; with_reducible refine (hcj.out _).mono ?_; rintro e w' ⟨rfl, rfl⟩)
        | (go_at_call 14; with_reducible refine (hcp.out _).mono ?_; rintro e w' ⟨rfl, rfl⟩))
      go_ret
      exact ⟨ret_bool (by
        have hj : nameB (a.data.toList ++ b.data.toList) = decide (a.size + b.size ≤ 20) := by simpa using HJ.out
        by_cases hd : a.size + b.size ≤ 20
        · have hd' : (a.size : Int) + b.size ≤ 20 := by omega
          simp [nameF, hj, hd, hd']
        · have hd' : ¬ (a.size : Int) + b.size ≤ 20 := by omega
          simp [nameF, hj, hd, hd']), Below.refl _ _⟩
    · have hy' : nameB b.data.toList = false := by simpa using hy
      have hca := Lib.hid (fun w => check_yes a w hx ha)
      have hcb := Lib.hid (fun w => check_no b w hy' hb)
      go_enter Try.func4, Try.ntmps4
      go_wp2_with (first
        | (go_at_call 11; refine (called_any _).mono ?_; rintro e w' ⟨rfl, rfl⟩)
        | (go_at_call 14; with_reducible refine (hca.out _).mono ?_; rintro e w' ⟨rfl, rfl⟩)
        | (go_at_call 14; with_reducible refine (hcb.out _).mono ?_; rintro e w' ⟨rfl, rfl⟩))
      go_ret
      exact ⟨rfl, Below.refl _ _⟩
  · have hx' : nameB a.data.toList = false := by simpa using hx
    have hca := Lib.hid (fun w => check_no a w hx' ha)
    have hcb := Lib.hid (fun w => check_any b w hb)
    go_enter Try.func4, Try.ntmps4
    go_wp2_with (first
      | (go_at_call 11; refine (called_any _).mono ?_; rintro e w' ⟨rfl, rfl⟩)
      | (go_at_call 14; with_reducible refine (hca.out _).mono ?_; rintro e w' ⟨rfl, rfl⟩)
      | (go_at_call 14; with_reducible refine (hcb.out _).mono ?_; rintro e w' ⟨rfl, rfl⟩))
    go_ret
    exact ⟨rfl, Below.refl _ _⟩

/-! A name with one byte replaced. -/
def putAt (l : List UInt8) (k : Nat) (c : UInt8) : List UInt8 := l.take k ++ c :: l.drop (k + 1)
theorem nameB_put {l : List UInt8} (h : nameB l = true) {k : Nat} (hk : k < l.length) (c : UInt8) : nameB (putAt l k c) = (letterB c || (digitB c && decide (0 < k))) := by
  match l, k with
  | [], _ => cases h
  | d :: r, 0 =>
    simp only [nameB, Bool.and_eq_true, decide_eq_true_eq, List.all_cons, List.length_cons] at h
    simp only [putAt, List.take_zero, List.nil_append, List.drop_succ_cons, List.drop_zero, nameB, List.all_cons, List.length_cons, h.2.2, Bool.and_true, h.1.1, decide_true, Bool.true_and, wordB]
    have : letterB c = true → digitB c = false := by
      intro h; simp [letterB, digitB, u8le, u8eq] at *; omega
    cases h1 : letterB c <;> cases h2 : digitB c <;> simp_all
  | d :: r, k + 1 =>
    simp only [nameB, Bool.and_eq_true, decide_eq_true_eq, List.all_cons, List.length_cons] at h hk
    have hk' : k < r.length := by omega
    have hlen : (putAt (d :: r) (k + 1) c).length = r.length + 1 := by
      simp only [putAt, List.length_append, List.length_cons, List.length_take, List.length_drop]; omega
    have hall : (r.take k ++ c :: r.drop (k + 1)).all wordB = wordB c := by
      have h1 : (r.take k).all wordB = true := by
        rw [List.all_eq_true]; exact fun x hx => (List.all_eq_true.mp h.2.2) x (List.mem_of_mem_take hx)
      have h2 : (r.drop (k + 1)).all wordB = true := by
        rw [List.all_eq_true]; exact fun x hx => (List.all_eq_true.mp h.2.2) x (List.mem_of_mem_drop hx)
      simp [List.all_append, h1, h2]
    have he : putAt (d :: r) (k + 1) c = d :: (r.take k ++ c :: r.drop (k + 1)) := by simp [putAt]
    rw [he] at hlen ⊢
    simp only [List.length_cons] at hlen
    simp only [nameB, List.all_cons, List.length_cons, hall, h.1.2, h.2.1, hlen, h.1.1]
    simp [wordB]
theorem conv_one (b : Nat) (c : UInt8) (W : World) (h : W.cell? ⟨b, 0, none⟩ = some (.int .u8 (c.toNat : Int))) :
    (convert 44 9 (.slice (some ⟨b, 0, none⟩) 1 1)).run Try.prog W = .ok (.string ⟨#[c]⟩) W :=
  run_convert_bytes_back W _ _ 5 ⟨b, 0, none⟩ 1 [c] Try.underlying44 Try.underlying5 Try.underlying9 (fun j hj => by
    have hj' : j < 1 := hj
    obtain rfl : j = 0 := by omega
    exact h)
set_option maxHeartbeats 1000000 in
theorem nameLetters_walk (s : ByteArray) (n : Int) (c : UInt8) (w : World) (hs : s.size ≤ maxLen) : Calls Try.prog 8 #[.string s, .int .i64 n, .int .u8 (c.toNat : Int)] w fun e w' => e = .returned (.bool true) ∧ Below w.heap.size w w' := by
  by_cases hx : nameB s.data.toList = true
  · have hca := Lib.hid (fun w => check_yes s w hx hs)
    have la : 0 < s.size ∧ s.size ≤ 20 := nameB_len hx
    obtain ⟨k, hr, hrk⟩ := rem_nat n s.size la.1
    have hj : nameB (s.extract 0 k ++ ⟨#[c]⟩ ++ s.extract (k + 1) s.size).data.toList = (letterB c || (digitB c && decide (0 < k))) := by
      rw [← nameB_put hx hrk c]
      have h1 : List.take (s.size - (k + 1)) (List.drop (k + 1) s.data.toList) = List.drop (k + 1) s.data.toList := List.take_of_length_le (by simp)
      simp [putAt, h1]
    obtain ⟨la0, la1⟩ := la
    have hct := Lib.hid (fun w => check_any (s.extract 0 k ++ ⟨#[c]⟩ ++ s.extract (k + 1) s.size) w (by have h1 : (⟨#[c]⟩ : ByteArray).size = 1 := rfl; simp only [ByteArray.size_append, ByteArray.size_extract, h1, maxLen]; omega))
    clear hx hs
    have HJ := Lib.hid hj
    clear hj
    go_enter Try.func8, Try.ntmps8
    go_wp2_with (first
      | (go_at_call 26; refine (named_any _).mono ?_; rintro e w' ⟨rfl, rfl⟩)
      | (go_at_call 14; with_reducible refine (hca.out _).mono ?_; rintro e w' ⟨rfl, rfl⟩))
    have hconv := fun W => conv_one w.heap.size c W
    have hk1 : k ≤ s.size := by omega
    have hk2 : k + 1 ≤ s.size := by omega
    go_region
    go_wp2_with (go_at_call 14; with_reducible refine (hct.out _).mono ?_; rintro e w' ⟨rfl, rfl⟩)
    all_goals
      go_ret
      refine ⟨ret_bool ?_, ?_⟩
    all_goals first
      | exact ((Below.refl _ _).alloc (Nat.le_refl _) _).drew
      | (have hj : nameB (List.take k s.data.toList ++ c :: List.take (s.size - (k + 1)) (List.drop (k + 1) s.data.toList)) = (letterB c || (digitB c && decide (0 < k))) := by simpa using HJ.out
         have e1 : letterB c = true ↔ (97 ≤ (c.toNat : Int) ∧ (c.toNat : Int) ≤ 122) ∨ (65 ≤ (c.toNat : Int) ∧ (c.toNat : Int) ≤ 90) ∨ (c.toNat : Int) = 95 := by
           simp [letterB, u8le, u8eq]; omega
         have e2 : digitB c = true ↔ 48 ≤ (c.toNat : Int) ∧ (c.toNat : Int) ≤ 57 := by simp [digitB, u8le]
         by_cases hk0 : 0 < k <;> by_cases h1 : letterB c = true <;> by_cases h2 : digitB c = true
         all_goals first
           | (simp [nameF, hj, h1, h2, hk0]; done)
           | (exfalso; simp only [h1, h2, true_iff, Bool.false_eq_true, false_iff] at e1 e2; omega))
  · have hx' : nameB s.data.toList = false := by simpa using hx
    have hca := Lib.hid (fun w => check_no s w hx' hs)
    go_enter Try.func8, Try.ntmps8
    go_wp2_with (first
      | (go_at_call 26; refine (named_any _).mono ?_; rintro e w' ⟨rfl, rfl⟩)
      | (go_at_call 14; with_reducible refine (hca.out _).mono ?_; rintro e w' ⟨rfl, rfl⟩))
    go_ret
    exact ⟨rfl, Below.refl _ _⟩
end Go.Proofs.Ytkgadpaganhngaa
